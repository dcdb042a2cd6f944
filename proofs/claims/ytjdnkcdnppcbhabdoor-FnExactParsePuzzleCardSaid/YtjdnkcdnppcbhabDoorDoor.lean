/- What the wraps of rows with listed variables lean on. -/
import Derived.Test.YtjdnkcdnppcbhabDoorLaw
import Derived.ProofKit
import Derived.LaidMore
import Derived.OpenShut
import Derived.Stop.Joined
namespace Go.Proofs.YtjdnkcdnppcbhabDoor
end Go.Proofs.YtjdnkcdnppcbhabDoor
