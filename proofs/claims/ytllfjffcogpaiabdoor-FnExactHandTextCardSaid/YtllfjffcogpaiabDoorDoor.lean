/- What the wraps of rows with listed variables lean on. -/
import Derived.Test.YtllfjffcogpaiabDoorLaw
import Derived.ProofKit
import Derived.LaidMore
import Derived.OpenShut
import Derived.Stop.Joined
namespace Go.Proofs.YtllfjffcogpaiabDoor
end Go.Proofs.YtllfjffcogpaiabDoor
