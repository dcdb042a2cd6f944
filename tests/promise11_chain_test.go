package tests

import (
	"math"
	"slices"
	"testing"

	"loop.example/g01216/impl"
)

// Promise 11 as far as chapter 2 goes: every function accepts all arguments without panicking and modifies none of them.

// listCall is a call of a function that takes a list of numbers; it tells whether the results but the last one are zero, and the last one.
type listCall struct {
	name string
	call func(list []int) (bool, bool)
}

func listsCall(name string, f func(list []int) ([]int, bool)) listCall {
	return listCall{name, func(list []int) (bool, bool) {
		got, ok := f(list)
		return len(got) == 0, ok
	}}
}

// chainCalls are all calls of chapter 2 that succeed for every chain.
func chainCalls() []listCall {
	return []listCall{
		{"TilesOfChain", func(chain []int) (bool, bool) {
			got, ok := impl.TilesOfChain(chain)
			return len(got) == 0, ok
		}},
		{"EndsOfChain", func(chain []int) (bool, bool) {
			front, back, ok := impl.EndsOfChain(chain)
			return front == 0 && back == 0, ok
		}},
		{"IsRing", func(chain []int) (bool, bool) {
			got, ok := impl.IsRing(chain)
			return !got, ok
		}},
		{"FittingTiles", func(chain []int) (bool, bool) {
			got, ok := impl.FittingTiles(chain, fullHand())
			return len(got) == 0, ok
		}},
		{"ChainText", func(chain []int) (bool, bool) {
			got, ok := impl.ChainText(chain)
			return got == "", ok
		}},
		listsCall("TurnChain", impl.TurnChain),
		listsCall("PutDoubles", func(chain []int) ([]int, bool) { return impl.PutDoubles(chain, fullHand()) }),
		listsCall("DropDoubles", impl.DropDoubles),
	}
}

// fittingCalls are the other calls of chapter 2 that take a chain: they fail for no chain, and for some chains.
func fittingCalls() []listCall {
	calls := []listCall{
		listsCall("SpinRing", func(chain []int) ([]int, bool) { return impl.SpinRing(chain, 1) }),
		listsCall("JoinChains of two", func(chain []int) ([]int, bool) { return impl.JoinChains(chain, chain) }),
	}
	for number := -1; number <= 10; number++ {
		calls = append(calls,
			listsCall("JoinChains a", func(chain []int) ([]int, bool) { return impl.JoinChains(chain, []int{number}) }),
			listsCall("JoinChains b", func(chain []int) ([]int, bool) { return impl.JoinChains([]int{number}, chain) }),
			listsCall("LayTile in front", func(chain []int) ([]int, bool) { return impl.LayTile(chain, tl(2, number), true) }),
			listsCall("LayTile behind", func(chain []int) ([]int, bool) { return impl.LayTile(chain, tl(2, number), false) }),
		)
	}
	return calls
}

// groupCalls are all calls of chapter 2 that take a hand of any size.
func groupCalls() []handCall {
	calls := []handCall{{"GroupsOf", func(hand []tile) (bool, bool) {
		got, ok := impl.GroupsOf(hand)
		return len(got) == 0, ok
	}}}
	for _, chain := range chains() {
		calls = append(calls,
			tilesCall("FittingTiles", func(hand []tile) ([]tile, bool) { return impl.FittingTiles(chain, hand) }),
			numbersCall("PutDoubles", func(hand []tile) ([]int, bool) { return impl.PutDoubles(chain, hand) }),
		)
	}
	return calls
}

// searchCalls are all calls of chapter 2 that take a hand of at most MaxChained tiles.
func searchCalls() []handCall {
	return []handCall{
		{"AllChains", func(hand []tile) (bool, bool) {
			got, ok := impl.AllChains(hand)
			return len(got) == 0, ok
		}},
		numbersCall("CountByTiles", impl.CountByTiles),
		numbersCall("LongestChain", impl.LongestChain),
	}
}

func TestPromise11BadChainsFail(t *testing.T) {
	for _, c := range chainCalls() {
		for _, chain := range chains() {
			if _, ok := c.call(chain); !ok {
				t.Error(c.name, "fails for the chain", chain)
			}
		}
	}
	for _, c := range append(chainCalls(), fittingCalls()...) {
		for _, chain := range badChains() {
			zero, ok := c.call(chain)
			wantNothing(t, c.name, zero, ok)
		}
	}
}

func TestPromise11BadHandsOfChainsFail(t *testing.T) {
	for _, c := range groupCalls() {
		for _, hand := range hands() {
			if _, ok := c.call(hand); !ok {
				t.Error(c.name, "fails for the hand", hand)
			}
		}
	}
	for _, c := range searchCalls() {
		for _, hand := range hands() {
			zero, ok := c.call(hand)
			if ok != (len(hand) <= 8) || !ok && !zero {
				t.Error(c.name, "of the hand", hand, "zero", zero, "ok", ok)
			}
		}
	}
	for _, c := range append(groupCalls(), searchCalls()...) {
		for _, hand := range badHands() {
			zero, ok := c.call(hand)
			wantNothing(t, c.name, zero, ok)
		}
	}
}

func TestPromise11ChainAndHandBad(t *testing.T) {
	for _, chain := range badChains() {
		for _, hand := range append(badHands(), nil) {
			fitting, ok := impl.FittingTiles(chain, hand)
			wantNothing(t, "FittingTiles", len(fitting) == 0, ok)
			put, ok := impl.PutDoubles(chain, hand)
			wantNothing(t, "PutDoubles", len(put) == 0, ok)
		}
		for _, n := range badNumbers {
			spun, ok := impl.SpinRing(chain, n)
			wantNothing(t, "SpinRing", len(spun) == 0, ok)
			for _, front := range []bool{true, false} {
				laid, ok := impl.LayTile(chain, tl(n, n), front)
				wantNothing(t, "LayTile", len(laid) == 0, ok)
			}
		}
	}
}

func TestPromise11ChainsStay(t *testing.T) {
	for _, list := range append(chains(), badChains()...) {
		for _, behind := range []int{-7, 3} {
			chain, whole := roomy(list, behind)
			before := slices.Clone(whole)
			impl.IsChain(chain)
			for _, c := range append(chainCalls(), fittingCalls()...) {
				c.call(chain)
				if !slices.Equal(whole, before) {
					t.Fatal(c.name, "has modified its chain", list)
				}
			}
		}
	}
	for _, list := range append(append(hands(), smallHands()...), badHands()...) {
		hand, whole := roomy(list, tl(7, -7))
		before := slices.Clone(whole)
		for _, c := range append(groupCalls(), searchCalls()...) {
			c.call(hand)
			if !slices.Equal(whole, before) {
				t.Fatal(c.name, "has modified its hand", list)
			}
		}
	}
}

// TestPromise11RoomBehindChains: what lies behind a chain is no part of it, and stays when something is laid there.
func TestPromise11RoomBehindChains(t *testing.T) {
	whole := []int{0, 1, 2, 3, 0}
	tiles, ok := impl.TilesOfChain(whole[:3])
	wantTiles(t, "TilesOfChain", tiles, ok, []tile{tl(0, 1), tl(1, 2)})
	laid, ok := impl.LayTile(whole[:3], tl(2, 5), false)
	wantNumbers(t, "LayTile", laid, ok, []int{0, 1, 2, 5})
	joined, ok := impl.JoinChains(whole[:3], []int{2, 6, 7})
	wantNumbers(t, "JoinChains", joined, ok, []int{0, 1, 2, 6, 7})
	put, ok := impl.PutDoubles(whole[:3], []tile{tl(0, 0), tl(3, 3)})
	wantNumbers(t, "PutDoubles", put, ok, []int{0, 0, 1, 2})
	ring, ok := impl.IsRing(whole[:4])
	if ring || !ok {
		t.Error("IsRing", ring, ok)
	}
	if !slices.Equal(whole, []int{0, 1, 2, 3, 0}) {
		t.Error("a call has written behind its chain:", whole)
	}
}

// TestPromise11ChainResultsAreNew: writing into a result, up to its capacity, changes neither an argument nor a later result.
func TestPromise11ChainResultsAreNew(t *testing.T) {
	results := map[string]func(chain []int) ([]int, bool){
		"TurnChain":        impl.TurnChain,
		"DropDoubles":      impl.DropDoubles,
		"SpinRing by 0":    func(chain []int) ([]int, bool) { return impl.SpinRing(chain, 0) },
		"SpinRing by 1":    func(chain []int) ([]int, bool) { return impl.SpinRing(chain, 1) },
		"JoinChains a":     func(chain []int) ([]int, bool) { return impl.JoinChains(chain, []int{0}) },
		"JoinChains b":     func(chain []int) ([]int, bool) { return impl.JoinChains([]int{0}, chain) },
		"LayTile in front": func(chain []int) ([]int, bool) { return impl.LayTile(chain, tl(0, 5), true) },
		"LayTile behind":   func(chain []int) ([]int, bool) { return impl.LayTile(chain, tl(0, 5), false) },
		"PutDoubles":       func(chain []int) ([]int, bool) { return impl.PutDoubles(chain, fullHand()) },
		"PutDoubles, none": func(chain []int) ([]int, bool) { return impl.PutDoubles(chain, nil) },
		"ParseChain":       func([]int) ([]int, bool) { return impl.ParseChain("01230") },
		"LongestChain":     func([]int) ([]int, bool) { return impl.LongestChain(manyChains()) },
		"LongestChain, no": func([]int) ([]int, bool) { return impl.LongestChain(nil) },
		"CountByTiles":     func([]int) ([]int, bool) { return impl.CountByTiles(manyChains()) },
	}
	for name, f := range results {
		chain, whole := roomy([]int{0, 1, 2, 3, 0}, 4)
		before := slices.Clone(whole)
		first, ok := f(chain)
		kept := slices.Clone(first)
		wantNumbers(t, name, first, ok, kept)
		overwriteNumbers(first)
		if !slices.Equal(whole, before) {
			t.Error(name, "hands out the memory of its chain")
		}
		again, ok := f(chain)
		wantNumbers(t, name+" again", again, ok, kept)
	}
	hand, whole := roomy([]tile{tl(0, 1), tl(0, 2)}, tl(0, 3))
	fitting, ok := impl.FittingTiles([]int{0}, hand)
	wantTiles(t, "FittingTiles", fitting, ok, []tile{tl(0, 1), tl(0, 2)})
	fitting[0] = tl(-1, -1)
	if whole[0] != tl(0, 1) {
		t.Error("FittingTiles hands out the memory of its hand")
	}
}

func overwriteNumbers(list []int) {
	list = list[:cap(list)]
	for i := range list {
		list[i] = math.MinInt
	}
}

// TestPromise11ListsAreApart: no two lists of one result share memory.
func TestPromise11ListsAreApart(t *testing.T) {
	hand := append(manyChains()[:7:7], tl(8, 9))
	for _, f := range []func() ([][]int, bool){
		func() ([][]int, bool) { return impl.AllChains(manyChains()) },
		func() ([][]int, bool) { return impl.GroupsOf(hand) },
	} {
		wantListsApart(t, f, 2)
	}
}

// wantListsApart checks that no two lists of a result, which has at least so many, share memory.
func wantListsApart(t *testing.T, f func() ([][]int, bool), least int) {
	t.Helper()
	want, ok := f()
	got, _ := f()
	if !ok || len(want) < least {
		t.Error("too few lists:", want, ok)
	}
	for i := range got {
		overwriteNumbers(got[i])
		for j := i + 1; j < len(got); j++ {
			wantNumbers(t, "a list beside one written into", got[j], ok, want[j])
		}
	}
	again, ok := f()
	wantLists(t, "a call made again", again, ok, want)
}

func TestPromise11HugeChains(t *testing.T) {
	list := make([]int, 1<<20)
	for i := range list {
		list[i] = i % 10
	}
	if impl.IsChain(list) {
		t.Error("a huge list is a chain")
	}
	for _, c := range append(chainCalls(), fittingCalls()...) {
		zero, ok := c.call(list)
		wantNothing(t, c.name, zero, ok)
	}
	hand := make([]tile, 1<<20)
	for _, c := range append(groupCalls(), searchCalls()...) {
		zero, ok := c.call(hand)
		wantNothing(t, c.name, zero, ok)
	}
}

func TestPromise11AllShortChainTexts(t *testing.T) {
	texts := []string{""}
	for range 5 {
		var longer []string
		for _, text := range texts {
			chain, ok := impl.ParseChain(text)
			back, backOk := impl.ChainText(chain)
			if ok && (!backOk || back != text) || !ok && len(chain) > 0 {
				t.Errorf("ParseChain(%q): got %v, %v", text, chain, ok)
			}
			for _, letter := range []byte("-,0129 \n\xff") {
				longer = append(longer, text+string([]byte{letter}))
			}
		}
		texts = longer
	}
}
