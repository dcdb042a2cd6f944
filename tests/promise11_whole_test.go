package tests

import (
	"slices"
	"testing"

	"loop.example/g01216/impl"
)

// Promise 11 as far as chapter 3 goes: every function accepts all arguments without panicking and modifies none of them.

// partCalls are all calls of chapter 3 that succeed for every hand.
func partCalls() []handCall {
	calls := []handCall{
		numbersCall("OddNumbers", impl.OddNumbers),
		numberCall("LeastChains", impl.LeastChains),
		{"PartsOfHand", func(hand []tile) (bool, bool) {
			got, ok := impl.PartsOfHand(hand)
			return len(got) == 0, ok
		}},
		{"CanChain", func(hand []tile) (bool, bool) {
			got, ok := impl.CanChain(hand)
			return !got, ok
		}},
		{"CanRing", func(hand []tile) (bool, bool) {
			got, ok := impl.CanRing(hand)
			return !got, ok
		}},
	}
	for _, list := range append(badChains(), chains()...) {
		calls = append(calls, handCall{"IsWhole", func(hand []tile) (bool, bool) {
			got, ok := impl.IsWhole(hand, list)
			return !got, ok
		}})
	}
	return calls
}

// wholeCalls are the other calls of chapter 3 that take a hand: they fail for no hand, and for some hands.
func wholeCalls() []handCall {
	return []handCall{
		numbersCall("FirstWhole", impl.FirstWhole),
		numbersCall("FirstRing", impl.FirstRing),
		numberCall("CountWhole", impl.CountWhole),
		numberCall("CountWithoutDoubles", impl.CountWithoutDoubles),
		{"ChainsOfHand", func(hand []tile) (bool, bool) {
			got, ok := impl.ChainsOfHand(hand)
			return len(got) == 0, ok
		}},
	}
}

func TestPromise11BadHandsOfWholeChainsFail(t *testing.T) {
	for _, c := range partCalls() {
		for _, hand := range append(hands(), greatHands()...) {
			if _, ok := c.call(hand); !ok {
				t.Error(c.name, "fails for the hand", hand)
			}
		}
	}
	for _, c := range wholeCalls() {
		for _, hand := range append(hands(), greatHands()...) {
			if zero, ok := c.call(hand); !ok && !zero {
				t.Error(c.name, "fails with a result for the hand", hand)
			}
		}
	}
	for _, c := range append(partCalls(), wholeCalls()...) {
		for _, hand := range badHands() {
			zero, ok := c.call(hand)
			wantNothing(t, c.name, zero, ok)
		}
	}
}

func TestPromise11HandsOfWholeChainsStay(t *testing.T) {
	calls := append(partCalls(), wholeCalls()...)
	for _, list := range slices.Concat(hands(), greatHands(), badHands()) {
		for _, behind := range []tile{tl(7, -7), tl(5, 5)} {
			hand, whole := roomy(list, behind)
			before := slices.Clone(whole)
			for _, c := range calls {
				c.call(hand)
				if !slices.Equal(whole, before) {
					t.Fatal(c.name, "has modified its hand", list)
				}
			}
		}
	}
	for _, list := range append(chains(), badChains()...) {
		for _, behind := range []int{-7, 3} {
			chain, whole := roomy(list, behind)
			before := slices.Clone(whole)
			for _, hand := range [][]tile{nil, tilesOf(list), fullHand()} {
				impl.IsWhole(hand, chain)
			}
			if !slices.Equal(whole, before) {
				t.Fatal("IsWhole has modified its chain", list)
			}
		}
	}
}

// TestPromise11RoomBehindWholeHands: what lies behind a hand or a list is no part of it.
func TestPromise11RoomBehindWholeHands(t *testing.T) {
	hand := []tile{tl(0, 1), tl(1, 2), tl(0, 2), tl(0, 5)}
	first, ok := impl.FirstWhole(hand[:3])
	wantNumbers(t, "FirstWhole", first, ok, []int{0, 1, 2, 0})
	odd, ok := impl.OddNumbers(hand[:3])
	wantNumbers(t, "OddNumbers", odd, ok, nil)
	list := []int{0, 1, 2, 0, 5}
	whole, ok := impl.IsWhole(hand[:3], list[:4])
	wantBool(t, "IsWhole", whole, ok, true)
	whole, ok = impl.IsWhole(hand[:3], list)
	wantBool(t, "IsWhole of more", whole, ok, false)
}

// TestPromise11WholeResultsAreNew: writing into a result, up to its capacity, changes neither an argument nor a later result.
func TestPromise11WholeResultsAreNew(t *testing.T) {
	results := map[string]func(hand []tile) ([]int, bool){
		"OddNumbers":     impl.OddNumbers,
		"FirstWhole":     impl.FirstWhole,
		"FirstRing":      func(hand []tile) ([]int, bool) { return impl.FirstRing(hand[:3]) },
		"FirstRing, no":  func([]tile) ([]int, bool) { return impl.FirstRing(nil) },
		"FirstWhole, no": func([]tile) ([]int, bool) { return impl.FirstWhole(nil) },
	}
	for name, f := range results {
		hand, whole := roomy([]tile{tl(0, 1), tl(0, 2), tl(1, 2), tl(2, 3)}, tl(5, 5))
		before := slices.Clone(whole)
		first, ok := f(hand)
		kept := slices.Clone(first)
		wantNumbers(t, name, first, ok, kept)
		overwriteNumbers(first)
		if !slices.Equal(whole, before) {
			t.Error(name, "hands out the memory of its hand")
		}
		again, ok := f(hand)
		wantNumbers(t, name+" again", again, ok, kept)
	}
	first, _ := impl.FirstLeftOut(9)
	first[0] = tl(-1, -1)
	again, ok := impl.FirstLeftOut(9)
	wantTiles(t, "FirstLeftOut again", again, ok, []tile{tl(0, 1), tl(2, 3), tl(4, 5), tl(6, 7)})
}

// TestPromise11PartsAreApart: no two lists of one result share memory with each other or with the hand.
func TestPromise11PartsAreApart(t *testing.T) {
	hand, whole := roomy([]tile{tl(0, 0), tl(0, 1), tl(2, 2), tl(3, 4), tl(5, 6), tl(6, 7)}, tl(9, 9))
	before := slices.Clone(whole)
	want := [][]tile{{tl(0, 0), tl(0, 1)}, {tl(2, 2)}, {tl(3, 4)}, {tl(5, 6), tl(6, 7)}}
	parts, ok := impl.PartsOfHand(hand)
	wantParts(t, "PartsOfHand", parts, ok, want)
	for i, part := range parts {
		wantTiles(t, "a part behind those written into", part, ok, want[i])
		part = part[:cap(part)]
		for j := range part {
			part[j] = tl(-1, -1)
		}
	}
	wantChains := [][]int{{0, 0, 1}, {2, 2}, {3, 4}, {5, 6, 7}}
	chains, ok := impl.ChainsOfHand(hand)
	wantLists(t, "ChainsOfHand", chains, ok, wantChains)
	for i, chain := range chains {
		wantNumbers(t, "a chain behind those written into", chain, ok, wantChains[i])
		overwriteNumbers(chain)
	}
	if !slices.Equal(whole, before) {
		t.Error("a result hands out the memory of its hand")
	}
}

func TestPromise11HugeWholeArguments(t *testing.T) {
	hand := make([]tile, 1<<20)
	for _, c := range append(partCalls(), wholeCalls()...) {
		zero, ok := c.call(hand)
		wantNothing(t, c.name, zero, ok)
	}
	list := make([]int, 1<<20)
	for i := range list {
		list[i] = i % 10
	}
	whole, ok := impl.IsWhole(fullHand(), list)
	wantBool(t, "IsWhole of a huge list", whole, ok, false)
}
