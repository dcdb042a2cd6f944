package tests

import (
	"math"
	"slices"
	"testing"

	"loop.example/g01216/impl"
)

// Promise 3: a hand has a whole chain exactly if its odd numbers let it.

func wantBool(t *testing.T, what string, got bool, ok bool, want bool) {
	t.Helper()
	if !ok || got != want {
		t.Errorf("%s: got %v, %v, want %v", what, got, ok, want)
	}
}

func wantParts(t *testing.T, what string, got [][]tile, ok bool, want [][]tile) {
	t.Helper()
	if !ok || !slices.EqualFunc(got, want, slices.Equal) {
		t.Errorf("%s: got %v, %v, want %v", what, got, ok, want)
	}
}

func TestPromise3Example(t *testing.T) {
	first, ok := impl.FirstWhole(setOf(2))
	wantNumbers(t, "first whole chain of the set of 2", first, ok, []int{0, 0, 1, 1, 2, 2, 0})
	ring, ok := impl.FirstRing(setOf(2))
	wantNumbers(t, "first whole ring of the set of 2", ring, ok, []int{0, 0, 1, 1, 2, 2, 0})
	hand := []tile{tl(0, 1), tl(1, 2), tl(1, 3)}
	odd, ok := impl.OddNumbers(hand)
	wantNumbers(t, "odd numbers of 01,12,13", odd, ok, []int{0, 1, 2, 3})
	can, ok := impl.CanChain(hand)
	wantBool(t, "CanChain of 01,12,13", can, ok, false)
	none, ok := impl.FirstWhole(hand)
	wantNothing(t, "FirstWhole of 01,12,13", len(none) == 0, ok)
	least, ok := impl.LeastChains(hand)
	wantNumber(t, "LeastChains of 01,12,13", least, ok, 2)
	least, ok = impl.LeastLeftOut(3)
	wantNumber(t, "LeastLeftOut of 3", least, ok, 1)
	out, ok := impl.FirstLeftOut(3)
	wantTiles(t, "FirstLeftOut of 3", out, ok, []tile{tl(0, 1)})
	count, ok := impl.CountSetChains(4)
	wantNumber(t, "CountSetChains of 4", count, ok, 126720)
}

func TestPromise3NoTiles(t *testing.T) {
	for _, hand := range [][]tile{nil, {}} {
		odd, ok := impl.OddNumbers(hand)
		wantNumbers(t, "OddNumbers", odd, ok, nil)
		parts, ok := impl.PartsOfHand(hand)
		wantParts(t, "PartsOfHand", parts, ok, nil)
		can, ok := impl.CanChain(hand)
		wantBool(t, "CanChain", can, ok, true)
		can, ok = impl.CanRing(hand)
		wantBool(t, "CanRing", can, ok, true)
		first, ok := impl.FirstWhole(hand)
		wantNumbers(t, "FirstWhole", first, ok, []int{0})
		first, ok = impl.FirstRing(hand)
		wantNumbers(t, "FirstRing", first, ok, []int{0})
		count, ok := impl.CountWhole(hand)
		wantNumber(t, "CountWhole", count, ok, 10)
		count, ok = impl.CountWithoutDoubles(hand)
		wantNumber(t, "CountWithoutDoubles", count, ok, 10)
		least, ok := impl.LeastChains(hand)
		wantNumber(t, "LeastChains", least, ok, 0)
		chains, ok := impl.ChainsOfHand(hand)
		wantLists(t, "ChainsOfHand", chains, ok, nil)
	}
}

func TestPromise3OddNumbersAndParts(t *testing.T) {
	for _, hand := range slices.Concat(hands(), countedHands(), greatHands()) {
		odd, ok := impl.OddNumbers(hand)
		wantNumbers(t, "OddNumbers", odd, ok, oddOf(hand))
		parts, ok := impl.PartsOfHand(hand)
		wantParts(t, "PartsOfHand", parts, ok, partsOf(hand))
		fewest := 0
		for _, part := range partsOf(hand) {
			fewest += max(1, len(oddOf(part))/2)
		}
		least, ok := impl.LeastChains(hand)
		wantNumber(t, "LeastChains", least, ok, fewest)
		together := len(partsOf(hand)) <= 1
		can, ok := impl.CanChain(hand)
		wantBool(t, "CanChain", can, ok, together && len(oddOf(hand)) <= 2)
		can, ok = impl.CanRing(hand)
		wantBool(t, "CanRing", can, ok, together && len(oddOf(hand)) == 0)
	}
	odd, ok := impl.OddNumbers([]tile{tl(4, 4), tl(7, 9), tl(9, 9), tl(7, 8)})
	wantNumbers(t, "odd beside doubles", odd, ok, []int{8, 9})
	parts, ok := impl.PartsOfHand([]tile{tl(8, 9), tl(5, 5), tl(2, 8), tl(4, 6), tl(3, 9), tl(1, 6), tl(6, 6)})
	wantParts(t, "parts told", parts, ok, [][]tile{{tl(1, 6), tl(4, 6), tl(6, 6)}, {tl(2, 8), tl(3, 9), tl(8, 9)}, {tl(5, 5)}})
}

// TestPromise3AllWholeChains holds every function against all whole chains, looked for without odd numbers.
func TestPromise3AllWholeChains(t *testing.T) {
	for _, hand := range countedHands() {
		all := wholeOf(hand)
		can, ok := impl.CanChain(hand)
		wantBool(t, "CanChain", can, ok, len(all) > 0)
		count, ok := impl.CountWhole(hand)
		wantNumber(t, "CountWhole", count, ok, len(all))
		first, ok := impl.FirstWhole(hand)
		if len(all) == 0 {
			wantNothing(t, "FirstWhole", len(first) == 0, ok)
		} else {
			wantNumbers(t, "FirstWhole", first, ok, all[0])
		}
		at := slices.IndexFunc(all, func(chain []int) bool { return chain[0] == chain[len(chain)-1] })
		can, ok = impl.CanRing(hand)
		wantBool(t, "CanRing", can, ok, at >= 0)
		ring, ok := impl.FirstRing(hand)
		if at < 0 {
			wantNothing(t, "FirstRing", len(ring) == 0, ok)
		} else {
			wantNumbers(t, "FirstRing", ring, ok, all[at])
		}
		for _, chain := range all[:min(len(all), 50)] {
			whole, ok := impl.IsWhole(hand, chain)
			wantBool(t, "IsWhole", whole, ok, true)
		}
	}
}

// TestPromise3AllHandsOfFourNumbers takes every hand with numbers up to 3, so that no kind of hand is left out.
func TestPromise3AllHandsOfFourNumbers(t *testing.T) {
	set := setOf(3)
	for some := range 1 << len(set) {
		hand := slices.DeleteFunc(setOf(3), func(x tile) bool { return some>>slices.Index(set, x)&1 == 0 })
		all := wholeOf(hand)
		can, ok := impl.CanChain(hand)
		wantBool(t, "CanChain", can, ok, len(all) > 0)
		count, ok := impl.CountWhole(hand)
		wantNumber(t, "CountWhole", count, ok, len(all))
		if first, _ := impl.FirstWhole(hand); len(all) > 0 && !slices.Equal(first, all[0]) {
			t.Error("FirstWhole of", hand, "is", first)
		}
	}
}

// TestPromise3Doubles: chains of the whole hand are those of the other tiles with the doubles put in.
func TestPromise3Doubles(t *testing.T) {
	for _, hand := range countedHands() {
		others := wholeOf(noDoubles(hand))
		count, ok := impl.CountWithoutDoubles(hand)
		wantNumber(t, "CountWithoutDoubles", count, ok, len(others))
		doubles, _ := impl.DoublesOf(hand)
		sum := 0
		for _, chain := range others {
			product := 1
			for _, number := range doubles {
				places := 0
				for _, x := range chain {
					if x == number {
						places++
					}
				}
				product *= places
			}
			sum += product
		}
		count, ok = impl.CountWhole(hand)
		wantNumber(t, "CountWhole by doubles", count, ok, sum)
	}
	count, ok := impl.CountWithoutDoubles(setOf(2))
	wantNumber(t, "CountWithoutDoubles of the set of 2", count, ok, 6)
	count, ok = impl.CountWhole(setOf(2))
	wantNumber(t, "CountWhole of the set of 2", count, ok, 12)
	count, ok = impl.CountWithoutDoubles([]tile{tl(3, 3), tl(4, 4)})
	wantNumber(t, "CountWithoutDoubles of doubles", count, ok, 10)
	count, ok = impl.CountWhole([]tile{tl(3, 3), tl(4, 4)})
	wantNumber(t, "CountWhole of doubles", count, ok, 0)
	count, ok = impl.CountWhole([]tile{tl(3, 3)})
	wantNumber(t, "CountWhole of a double", count, ok, 1)
	count, ok = impl.CountWithoutDoubles([]tile{tl(3, 3), tl(0, 1)})
	wantNumber(t, "CountWithoutDoubles of a double apart", count, ok, 2)
}

func TestPromise3GreatHands(t *testing.T) {
	for _, hand := range greatHands() {
		want := firstByLooking(hand)
		first, ok := impl.FirstWhole(hand)
		wantNumbers(t, "FirstWhole", first, ok, want)
		whole, ok := impl.IsWhole(hand, first)
		wantBool(t, "IsWhole of FirstWhole", whole, ok, true)
		ring, ok := impl.FirstRing(hand)
		if len(oddOf(hand)) > 0 {
			wantNothing(t, "FirstRing", len(ring) == 0, ok)
		} else {
			wantNumbers(t, "FirstRing", ring, ok, want)
		}
		all, ok := impl.ChainsOfHand(hand)
		wantLists(t, "ChainsOfHand", all, ok, [][]int{want})
	}
	for n := 3; n <= 9; n += 2 {
		first, ok := impl.FirstWhole(setOf(n))
		wantNothing(t, "FirstWhole of an odd set", len(first) == 0, ok)
		ring, ok := impl.FirstRing(without(setOf(n), []tile{tl(0, 1)}))
		wantNothing(t, "FirstRing of an odd set", len(ring) == 0, ok)
	}
}

// TestPromise3OrderOfHand: a hand is the same in any order.
func TestPromise3OrderOfHand(t *testing.T) {
	for _, hand := range countedHands() {
		for _, f := range []func([]tile) ([]int, bool){impl.OddNumbers, impl.FirstWhole, impl.FirstRing} {
			want, wantOk := f(hand)
			got, ok := f(reversed(hand))
			if ok != wantOk || !slices.Equal(got, want) {
				t.Error("another order of", hand, "gives", got, ok, "in place of", want, wantOk)
			}
		}
		want, _ := impl.CountWhole(hand)
		got, ok := impl.CountWhole(reversed(hand))
		wantNumber(t, "CountWhole of another order", got, ok, want)
	}
}

func TestPromise3LeastChains(t *testing.T) {
	for _, hand := range smallHands() {
		if len(hand) <= 7 {
			least, ok := impl.LeastChains(hand)
			wantNumber(t, "LeastChains", least, ok, leastCover(hand))
		}
	}
	for _, c := range []struct {
		hand []tile
		want int
	}{
		{[]tile{tl(3, 3)}, 1},
		{[]tile{tl(3, 3), tl(5, 5), tl(0, 1)}, 3},
		{[]tile{tl(0, 1), tl(1, 2), tl(1, 3), tl(7, 8), tl(7, 7)}, 3},
		{picked(func(x tile) bool { return x.Low == 0 }), 5},
		{setOf(8), 1},
		{fullHand(), 5},
	} {
		least, ok := impl.LeastChains(c.hand)
		wantNumber(t, "LeastChains told", least, ok, c.want)
	}
}

func TestPromise3ChainsOfHand(t *testing.T) {
	for _, hand := range slices.Concat(hands(), countedHands()) {
		var want [][]int
		possible := true
		for _, part := range partsOf(hand) {
			if len(oddOf(part)) > 2 {
				possible = false
				break
			}
			want = append(want, firstByLooking(part))
		}
		got, ok := impl.ChainsOfHand(hand)
		if possible {
			wantLists(t, "ChainsOfHand", got, ok, want)
		} else {
			wantNothing(t, "ChainsOfHand", len(got) == 0, ok)
		}
	}
	got, ok := impl.ChainsOfHand([]tile{tl(8, 9), tl(5, 5), tl(2, 8), tl(4, 6), tl(3, 9), tl(1, 6), tl(6, 6)})
	wantLists(t, "chains of parts told", got, ok, [][]int{{1, 6, 6, 4}, {2, 8, 9, 3}, {5, 5}})
	got, ok = impl.ChainsOfHand([]tile{tl(0, 0), tl(5, 6), tl(5, 7), tl(5, 8), tl(9, 9)})
	wantNothing(t, "ChainsOfHand with one part without a chain", len(got) == 0, ok)
}

func TestPromise3Sets(t *testing.T) {
	for n, want := range []int{1, 2, 12, 0, 126720, 0} {
		count, ok := impl.CountSetChains(n)
		wantNumber(t, "CountSetChains", count, ok, want)
		if n <= 3 {
			searched, ok := impl.CountWhole(setOf(n))
			wantNumber(t, "CountWhole of a set", searched, ok, want)
		}
	}
	for _, n := range append(badNumbers, 6, 7, 8, 9) {
		count, ok := impl.CountSetChains(n)
		wantNothing(t, "CountSetChains", count == 0, ok)
	}
	for _, n := range badNumbers {
		least, ok := impl.LeastLeftOut(n)
		wantNothing(t, "LeastLeftOut", least == 0, ok)
		out, ok := impl.FirstLeftOut(n)
		wantNothing(t, "FirstLeftOut", len(out) == 0, ok)
	}
}

func TestPromise3LeftOut(t *testing.T) {
	for n, want := range []int{0, 0, 0, 1, 0, 2, 0, 3, 0, 4} {
		least, ok := impl.LeastLeftOut(n)
		wantNumber(t, "LeastLeftOut", least, ok, want)
		for fewer := range least {
			if out, can := firstOut(setOf(n), fewer, nil); can {
				t.Error("fewer tiles can be left out of the set of", n, out)
			}
		}
		first, can := firstOut(setOf(n), least, nil)
		if !can {
			t.Error("so few tiles cannot be left out of the set of", n, least)
		}
		out, ok := impl.FirstLeftOut(n)
		wantTiles(t, "FirstLeftOut", out, ok, first)
		rest, _ := impl.MissingFrom(out, n)
		can, ok = impl.CanChain(rest)
		wantBool(t, "CanChain of the others", can, ok, true)
	}
	out, ok := impl.FirstLeftOut(9)
	wantTiles(t, "FirstLeftOut of 9", out, ok, []tile{tl(0, 1), tl(2, 3), tl(4, 5), tl(6, 7)})
}

func TestPromise3IsWhole(t *testing.T) {
	for _, chain := range chains() {
		hand := tilesOf(chain)
		for _, other := range chains() {
			tiles := tilesOf(other)
			want := len(tiles) == len(hand) && len(without(hand, tiles)) == 0
			whole, ok := impl.IsWhole(hand, other)
			wantBool(t, "IsWhole", whole, ok, want)
		}
		back := slices.Clone(chain)
		slices.Reverse(back)
		whole, ok := impl.IsWhole(reversed(hand), back)
		wantBool(t, "IsWhole backwards", whole, ok, true)
		whole, ok = impl.IsWhole(hand, chain[1:])
		wantBool(t, "IsWhole without a tile", whole, ok, false)
		for _, bad := range badChains() {
			whole, ok = impl.IsWhole(hand, bad)
			wantBool(t, "IsWhole of no chain", whole, ok, false)
		}
	}
	for number := range 10 {
		whole, ok := impl.IsWhole(nil, []int{number})
		wantBool(t, "IsWhole of one number for no tiles", whole, ok, true)
		whole, ok = impl.IsWhole([]tile{tl(number, number)}, []int{number})
		wantBool(t, "IsWhole of one number for a double", whole, ok, false)
	}
	hand := []tile{tl(0, 1), tl(1, 2)}
	for _, list := range [][]int{{}, {0, 1}, {0, 1, 3}, {0, 1, 2, 1}, {0, 1, 0}, {1, 0, 2}, {0, 1, 2, 2}, {0, 1, 2, 10}, {math.MinInt, 1, 2}} {
		whole, ok := impl.IsWhole(hand, list)
		wantBool(t, "IsWhole of 01,12", whole, ok, false)
	}
}

func TestPromise3MostTiles(t *testing.T) {
	if impl.MaxWhole != 12 {
		t.Error("MaxWhole is", impl.MaxWhole)
	}
	for _, c := range []struct {
		hand                 []tile
		want, withoutDoubles int
	}{{fullTwelve(), len(wholeOf(fullTwelve())), 2640}, {longTwelve(), 2, 2}, {starTwelve(), 0, 0}} {
		count, ok := impl.CountWhole(c.hand)
		wantNumber(t, "CountWhole of 12 tiles", count, ok, c.want)
		count, ok = impl.CountWithoutDoubles(c.hand)
		wantNumber(t, "CountWithoutDoubles of 12 tiles", count, ok, c.withoutDoubles)
	}
	for _, hand := range [][]tile{append(fullTwelve(), tl(4, 4)), append(longTwelve(), tl(5, 5)), append(starTwelve(), tl(7, 7)), setOf(4), setOf(8), fullHand(), reversed(fullHand()[:13])} {
		count, ok := impl.CountWhole(hand)
		wantNothing(t, "CountWhole of too many tiles", count == 0, ok)
		count, ok = impl.CountWithoutDoubles(hand)
		wantNothing(t, "CountWithoutDoubles of too many tiles", count == 0, ok)
	}
}
