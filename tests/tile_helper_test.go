package tests

import (
	"math"
	"slices"
	"testing"

	"loop.example/g01216/impl"
)

type tile = impl.Tile

// badNumbers are outside 0..MaxPips.
var badNumbers = []int{math.MinInt, -256, -1, impl.MaxPips + 1, 48, 256, math.MaxInt}

// tl writes a tile as it is told, also one that is none.
func tl(low, high int) tile { return tile{Low: low, High: high} }

// fullHand has all 55 tiles in their order.
func fullHand() []tile {
	var all []tile
	for low := 0; low <= 9; low++ {
		for high := low; high <= 9; high++ {
			all = append(all, tl(low, high))
		}
	}
	return all
}

// reversed returns a list backwards.
func reversed(list []tile) []tile {
	back := slices.Clone(list)
	slices.Reverse(back)
	return back
}

// hands returns ordinary hands and the extreme ones, in mixed orders.
func hands() [][]tile {
	all := fullHand()
	list := [][]tile{
		nil,
		{},
		{tl(0, 0)},
		{tl(9, 9)},
		{tl(0, 9)},
		{tl(1, 2), tl(2, 2)},
		{tl(2, 2), tl(1, 2), tl(0, 2), tl(0, 0)},
		all,
		reversed(all),
		all[:54],
		reversed(all[:6]),
	}
	seed := 7
	for size := 1; size <= 55; size += 3 {
		var hand []tile
		hand, seed = drawn(all, size, seed)
		list = append(list, hand)
	}
	return list
}

// drawn returns a hand of size tiles, or of all if there are fewer, drawn from a list by a seed, and the seed for the next hand.
func drawn(from []tile, size int, seed int) ([]tile, int) {
	left := slices.Clone(from)
	var hand []tile
	for len(hand) < size && len(left) > 0 {
		seed = (seed*163 + 229) % 10007
		at := seed % len(left)
		hand = append(hand, left[at])
		left = slices.Delete(left, at, at+1)
	}
	return hand, seed
}

// badHands returns lists that are no hands.
func badHands() [][]tile {
	list := [][]tile{
		{tl(1, 0)},
		{tl(0, 1), tl(2, 1)},
		{tl(0, 1), tl(0, 1)},
		{tl(3, 3), tl(0, 1), tl(3, 3)},
		append(fullHand(), tl(0, 0)),
		append(fullHand(), tl(9, 9)),
		append(fullHand(), fullHand()...),
		append(fullHand(), tl(9, 10)),
		append(fullHand()[:54], tl(8, 9)),
	}
	for _, n := range badNumbers {
		list = append(list, []tile{tl(0, n)}, []tile{tl(n, 9)}, []tile{tl(n, n)}, []tile{tl(0, 1), tl(0, n)})
	}
	return list
}

// badNames returns lists that are not MaxPips + 1 different numbers in 0..MaxPips.
func badNames() [][]int {
	list := [][]int{
		nil,
		{},
		{0},
		{0, 1, 2, 3, 4, 5, 6, 7, 8},
		{0, 1, 2, 3, 4, 5, 6, 7, 8, 9, 9},
		{0, 1, 2, 3, 4, 5, 6, 7, 8, 9, 10},
		{0, 0, 2, 3, 4, 5, 6, 7, 8, 9},
		{0, 1, 2, 3, 4, 5, 6, 7, 8, 0},
		{1, 1, 1, 1, 1, 1, 1, 1, 1, 1},
		{1, 2, 3, 4, 5, 6, 7, 8, 9, 10},
		{-1, 0, 1, 2, 3, 4, 5, 6, 7, 8},
	}
	for _, n := range badNumbers {
		list = append(list, []int{n, 1, 2, 3, 4, 5, 6, 7, 8, 9}, []int{0, 1, 2, 3, 4, 5, 6, 7, 8, n})
	}
	return list
}

// goodNames returns ways to rename all numbers.
func goodNames() [][]int {
	return [][]int{
		{0, 1, 2, 3, 4, 5, 6, 7, 8, 9},
		{9, 8, 7, 6, 5, 4, 3, 2, 1, 0},
		{1, 2, 3, 4, 5, 6, 7, 8, 9, 0},
		{3, 0, 9, 7, 1, 8, 2, 6, 4, 5},
	}
}

// picked lists, in the order of tiles, those for which keep is true: the test's own way to tell what a hand should be.
func picked(keep func(t tile) bool) []tile {
	var list []tile
	for _, t := range fullHand() {
		if keep(t) {
			list = append(list, t)
		}
	}
	return list
}

func has(hand []tile, t tile) bool { return slices.Contains(hand, t) }

func wantTiles(t *testing.T, what string, got []tile, ok bool, want []tile) {
	t.Helper()
	if !ok || !slices.Equal(got, want) {
		t.Errorf("%s: got %v, %v, want %v", what, got, ok, want)
	}
}

func wantNumbers(t *testing.T, what string, got []int, ok bool, want []int) {
	t.Helper()
	if !ok || !slices.Equal(got, want) {
		t.Errorf("%s: got %v, %v, want %v", what, got, ok, want)
	}
}

func wantNumber(t *testing.T, what string, got int, ok bool, want int) {
	t.Helper()
	if !ok || got != want {
		t.Errorf("%s: got %v, %v, want %v", what, got, ok, want)
	}
}

// wantNothing checks that a call failed and that its other result is zero.
func wantNothing(t *testing.T, what string, zero bool, ok bool) {
	t.Helper()
	if ok || !zero {
		t.Errorf("%s: has not failed with a zero result: zero %v, ok %v", what, zero, ok)
	}
}
