package tests

import (
	"slices"
	"testing"
)

// tour returns a chain with all tiles of a hand that begins with start: there has to be one.
func tour(hand []tile, start int) []int {
	var left [10][10]bool
	for _, x := range hand {
		left[x.Low][x.High], left[x.High][x.Low] = true, true
	}
	var chain []int
	var visit func(number int)
	visit = func(number int) {
		for other := range left {
			if left[number][other] {
				left[number][other], left[other][number] = false, false
				visit(other)
			}
		}
		chain = append(chain, number)
	}
	visit(start)
	slices.Reverse(chain)
	return chain
}

// longRing has all 45 tiles of the set of 8.
func longRing() []int {
	return tour(picked(func(x tile) bool { return x.High <= 8 }), 0)
}

// longChain has 51 tiles, more than any other one: 01, 23, 45 and 67 are left out.
func longChain() []int {
	return tour(picked(func(x tile) bool { return x.High != x.Low+1 || x.Low%2 == 1 || x.Low == 8 }), 8)
}

// chains returns ordinary chains and the extreme ones, rings among them.
func chains() [][]int {
	list := [][]int{
		{0}, {5}, {9},
		{0, 0}, {9, 9}, {1, 1},
		{0, 1}, {1, 0}, {0, 9}, {9, 0}, {2, 7},
		{0, 1, 1, 2}, {1, 1, 2}, {2, 1, 1}, {1, 1, 2, 2}, {0, 0, 1, 1, 2, 2},
		{0, 1, 2, 0}, {0, 1, 1, 2, 0}, {0, 0, 1, 2, 0}, {0, 1, 2, 0, 0}, {3, 3, 4, 4, 5, 5, 3},
		{1, 2, 3, 1, 4, 5, 1}, {1, 2, 3, 1, 4}, {4, 1, 2, 3, 1}, {3, 1, 1, 2, 3, 3},
		{0, 1, 2, 3, 4, 5, 6, 7, 8, 9}, {9, 8, 7, 6, 5, 4, 3, 2, 1, 0}, {9, 8, 8, 7, 9, 9},
		longRing(), longRing()[3:30], longChain(), longChain()[:40],
	}
	seed := 11
	for range 20 {
		chain := []int{seed % 10}
		for range seed % 17 {
			seed = (seed*163 + 229) % 10007
			if longer := append(slices.Clone(chain), seed%10); isChain(longer) {
				chain = longer
			}
		}
		list = append(list, chain)
	}
	return list
}

// badChains returns lists that are no chains.
func badChains() [][]int {
	list := [][]int{
		nil, {},
		{0, 1, 0}, {1, 0, 1}, {1, 1, 1}, {0, 1, 2, 0, 1}, {0, 1, 2, 1}, {3, 3, 4, 5, 3, 3}, {2, 0, 0, 0},
		append(longRing(), 1), append(longChain(), 9), append(longRing(), longRing()...),
		make([]int, 56), make([]int, 57), make([]int, 1000),
	}
	for _, n := range badNumbers {
		list = append(list, []int{n}, []int{n, n}, []int{0, n}, []int{n, 0}, []int{0, n, 1}, []int{0, 1, 2, 0, n})
	}
	return list
}

// tileOf is the test's own way to tell the tile of two numbers.
func tileOf(a, b int) tile { return tl(min(a, b), max(a, b)) }

// tilesOf is the test's own way to tell the tiles of a list of numbers.
func tilesOf(list []int) []tile {
	var tiles []tile
	for i := 1; i < len(list); i++ {
		tiles = append(tiles, tileOf(list[i-1], list[i]))
	}
	return tiles
}

// isChain is the test's own way to tell whether a list is a chain.
func isChain(list []int) bool {
	tiles := tilesOf(list)
	for i, x := range tiles {
		if slices.Contains(tiles[:i], x) {
			return false
		}
	}
	return len(list) > 0 && !slices.ContainsFunc(list, func(n int) bool { return n < 0 || n > 9 })
}

// isRing is the test's own way to tell whether a chain is a ring.
func isRing(chain []int) bool { return len(chain) > 1 && chain[0] == chain[len(chain)-1] }

// smallHands returns hands of at most 8 tiles: drawn ones, which often hang together, and told ones.
func smallHands() [][]tile {
	list := [][]tile{
		nil,
		{},
		{tl(3, 3)},
		{tl(4, 7)},
		{tl(1, 2), tl(0, 2), tl(0, 1)},
		{tl(3, 3), tl(0, 1), tl(0, 2), tl(1, 2)},
		{tl(0, 1), tl(0, 2), tl(0, 3)},
		{tl(0, 0), tl(1, 1), tl(2, 2), tl(3, 3), tl(4, 4), tl(5, 5), tl(6, 6), tl(7, 7)},
		{tl(0, 1), tl(1, 2), tl(2, 3), tl(3, 4), tl(4, 5), tl(5, 6), tl(6, 7), tl(7, 8)},
		{tl(0, 2), tl(0, 1), tl(2, 2), tl(1, 2), tl(0, 0), tl(1, 1)},
		manyChains(),
		{tl(8, 9), tl(9, 9), tl(8, 8), tl(7, 9), tl(7, 8), tl(7, 7)},
	}
	seed := 5
	for most := range 8 {
		for size := 1; size <= 8; size++ {
			var hand []tile
			hand, seed = drawn(picked(func(x tile) bool { return x.High <= most+2 }), size, seed)
			list = append(list, hand)
		}
	}
	return list
}

// manyChains has 8 tiles and 192 chains: no hand of so many tiles has more.
func manyChains() []tile {
	return []tile{tl(0, 0), tl(0, 1), tl(0, 2), tl(0, 3), tl(0, 4), tl(1, 2), tl(1, 3), tl(1, 4)}
}

// chainsByTiles is the test's own way to tell the chains of a hand: those of 1, 2, .. tiles, in order, each tile laid behind all chains that it fits.
func chainsByTiles(hand []tile) [][][]int {
	shorter := [][]int{{0}, {1}, {2}, {3}, {4}, {5}, {6}, {7}, {8}, {9}}
	var all [][][]int
	for range hand {
		var longer [][]int
		for _, chain := range shorter {
			for _, x := range hand {
				for _, other := range slices.Compact([]int{x.Low, x.High}) {
					next := append(slices.Clone(chain), other)
					if tileOf(chain[len(chain)-1], other) == x && isChain(next) {
						longer = append(longer, next)
					}
				}
			}
		}
		slices.SortFunc(longer, slices.Compare)
		all = append(all, longer)
		shorter = longer
	}
	return all
}

func wantLists(t *testing.T, what string, got [][]int, ok bool, want [][]int) {
	t.Helper()
	if !ok || !slices.EqualFunc(got, want, slices.Equal) {
		t.Errorf("%s: got %v, %v, want %v", what, got, ok, want)
	}
}
