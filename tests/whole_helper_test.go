package tests

import "slices"

// setOf is the test's own way to tell the set of n.
func setOf(n int) []tile { return picked(func(x tile) bool { return x.High <= n }) }

// without returns the tiles of a hand that are not in another one, in their order in the hand.
func without(hand []tile, out []tile) []tile {
	return slices.DeleteFunc(slices.Clone(hand), func(x tile) bool { return has(out, x) })
}

// noDoubles returns the tiles of a hand that are no doubles.
func noDoubles(hand []tile) []tile {
	return slices.DeleteFunc(slices.Clone(hand), func(x tile) bool { return x.Low == x.High })
}

// oddOf is the test's own way to tell the odd numbers of a hand.
func oddOf(hand []tile) []int {
	var odd []int
	for number := range 10 {
		tiles := 0
		for _, x := range noDoubles(hand) {
			if x.Low == number || x.High == number {
				tiles++
			}
		}
		if tiles%2 == 1 {
			odd = append(odd, number)
		}
	}
	return odd
}

// partsOf is the test's own way to tell the parts of a hand: each grows from its first tile by tiles that have a number of it.
func partsOf(hand []tile) [][]tile {
	rest := picked(func(x tile) bool { return has(hand, x) })
	var parts [][]tile
	for len(rest) > 0 {
		part := []tile{rest[0]}
		for i := 0; i < len(part); i++ {
			for _, x := range rest {
				touches := x.Low == part[i].Low || x.Low == part[i].High || x.High == part[i].Low || x.High == part[i].High
				if touches && !has(part, x) {
					part = append(part, x)
				}
			}
		}
		parts = append(parts, picked(func(x tile) bool { return has(part, x) }))
		rest = without(rest, part)
	}
	return parts
}

// wholeOf is the test's own way to tell all whole chains of a hand, in order: it tries all ways to lay its tiles.
func wholeOf(hand []tile) [][]int {
	var all [][]int
	used := make([]bool, len(hand))
	var lay func(chain []int)
	lay = func(chain []int) {
		if len(chain) == len(hand)+1 {
			all = append(all, slices.Clone(chain))
		}
		end := chain[len(chain)-1]
		for other := range 10 {
			if at := slices.Index(hand, tileOf(end, other)); at >= 0 && !used[at] {
				used[at] = true
				lay(append(chain, other))
				used[at] = false
			}
		}
	}
	for number := range 10 {
		lay([]int{number})
	}
	return all
}

// letsFrom is the test's own way to tell by its numbers whether a hand has a whole chain that begins with a number.
func letsFrom(hand []tile, start int) bool {
	if len(hand) == 0 {
		return true
	}
	odd := oddOf(hand)
	begins := slices.ContainsFunc(hand, func(x tile) bool { return x.Low == start || x.High == start })
	return begins && len(partsOf(hand)) == 1 && (len(odd) == 0 || len(odd) == 2 && slices.Contains(odd, start))
}

// firstByLooking is the test's own way to tell the first whole chain of a hand that has one: it looks ahead before it lays a tile.
func firstByLooking(hand []tile) []int {
	rest := slices.Clone(hand)
	chain := []int{0}
	for !letsFrom(rest, chain[0]) {
		chain[0]++
	}
	for len(rest) > 0 {
		end := chain[len(chain)-1]
		other := 0
		for !has(rest, tileOf(end, other)) || !letsFrom(without(rest, []tile{tileOf(end, other)}), other) {
			other++
		}
		rest = without(rest, []tile{tileOf(end, other)})
		chain = append(chain, other)
	}
	return chain
}

// trail returns a chain over the numbers 0 up to most, laid by a seed tile by tile as long as one fits and up to size tiles, and the seed for the next one.
func trail(most int, size int, seed int) ([]int, int) {
	seed = (seed*163 + 229) % 10007
	chain := []int{seed % (most + 1)}
	for range 3 * size {
		seed = (seed*163 + 229) % 10007
		longer := append(slices.Clone(chain), seed%(most+1))
		if isChain(longer) && len(longer) <= size+1 {
			chain = longer
		}
	}
	return chain, seed
}

// countedHands returns hands of at most 12 tiles: told ones, drawn ones, and the tiles of chains and rings in mixed orders.
func countedHands() [][]tile {
	list := append(smallHands(),
		[]tile{tl(0, 1), tl(1, 2), tl(1, 3)},
		[]tile{tl(4, 5), tl(0, 1), tl(5, 6), tl(1, 2), tl(9, 9)},
		[]tile{tl(0, 0), tl(1, 1)},
		[]tile{tl(9, 9)},
		[]tile{tl(8, 9), tl(9, 9)},
		[]tile{tl(0, 1), tl(2, 3), tl(1, 3), tl(0, 2), tl(2, 2)},
		[]tile{tl(0, 1), tl(0, 2), tl(1, 2), tl(2, 3), tl(2, 4), tl(3, 4)},
		[]tile{tl(5, 5), tl(6, 7), tl(7, 8), tl(6, 8)},
		[]tile{tl(0, 1), tl(0, 2), tl(1, 2), tl(7, 8), tl(7, 9), tl(8, 9)},
		without(setOf(3), []tile{tl(0, 1)}),
		setOf(0), setOf(1), setOf(2), setOf(3),
		fullTwelve(), longTwelve(), starTwelve(),
	)
	seed := 3
	for most := 2; most <= 9; most++ {
		for size := 1; size <= 12; size++ {
			var hand []tile
			hand, seed = drawn(setOf(most), size, seed)
			list = append(list, hand)
			var chain []int
			chain, seed = trail(most, size, seed)
			hand, seed = drawn(tilesOf(chain), 12, seed)
			list = append(list, hand)
		}
	}
	return list
}

// fullTwelve has all tiles of the set of 4 but three doubles: 12, with many whole rings.
func fullTwelve() []tile { return without(setOf(4), []tile{tl(0, 0), tl(2, 2), tl(4, 4)}) }

// longTwelve has 12 tiles with two odd numbers.
func longTwelve() []tile {
	return tilesOf([]int{9, 9, 8, 7, 7, 6, 5, 4, 3, 3, 2, 1, 0})
}

// starTwelve has 12 tiles and no whole chain.
func starTwelve() []tile {
	return append(picked(func(x tile) bool { return x.Low == 0 }), tl(3, 3), tl(5, 5))
}

// greatHands returns hands with whole chains, most of them of more than 12 tiles.
func greatHands() [][]tile {
	list := [][]tile{
		setOf(2), setOf(4), setOf(6), reversed(setOf(8)), noDoubles(setOf(8)),
		tilesOf(longChain()), reversed(tilesOf(longChain())), tilesOf(longRing()[5:40]),
		without(setOf(5), []tile{tl(0, 1), tl(2, 3)}),
		without(setOf(7), []tile{tl(2, 5), tl(3, 4), tl(0, 7)}),
	}
	seed := 19
	for most := 3; most <= 9; most++ {
		for size := 10; size <= 50; size += 5 {
			var chain []int
			chain, seed = trail(most, size, seed)
			var hand []tile
			hand, seed = drawn(tilesOf(chain), 55, seed)
			list = append(list, hand)
		}
	}
	return list
}

// leastCover is the test's own way to tell the fewest chains that together use each tile of a hand once: it tries all ways to share out the tiles.
func leastCover(hand []tile) int {
	least := make([]int, 1<<len(hand))
	for all := 1; all < len(least); all++ {
		least[all] = len(hand)
		for some := all; some > 0; some = (some - 1) & all {
			if least[all] <= least[all-some]+1 {
				continue
			}
			var part []tile
			for i, x := range hand {
				if some>>i&1 == 1 {
					part = append(part, x)
				}
			}
			if len(wholeOf(part)) > 0 {
				least[all] = least[all-some] + 1
			}
		}
	}
	return least[len(least)-1]
}

// firstOut is the test's own way to tell the first hand of size tiles without which those of a set have a whole chain.
func firstOut(set []tile, size int, out []tile) ([]tile, bool) {
	if size == 0 {
		rest := without(set, out)
		// The odd numbers are asked first, since the parts take long to tell.
		return out, len(oddOf(rest)) <= 2 && len(partsOf(rest)) <= 1
	}
	at := 0
	if len(out) > 0 {
		at = slices.Index(set, out[len(out)-1]) + 1
	}
	for ; at < len(set); at++ {
		if first, ok := firstOut(set, size-1, append(slices.Clone(out), set[at])); ok {
			return first, true
		}
	}
	return nil, false
}
