package tests

import (
	"math"
	"math/big"
	"slices"
	"testing"

	"loop.example/g01216/impl"
)

type ratio = impl.Ratio

// maxListed is the greatest n of whose set all hands are listed: it has 32768.
const maxListed = 4

// badInts are below 0 or above 10^9, far and near.
var badInts = []int{math.MinInt, math.MinInt + 1, -1 << 62, -1 << 32, -1000000001, -1000000000, -256, -1, 1000000001, 1 << 31, 1 << 32, 1<<32 + 1, 1 << 62, math.MaxInt - 1, math.MaxInt}

func rt(num, den int) ratio { return ratio{Num: num, Den: den} }

// ratOf returns a ratio as a number that is calculated with.
func ratOf(r ratio) *big.Rat { return big.NewRat(int64(r.Num), int64(r.Den)) }

// lowest returns a number as the ratio that it has in lowest terms.
func lowest(r *big.Rat) ratio { return rt(int(r.Num().Int64()), int(r.Denom().Int64())) }

// ratioTold is the test's own way to tell the chance of some of all hands.
func ratioTold(some, all int) ratio { return lowest(big.NewRat(int64(some), int64(all))) }

func wantRatio(t *testing.T, what string, got ratio, ok bool, want ratio) {
	t.Helper()
	if !ok || got != want {
		t.Errorf("%s: got %v, %v, want %v", what, got, ok, want)
	}
}

// oneIf returns 1 for true.
func oneIf(is bool) int {
	if is {
		return 1
	}
	return 0
}

func worthOfDouble(x tile) int { return oneIf(x.Low == x.High) }

func worthOfPips(x tile) int { return x.Low + x.High }

func worthOfNumber(number int) func(x tile) int {
	return func(x tile) int { return oneIf(x.Low == number || x.High == number) }
}

func worthOfNumbers(numbers []int) func(x tile) int {
	return func(x tile) int { return oneIf(slices.Contains(numbers, x.Low) || slices.Contains(numbers, x.High)) }
}

func worthOfTiles(given []tile) func(x tile) int {
	return func(x tile) int { return oneIf(has(given, x)) }
}

// tally tells how many hands of each size come to each worth together.
type tally [][]int

func newTally(set []tile, worth func(x tile) int) tally {
	all := 0
	for _, x := range set {
		all += worth(x)
	}
	list := make(tally, len(set)+1)
	for size := range list {
		list[size] = make([]int, all+1)
	}
	return list
}

// of returns how many hands of a size come to a worth, which may be more than any hand comes to.
func (list tally) of(size, worth int) int {
	if worth >= len(list[size]) {
		return 0
	}
	return list[size][worth]
}

// hands returns how many hands of a size there are.
func (list tally) hands(size int) int {
	all := 0
	for _, hands := range list[size] {
		all += hands
	}
	return all
}

// listedTally tells it from the list of all hands of a set.
func listedTally(n int, worth func(x tile) int) tally {
	set := setOf(n)
	list := newTally(set, worth)
	worths := make([]int, len(set))
	for i, x := range set {
		worths[i] = worth(x)
	}
	for hand := range 1 << len(set) {
		size, all := 0, 0
		for i, worth := range worths {
			if hand>>i&1 == 1 {
				size, all = size+1, all+worth
			}
		}
		list[size][all]++
	}
	return list
}

// grownTally tells it for sets with too many hands to list: each tile is in a hand or not.
func grownTally(n int, worth func(x tile) int) tally {
	set := setOf(n)
	list := newTally(set, worth)
	list[0][0] = 1
	for _, x := range set {
		more := newTally(set, worth)
		for size := range list {
			for all, hands := range list[size] {
				if hands > 0 {
					more[size][all] += hands
					more[size+1][all+worth(x)] += hands
				}
			}
		}
		list = more
	}
	return list
}

// tallyOf is the test's own way to tell how many hands of a set come to what.
func tallyOf(n int, worth func(x tile) int) tally {
	if n <= maxListed {
		return listedTally(n, worth)
	}
	return grownTally(n, worth)
}

// handsOfSize lists all hands of so many tiles of a list.
func handsOfSize(list []tile, size int) [][]tile {
	if size == 0 {
		return [][]tile{nil}
	}
	var all [][]tile
	for i, x := range list {
		for _, rest := range handsOfSize(list[i+1:], size-1) {
			all = append(all, append([]tile{x}, rest...))
		}
	}
	return all
}

// twoHands tells how many pairs of hands of each two sizes a set has, and how many of them without a double: each tile is in the first one, in the second one, or in none.
func twoHands(n int) (all, without map[[2]int]int) {
	all, without = map[[2]int]int{}, map[[2]int]int{}
	set := setOf(n)
	var share func(at int, sizes [2]int, doubles int)
	share = func(at int, sizes [2]int, doubles int) {
		if at == len(set) {
			all[sizes]++
			without[sizes] += oneIf(doubles == 0)
			return
		}
		share(at+1, sizes, doubles)
		for i := range sizes {
			more := sizes
			more[i]++
			share(at+1, more, doubles+worthOfDouble(set[at]))
		}
	}
	share(0, [2]int{}, 0)
	return all, without
}

// withoutDoublesTold is the chance that so many tiles, drawn from a set one after the other, are no doubles.
func withoutDoublesTold(n, tiles int) ratio {
	left, others := len(setOf(n)), len(noDoubles(setOf(n)))
	chance := big.NewRat(1, 1)
	for range tiles {
		chance.Mul(chance, big.NewRat(int64(others), int64(left)))
		left, others = left-1, others-1
	}
	return lowest(chance)
}

// comparedRatios are ratios that may be compared, increasing; neighbours are as near to each other as ratios can be.
func comparedRatios() []ratio {
	return []ratio{
		rt(0, 1), rt(1, 1000000000), rt(1, 999999999), rt(1, 999999998), rt(1, 10), rt(333333333, 1000000000), rt(1, 3), rt(333333334, 999999999), rt(499999999, 999999999), rt(1, 2), rt(500000000, 999999999),
		rt(2, 3), rt(7, 10), rt(999999997, 999999998), rt(999999998, 999999999), rt(999999999, 1000000000), rt(1, 1), rt(1000000000, 999999999), rt(999999999, 999999998), rt(7, 4), rt(2, 1), rt(42, 1),
		rt(499999999, 2), rt(999999999, 2), rt(999999999, 1), rt(1000000000, 1),
	}
}

// badRatios are no ratios, or none that may be compared.
func badRatios() []ratio {
	list := []ratio{
		rt(0, 0), rt(1, 0), rt(7, 0), rt(1000000000, 0), rt(0, -1), rt(1, -1), rt(1, -2), rt(7, -4), rt(-1, 1), rt(-1, 2), rt(-7, 4), rt(-1, -1), rt(-1, -2), rt(-1000000000, 1), rt(1, -1000000000),
		rt(0, 2), rt(0, 3), rt(0, 999999999), rt(0, 1000000000), rt(2, 2), rt(2, 4), rt(4, 2), rt(6, 9), rt(9, 6), rt(999999999, 3), rt(3, 999999999), rt(1000000000, 1000000000), rt(1000000000, 2), rt(5, 1000000000), rt(999999999, 999999999), rt(12, 18),
		rt(1000000001, 1), rt(1, 1000000001), rt(1000000001, 1000000000), rt(1000000000, 1000000001), rt(1000000001, 2), rt(2, 1000000001), rt(1<<32, 1), rt(1, 1<<32), rt(1<<32+1, 1), rt(1, 1<<32+1), rt(1<<62, 1), rt(1, 1<<62),
	}
	for _, n := range badInts {
		list = append(list, rt(n, 1), rt(1, n), rt(n, n), rt(n, 3), rt(0, n))
	}
	return list
}
