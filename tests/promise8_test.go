package tests

import (
	"math/big"
	"slices"
	"testing"

	"loop.example/g01216/impl"
)

// Promise 8: chances are exact and add up to one, and means follow from them.

// drawnSets are all n of whose sets hands are drawn.
const drawnSets = 7

func TestPromise8Example(t *testing.T) {
	hands, ok := impl.CountHands(6, 7)
	wantNumber(t, "CountHands", hands, ok, 1184040)
	chance, ok := impl.ChanceOfTile(6, 7)
	wantRatio(t, "ChanceOfTile", chance, ok, rt(1, 4))
	mean, ok := impl.DoublesMean(6, 7)
	wantRatio(t, "DoublesMean", mean, ok, rt(7, 4))
	mean, ok = impl.PipsMean(6, 7)
	wantRatio(t, "PipsMean", mean, ok, rt(42, 1))
	chance, ok = impl.ChanceOfChain(1, 2)
	wantRatio(t, "ChanceOfChain", chance, ok, rt(2, 3))
}

// TestPromise8SevenOfSix tells the chances of seven tiles of the set of 6, reckoned apart from the program.
func TestPromise8SevenOfSix(t *testing.T) {
	for many, want := range []ratio{rt(1, 1), rt(1, 4), rt(1, 18), rt(5, 468), rt(1, 585), rt(1, 4680), rt(1, 53820), rt(1, 1184040), rt(0, 1), rt(0, 1)} {
		chance, ok := impl.ChanceOfTiles(6, 7, many)
		wantRatio(t, "ChanceOfTiles", chance, ok, want)
	}
	for many, want := range []ratio{rt(323, 3289), rt(15827, 49335), rt(47481, 131560), rt(4655, 26312), rt(4655, 118404), rt(49, 13156), rt(49, 394680), rt(1, 1184040)} {
		chance, ok := impl.ChanceOfDoubles(6, 7, many)
		wantRatio(t, "ChanceOfDoubles", chance, ok, want)
		chance, ok = impl.ChanceOfTimes(6, 7, many)
		wantRatio(t, "ChanceOfTimes", chance, ok, want)
	}
	for many, want := range []ratio{rt(1, 1), rt(323, 3289), rt(1, 184), rt(1, 9867), rt(0, 1), rt(0, 1), rt(0, 1), rt(0, 1)} {
		chance, ok := impl.ChanceWithout(6, 7, many)
		wantRatio(t, "ChanceWithout", chance, ok, want)
	}
	for _, c := range []struct {
		sum, hands int
		chance     ratio
	}{{0, 0, rt(0, 1)}, {14, 0, rt(0, 1)}, {15, 3, rt(1, 394680)}, {42, 65746, rt(32873, 592020)}, {69, 3, rt(1, 394680)}, {70, 0, rt(0, 1)}, {168, 0, rt(0, 1)}, {1000, 0, rt(0, 1)}} {
		hands, ok := impl.CountWithPips(6, 7, c.sum)
		wantNumber(t, "CountWithPips", hands, ok, c.hands)
		chance, ok := impl.ChanceOfPips(6, 7, c.sum)
		wantRatio(t, "ChanceOfPips", chance, ok, c.chance)
	}
	sum, ok := impl.LikeliestPips(6, 7)
	wantNumber(t, "LikeliestPips", sum, ok, 42)
	chance, ok := impl.ChanceOfOpening(6, 7)
	wantRatio(t, "ChanceOfOpening", chance, ok, rt(2966, 3289))
	chance, ok = impl.ChanceOfBoth(6, 7, 7)
	wantRatio(t, "ChanceOfBoth", chance, ok, rt(1, 345))
}

// TestPromise8OneTile: the set of 0 has one tile, a double.
func TestPromise8OneTile(t *testing.T) {
	for k := range 2 {
		hands, ok := impl.CountHands(0, k)
		wantNumber(t, "CountHands", hands, ok, 1)
		chance, ok := impl.ChanceOfTile(0, k)
		wantRatio(t, "ChanceOfTile", chance, ok, rt(k, 1))
		for many := range 2 {
			chance, ok = impl.ChanceOfTiles(0, k, many)
			wantRatio(t, "ChanceOfTiles", chance, ok, rt(oneIf(many <= k), 1))
			chance, ok = impl.ChanceOfDoubles(0, k, many)
			wantRatio(t, "ChanceOfDoubles", chance, ok, rt(oneIf(many == k), 1))
			chance, ok = impl.ChanceOfTimes(0, k, many)
			wantRatio(t, "ChanceOfTimes", chance, ok, rt(oneIf(many == k), 1))
			chance, ok = impl.ChanceWithout(0, k, many)
			wantRatio(t, "ChanceWithout", chance, ok, rt(oneIf(many*k == 0), 1))
			chance, ok = impl.ChanceOfPips(0, k, many)
			wantRatio(t, "ChanceOfPips", chance, ok, rt(1-many, 1))
		}
		mean, ok := impl.DoublesMean(0, k)
		wantRatio(t, "DoublesMean", mean, ok, rt(k, 1))
		mean, ok = impl.PipsMean(0, k)
		wantRatio(t, "PipsMean", mean, ok, rt(0, 1))
		sum, ok := impl.LikeliestPips(0, k)
		wantNumber(t, "LikeliestPips", sum, ok, 0)
		chance, ok = impl.ChanceOfOpening(0, k)
		wantRatio(t, "ChanceOfOpening", chance, ok, rt(k, 1))
		chance, ok = impl.ChanceOfBoth(0, k, 0)
		wantRatio(t, "ChanceOfBoth", chance, ok, rt(1-k, 1))
		chance, ok = impl.ChanceOfBoth(0, 0, k)
		wantRatio(t, "ChanceOfBoth", chance, ok, rt(1-k, 1))
	}
}

func TestPromise8CountHands(t *testing.T) {
	// A hand has the last tile of a set or not, so that the numbers are those of Pascal's triangle.
	row := []int{1}
	for tiles := 1; tiles <= 28; tiles++ {
		next := append(slices.Clone(row), 0)
		for i, number := range row {
			next[i+1] += number
		}
		row = next
		n := slices.IndexFunc([]int{1, 3, 6, 10, 15, 21, 28}, func(size int) bool { return size == tiles })
		for k, want := range row {
			if n >= 0 {
				hands, ok := impl.CountHands(n, k)
				wantNumber(t, "CountHands", hands, ok, want)
			}
		}
	}
	for n := range 5 {
		all := listedTally(n, func(tile) int { return 0 })
		for k := range all {
			hands, ok := impl.CountHands(n, k)
			wantNumber(t, "CountHands", hands, ok, all.hands(k))
		}
	}
	hands, ok := impl.CountHands(6, 14)
	wantNumber(t, "CountHands", hands, ok, 40116600)
}

// TestPromise8SecondWay: where all hands are listed, the other way of the tests comes to the same.
func TestPromise8SecondWay(t *testing.T) {
	for n := range maxListed + 1 {
		for _, worth := range []func(tile) int{worthOfDouble, worthOfPips, worthOfNumber(0), worthOfNumber(n)} {
			listed, grown := listedTally(n, worth), grownTally(n, worth)
			for size := range listed {
				wantNumbers(t, "a tally", grown[size], true, listed[size])
			}
		}
	}
}

func TestPromise8ChanceOfTiles(t *testing.T) {
	seed := 5
	for n := range drawnSets {
		set := setOf(n)
		for many := range len(set) + 1 {
			var some []tile
			some, seed = drawn(set, many, seed)
			// Which tiles are given makes no difference.
			for _, given := range [][]tile{set[:many], set[len(set)-many:], some} {
				hands := tallyOf(n, worthOfTiles(given))
				for k := range len(set) + 1 {
					chance, ok := impl.ChanceOfTiles(n, k, many)
					wantRatio(t, "ChanceOfTiles", chance, ok, ratioTold(hands.of(k, many), hands.hands(k)))
					if many > k && chance != rt(0, 1) {
						t.Error("more given tiles than the hand has:", n, k, many, chance)
					}
				}
			}
		}
		for k := range len(set) + 1 {
			chance, ok := impl.ChanceOfTile(n, k)
			wantRatio(t, "ChanceOfTile", chance, ok, ratioTold(k, len(set)))
		}
	}
}

func TestPromise8ChanceOfDoubles(t *testing.T) {
	for n := range drawnSets {
		hands := tallyOf(n, worthOfDouble)
		for k := range len(setOf(n)) + 1 {
			for many := range n + 2 {
				chance, ok := impl.ChanceOfDoubles(n, k, many)
				wantRatio(t, "ChanceOfDoubles", chance, ok, ratioTold(hands.of(k, many), hands.hands(k)))
			}
			none, all := hands.of(k, 0), hands.hands(k)
			chance, ok := impl.ChanceOfOpening(n, k)
			wantRatio(t, "ChanceOfOpening", chance, ok, ratioTold(all-none, all))
		}
	}
}

func TestPromise8ChanceOfTimes(t *testing.T) {
	for n := range drawnSets {
		for number := range n + 1 {
			hands := tallyOf(n, worthOfNumber(number))
			for k := range len(setOf(n)) + 1 {
				for many := range n + 2 {
					chance, ok := impl.ChanceOfTimes(n, k, many)
					wantRatio(t, "ChanceOfTimes", chance, ok, ratioTold(hands.of(k, many), hands.hands(k)))
				}
			}
		}
	}
}

func TestPromise8ChanceWithout(t *testing.T) {
	for n := range drawnSets {
		numbers := []int{0, 1, 2, 3, 4, 5, 6}[:n+1]
		for many := range n + 2 {
			// Which numbers are given makes no difference.
			for _, given := range [][]int{numbers[:many], numbers[n+1-many:]} {
				hands := tallyOf(n, worthOfNumbers(given))
				for k := range len(setOf(n)) + 1 {
					chance, ok := impl.ChanceWithout(n, k, many)
					wantRatio(t, "ChanceWithout", chance, ok, ratioTold(hands.of(k, 0), hands.hands(k)))
				}
			}
		}
	}
}

func TestPromise8Pips(t *testing.T) {
	for n := range drawnSets {
		hands := tallyOf(n, worthOfPips)
		for k := range len(setOf(n)) + 1 {
			// Three sums more than the greatest one of the set.
			for sum := range len(hands[k]) + 3 {
				count, ok := impl.CountWithPips(n, k, sum)
				wantNumber(t, "CountWithPips", count, ok, hands.of(k, sum))
				chance, ok := impl.ChanceOfPips(n, k, sum)
				wantRatio(t, "ChanceOfPips", chance, ok, ratioTold(hands.of(k, sum), hands.hands(k)))
			}
			for _, sum := range []int{256, 999, 1000} {
				count, ok := impl.CountWithPips(n, k, sum)
				wantNumber(t, "CountWithPips", count, ok, 0)
				chance, ok := impl.ChanceOfPips(n, k, sum)
				wantRatio(t, "ChanceOfPips", chance, ok, rt(0, 1))
			}
		}
	}
}

// TestPromise8EndsOfPips: a hand has the least pips if its tiles have the least ones, and the greatest likewise.
func TestPromise8EndsOfPips(t *testing.T) {
	for n := range drawnSets {
		var pips []int
		for _, x := range setOf(n) {
			pips = append(pips, x.Low+x.High)
		}
		slices.Sort(pips)
		least, greatest := 0, 0
		for k := range len(pips) + 1 {
			if k > 0 {
				least, greatest = least+pips[k-1], greatest+pips[len(pips)-k]
			}
			for sum := range n*len(pips) + 2 {
				// No sum between the least and the greatest one is missing.
				count, ok := impl.CountWithPips(n, k, sum)
				if !ok || (count > 0) != (sum >= least && sum <= greatest) {
					t.Error("CountWithPips of", n, k, sum, "is", count, ok)
				}
			}
		}
	}
}

func TestPromise8LikeliestPips(t *testing.T) {
	several := 0
	for n := range drawnSets {
		hands := tallyOf(n, worthOfPips)
		for k := range len(setOf(n)) + 1 {
			most := slices.Max(hands[k])
			sum, ok := impl.LikeliestPips(n, k)
			wantNumber(t, "LikeliestPips", sum, ok, slices.Index(hands[k], most))
			if slices.Contains(hands[k][sum+1:], most) {
				several++
			}
		}
	}
	if several < 10 {
		t.Error("too few hands with several likeliest sums:", several)
	}
	for _, c := range []struct{ n, k, sum int }{{1, 0, 0}, {1, 1, 0}, {1, 2, 1}, {1, 3, 3}, {2, 3, 5}, {3, 1, 2}, {5, 2, 9}, {6, 0, 0}, {6, 1, 6}, {6, 2, 11}, {6, 26, 155}, {6, 28, 168}} {
		sum, ok := impl.LikeliestPips(c.n, c.k)
		wantNumber(t, "LikeliestPips", sum, ok, c.sum)
	}
}

// adder adds chances up, and numbers times their chances.
type adder struct{ chances, mean *big.Rat }

func newAdder() adder { return adder{new(big.Rat), new(big.Rat)} }

func (a adder) add(t *testing.T, number int, chance ratio, ok bool) {
	t.Helper()
	if !ok || chance.Num < 0 || chance.Den < 1 || chance.Num > chance.Den {
		t.Fatal("no chance:", chance, ok)
	}
	a.chances.Add(a.chances, ratOf(chance))
	a.mean.Add(a.mean, new(big.Rat).Mul(ratOf(chance), big.NewRat(int64(number), 1)))
}

// TestPromise8AddUp: the chances of all cases add up to one, and the means are those of the numbers.
func TestPromise8AddUp(t *testing.T) {
	for n := range drawnSets {
		for k := range len(setOf(n)) + 1 {
			doubles, times, pips := newAdder(), newAdder(), newAdder()
			for many := range n + 2 {
				chance, ok := impl.ChanceOfDoubles(n, k, many)
				doubles.add(t, many, chance, ok)
				chance, ok = impl.ChanceOfTimes(n, k, many)
				times.add(t, many, chance, ok)
			}
			hands := 0
			for sum := range n*len(setOf(n)) + 1 {
				chance, ok := impl.ChanceOfPips(n, k, sum)
				pips.add(t, sum, chance, ok)
				count, _ := impl.CountWithPips(n, k, sum)
				hands += count
			}
			for _, all := range []adder{doubles, times, pips} {
				wantRatio(t, "all chances", lowest(all.chances), true, rt(1, 1))
			}
			count, ok := impl.CountHands(n, k)
			wantNumber(t, "CountHands by pips", count, ok, hands)
			mean, ok := impl.DoublesMean(n, k)
			wantRatio(t, "DoublesMean", mean, ok, lowest(doubles.mean))
			// Each number is on as many tiles as there are doubles.
			wantRatio(t, "the mean of ChanceOfTimes", lowest(times.mean), true, mean)
			mean, ok = impl.PipsMean(n, k)
			wantRatio(t, "PipsMean", mean, ok, lowest(pips.mean))
			wantRatio(t, "PipsMean", mean, ok, rt(k*n, 1))
			chance, ok := impl.ChanceOfOpening(n, k)
			none, _ := impl.ChanceOfDoubles(n, k, 0)
			wantRatio(t, "ChanceOfOpening and no double", lowest(new(big.Rat).Add(ratOf(chance), ratOf(none))), ok, rt(1, 1))
		}
	}
}

// TestPromise8NoneAndAll: a hand without tiles has nothing, one of all tiles everything.
func TestPromise8NoneAndAll(t *testing.T) {
	for n := range drawnSets {
		all := len(setOf(n))
		for _, k := range []int{0, all} {
			is := oneIf(k == all)
			hands, ok := impl.CountHands(n, k)
			wantNumber(t, "CountHands", hands, ok, 1)
			chance, ok := impl.ChanceOfTile(n, k)
			wantRatio(t, "ChanceOfTile", chance, ok, rt(is, 1))
			chance, ok = impl.ChanceOfTiles(n, k, all)
			wantRatio(t, "ChanceOfTiles of all", chance, ok, rt(is, 1))
			chance, ok = impl.ChanceOfTiles(n, k, 0)
			wantRatio(t, "ChanceOfTiles of none", chance, ok, rt(1, 1))
			chance, ok = impl.ChanceOfDoubles(n, k, n+1)
			wantRatio(t, "ChanceOfDoubles of all", chance, ok, rt(is, 1))
			chance, ok = impl.ChanceOfDoubles(n, k, 0)
			wantRatio(t, "ChanceOfDoubles of none", chance, ok, rt(1-is, 1))
			chance, ok = impl.ChanceOfTimes(n, k, n+1)
			wantRatio(t, "ChanceOfTimes of all", chance, ok, rt(is, 1))
			chance, ok = impl.ChanceWithout(n, k, 0)
			wantRatio(t, "ChanceWithout no number", chance, ok, rt(1, 1))
			chance, ok = impl.ChanceWithout(n, k, n+1)
			wantRatio(t, "ChanceWithout all numbers", chance, ok, rt(1-is, 1))
			chance, ok = impl.ChanceOfOpening(n, k)
			wantRatio(t, "ChanceOfOpening", chance, ok, rt(is, 1))
			sum, ok := impl.LikeliestPips(n, k)
			wantNumber(t, "LikeliestPips", sum, ok, is*n*all)
			chance, ok = impl.ChanceOfPips(n, k, is*n*all)
			wantRatio(t, "ChanceOfPips", chance, ok, rt(1, 1))
		}
	}
}

func TestPromise8ChanceOfChain(t *testing.T) {
	for n := range drawnSets {
		for k := 1; k <= 3; k++ {
			chance, ok := impl.ChanceOfChain(n, k)
			if k > len(setOf(n)) {
				wantNothing(t, "ChanceOfChain of too few tiles", chance == ratio{}, ok)
				continue
			}
			all := handsOfSize(setOf(n), k)
			chained := 0
			for _, hand := range all {
				chained += oneIf(len(wholeOf(hand)) > 0)
			}
			wantRatio(t, "ChanceOfChain", chance, ok, ratioTold(chained, len(all)))
		}
	}
	for n, wants := range [][]ratio{
		{rt(1, 1)}, {rt(1, 1), rt(2, 3), rt(1, 1)}, {rt(1, 1), rt(3, 5), rt(13, 20)}, {rt(1, 1), rt(8, 15), rt(29, 60)},
		{rt(1, 1), rt(10, 21), rt(34, 91)}, {rt(1, 1), rt(3, 7), rt(79, 266)}, {rt(1, 1), rt(7, 18), rt(113, 468)},
	} {
		for i, want := range wants {
			chance, ok := impl.ChanceOfChain(n, i+1)
			wantRatio(t, "ChanceOfChain", chance, ok, want)
		}
	}
}

func TestPromise8ChanceOfBoth(t *testing.T) {
	for n := range 4 {
		all, without := twoHands(n)
		for sizes, pairs := range all {
			chance, ok := impl.ChanceOfBoth(n, sizes[0], sizes[1])
			wantRatio(t, "ChanceOfBoth", chance, ok, ratioTold(without[sizes], pairs))
		}
	}
	for n := range drawnSets {
		tiles, others := len(setOf(n)), len(noDoubles(setOf(n)))
		for a := range tiles + 1 {
			for b := range tiles + 1 {
				chance, ok := impl.ChanceOfBoth(n, a, b)
				switch {
				case a+b > tiles:
					wantNothing(t, "ChanceOfBoth of too many tiles", chance == ratio{}, ok)
				case a+b > others:
					wantRatio(t, "ChanceOfBoth of more tiles than are no doubles", chance, ok, rt(0, 1))
				default:
					wantRatio(t, "ChanceOfBoth", chance, ok, withoutDoublesTold(n, a+b))
				}
			}
			none, _ := impl.ChanceOfDoubles(n, a, 0)
			chance, ok := impl.ChanceOfBoth(n, a, 0)
			wantRatio(t, "ChanceOfBoth of one hand", chance, ok, none)
			chance, ok = impl.ChanceOfBoth(n, 0, a)
			wantRatio(t, "ChanceOfBoth of one hand", chance, ok, none)
			chance, ok = impl.ChanceOfBoth(n, a, tiles-a)
			wantRatio(t, "ChanceOfBoth of all tiles", chance, ok, rt(0, 1))
		}
	}
}

func TestPromise8CompareRatios(t *testing.T) {
	list := comparedRatios()
	for i, a := range list {
		for j, b := range list {
			got, ok := impl.CompareRatios(a, b)
			want := ratOf(a).Cmp(ratOf(b))
			wantNumber(t, "CompareRatios", got, ok, want)
			if want != oneIf(i > j)-oneIf(i < j) {
				t.Error("the ratios of the test are not increasing:", a, b)
			}
		}
	}
	for a := range 25 {
		for b := 1; b < 25; b++ {
			for c := range 25 {
				d := 25 - c
				x, y := ratioTold(a, b), ratioTold(c, d)
				got, ok := impl.CompareRatios(x, y)
				wantNumber(t, "CompareRatios", got, ok, ratOf(x).Cmp(ratOf(y)))
			}
		}
	}
	// Each chance and each mean is a ratio that may be compared.
	one, half := rt(1, 1), rt(1, 2)
	for n := range drawnSets {
		for k := range len(setOf(n)) + 1 {
			opening, _ := impl.ChanceOfOpening(n, k)
			got, ok := impl.CompareRatios(opening, one)
			wantNumber(t, "CompareRatios of a chance and 1", got, ok, -oneIf(opening != one))
			mean, _ := impl.DoublesMean(n, k)
			got, ok = impl.CompareRatios(half, mean)
			wantNumber(t, "CompareRatios of a mean", got, ok, ratOf(half).Cmp(ratOf(mean)))
		}
	}
}
