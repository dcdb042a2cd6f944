package tests

import (
	"math"
	"runtime"
	"slices"
	"testing"
	"time"

	"loop.example/g01216/impl"
)

// Promise 11 as far as chapter 8 goes: every function accepts all arguments without panicking and modifies none of them.

// drawCall is a call of a function that draws a hand; it tells whether the results but the last one are zero, and the last one.
type drawCall struct {
	name string
	call func(n, k int) (bool, bool)
}

func handsCall(name string, f func(n, k int) (int, bool)) drawCall {
	return drawCall{name, func(n, k int) (bool, bool) {
		got, ok := f(n, k)
		return got == 0, ok
	}}
}

func chanceCall(name string, f func(n, k int) (ratio, bool)) drawCall {
	return drawCall{name, func(n, k int) (bool, bool) {
		got, ok := f(n, k)
		return got == ratio{}, ok
	}}
}

// manyCall is a call of a function that takes one number more, which is in 0 up to most of n.
type manyCall struct {
	name string
	call func(n, k, many int) (bool, bool)
	most func(n int) int
}

func numbersIn(n int) int { return n + 1 }

func tilesIn(n int) int { return (n + 1) * (n + 2) / 2 }

func ratioCall(name string, f func(n, k, many int) (ratio, bool), most func(n int) int) manyCall {
	return manyCall{name, func(n, k, many int) (bool, bool) {
		got, ok := f(n, k, many)
		return got == ratio{}, ok
	}, most}
}

func manyCalls() []manyCall {
	sums := func(int) int { return 1000 }
	return []manyCall{
		ratioCall("ChanceOfTiles", impl.ChanceOfTiles, tilesIn),
		ratioCall("ChanceOfDoubles", impl.ChanceOfDoubles, numbersIn),
		ratioCall("ChanceWithout", impl.ChanceWithout, numbersIn),
		ratioCall("ChanceOfTimes", impl.ChanceOfTimes, numbersIn),
		ratioCall("ChanceOfPips", impl.ChanceOfPips, sums),
		{"CountWithPips", func(n, k, many int) (bool, bool) {
			got, ok := impl.CountWithPips(n, k, many)
			return got == 0, ok
		}, sums},
	}
}

// drawCalls are calls that succeed for every hand that can be drawn.
func drawCalls() []drawCall {
	calls := []drawCall{
		handsCall("CountHands", impl.CountHands),
		handsCall("LikeliestPips", impl.LikeliestPips),
		chanceCall("ChanceOfTile", impl.ChanceOfTile),
		chanceCall("DoublesMean", impl.DoublesMean),
		chanceCall("PipsMean", impl.PipsMean),
		chanceCall("ChanceOfOpening", impl.ChanceOfOpening),
		chanceCall("ChanceOfBoth of one hand", func(n, k int) (ratio, bool) { return impl.ChanceOfBoth(n, k, 0) }),
		chanceCall("ChanceOfBoth of the other hand", func(n, k int) (ratio, bool) { return impl.ChanceOfBoth(n, 0, k) }),
	}
	for _, c := range manyCalls() {
		for many := range 2 {
			calls = append(calls, drawCall{c.name, func(n, k int) (bool, bool) { return c.call(n, k, many) }})
		}
	}
	return calls
}

// badDraws are n and k of which no hand is drawn: n below 0 or above 6, k below 0 or above the number of tiles.
func badDraws() [][2]int {
	var list [][2]int
	for _, n := range append([]int{7, 8, 9, 10, 54, 256}, badInts...) {
		for _, k := range append([]int{0, 1, 2, 3, 7, 28, n}, badInts...) {
			list = append(list, [2]int{n, k})
		}
	}
	for n := range drawnSets {
		tiles := tilesIn(n)
		for _, k := range append([]int{tiles + 1, tiles + 2, 2*tiles + 1, 29, 55, 56, 256}, badInts...) {
			list = append(list, [2]int{n, k})
		}
	}
	return list
}

func TestPromise11BadDrawsFail(t *testing.T) {
	for _, c := range drawCalls() {
		for _, bad := range badDraws() {
			zero, ok := c.call(bad[0], bad[1])
			wantNothing(t, c.name, zero, ok)
		}
		for n := range drawnSets {
			for k := range tilesIn(n) + 1 {
				if _, ok := c.call(n, k); !ok {
					t.Error(c.name, "fails for", n, k)
				}
			}
		}
	}
}

func TestPromise11BadNumbersOfDrawsFail(t *testing.T) {
	for _, c := range manyCalls() {
		for n := range drawnSets {
			most := c.most(n)
			for _, k := range []int{0, 1, tilesIn(n) - 1, tilesIn(n)} {
				for _, many := range append([]int{most + 1, most + 2, 2*most + 3, 1001}, badInts...) {
					zero, ok := c.call(n, k, many)
					wantNothing(t, c.name, zero, ok)
				}
				for _, many := range []int{0, 1, most - 1, most} {
					if _, ok := c.call(n, k, many); !ok {
						t.Error(c.name, "fails for", n, k, many)
					}
				}
			}
		}
		// A number that is right mends no bad draw, nor does one that is wrong, too.
		for _, bad := range badDraws() {
			for _, many := range []int{0, 1, 1000, bad[0], bad[1], math.MinInt, -1, math.MaxInt} {
				zero, ok := c.call(bad[0], bad[1], many)
				wantNothing(t, c.name, zero, ok)
			}
		}
	}
}

func TestPromise11BadChainsOfDrawsFail(t *testing.T) {
	for n := range drawnSets {
		for _, k := range append([]int{0, 4, 5, 8, 9, 28, tilesIn(n), tilesIn(n) + 1}, badInts...) {
			if k < 1 || k > 3 || k > tilesIn(n) {
				chance, ok := impl.ChanceOfChain(n, k)
				wantNothing(t, "ChanceOfChain", chance == ratio{}, ok)
			}
		}
	}
	for _, bad := range badDraws() {
		chance, ok := impl.ChanceOfChain(bad[0], bad[1])
		wantNothing(t, "ChanceOfChain", chance == ratio{}, ok)
	}
}

func TestPromise11BadSizesOfBothFail(t *testing.T) {
	fails := func(n, a, b int) {
		t.Helper()
		chance, ok := impl.ChanceOfBoth(n, a, b)
		wantNothing(t, "ChanceOfBoth", chance == ratio{}, ok)
		chance, ok = impl.ChanceOfBoth(n, b, a)
		wantNothing(t, "ChanceOfBoth", chance == ratio{}, ok)
	}
	for n := range drawnSets {
		tiles := tilesIn(n)
		for _, bad := range append([]int{tiles + 1, 29, 256}, badInts...) {
			// Together some of these are in 0 up to the number of tiles, also by wrapping around.
			for _, other := range slices.Concat([]int{0, 1, tiles, -bad, 1 - bad, tiles - bad}, badInts) {
				fails(n, bad, other)
			}
		}
		for a := range tiles + 1 {
			for _, b := range []int{tiles - a + 1, tiles + 1, -1, -a - 1, 1 << 62, math.MaxInt, math.MaxInt - a, math.MinInt, math.MinInt + a} {
				fails(n, a, b)
			}
		}
		fails(n, 1<<62, 1<<62)
		fails(n, math.MaxInt, math.MaxInt)
		fails(n, math.MinInt, math.MinInt)
	}
	for _, bad := range badDraws() {
		if bad[0] < 0 || bad[0] > 6 {
			fails(bad[0], bad[1], 0)
			fails(bad[0], bad[1], bad[1])
			fails(bad[0], 0, 0)
		}
	}
}

func TestPromise11BadRatiosFail(t *testing.T) {
	good := comparedRatios()
	for _, bad := range badRatios() {
		for _, other := range slices.Concat(good, badRatios()) {
			got, ok := impl.CompareRatios(bad, other)
			wantNothing(t, "CompareRatios", got == 0, ok)
			got, ok = impl.CompareRatios(other, bad)
			wantNothing(t, "CompareRatios", got == 0, ok)
		}
	}
	// Of all small numbers those are ratios that have no common divisor.
	for num := -3; num <= 12; num++ {
		for den := -3; den <= 12; den++ {
			got, ok := impl.CompareRatios(rt(num, den), rt(num, den))
			if ok != (num >= 0 && den >= 1 && ratioTold(num, den) == rt(num, den)) || got != 0 {
				t.Error("CompareRatios of the same ratio", num, den, "is", got, ok)
			}
		}
	}
}

// allDraws tells what all calls come to, one after the other.
func allDraws(n, k int) []any {
	var all []any
	for _, f := range []func(n, k int) (ratio, bool){impl.ChanceOfTile, impl.DoublesMean, impl.PipsMean, impl.ChanceOfChain, impl.ChanceOfOpening} {
		got, ok := f(n, k)
		all = append(all, got, ok)
	}
	for _, f := range []func(n, k, many int) (ratio, bool){impl.ChanceOfTiles, impl.ChanceOfDoubles, impl.ChanceWithout, impl.ChanceOfTimes, impl.ChanceOfPips, impl.ChanceOfBoth} {
		got, ok := f(n, k, 2)
		all = append(all, got, ok)
	}
	for _, f := range []func(n, k int) (int, bool){impl.CountHands, impl.LikeliestPips} {
		got, ok := f(n, k)
		all = append(all, got, ok)
	}
	return all
}

// TestPromise11DrawsKeepNothing: no call leaves anything behind for the next one, also if many go on at the same time.
func TestPromise11DrawsKeepNothing(t *testing.T) {
	first := map[[2]int][]any{}
	for n := range drawnSets {
		for k := range 4 {
			first[[2]int{n, k}] = allDraws(n, k)
		}
	}
	done := make(chan bool)
	for range 8 {
		go func() {
			same := true
			for draw, want := range first {
				same = same && slices.Equal(allDraws(draw[0], draw[1]), want)
			}
			done <- same
		}()
	}
	for range 8 {
		if !<-done {
			t.Error("a call comes to something else the second time")
		}
	}
}

// TestPromise11SumsEnd: what sends sums ends with the call that takes them.
func TestPromise11SumsEnd(t *testing.T) {
	before := runtime.NumGoroutine()
	for range 20 {
		for n := range 4 {
			for k := range tilesIn(n) + 1 {
				impl.LikeliestPips(n, k)
				impl.CountWithPips(n, k, 1)
				impl.ChanceOfPips(n, k, 1)
				impl.LikeliestPips(n, -1)
			}
		}
	}
	// One that has closed its channel may still be about to go.
	for range 1000 {
		if runtime.NumGoroutine() <= before {
			return
		}
		time.Sleep(time.Millisecond)
	}
	t.Error("goroutines are left:", runtime.NumGoroutine(), "after", before)
}
