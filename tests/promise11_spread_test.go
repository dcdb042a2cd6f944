package tests

import (
	"slices"
	"testing"

	"loop.example/g01216/impl"
)

// Promise 11 as far as chapter 4 goes: every function accepts all arguments without panicking and modifies none of them.

// spreadCall is a call of a function that takes a spread; it tells whether the results but the last one are zero, and the last one.
type spreadCall struct {
	name string
	call func(plays []play) (bool, bool)
}

func playsCall(name string, f func(plays []play) ([]play, bool)) spreadCall {
	return spreadCall{name, func(plays []play) (bool, bool) {
		got, ok := f(plays)
		return len(got) == 0, ok
	}}
}

func sumCall(name string, f func(plays []play) (int, bool)) spreadCall {
	return spreadCall{name, func(plays []play) (bool, bool) {
		got, ok := f(plays)
		return got == 0, ok
	}}
}

// spreadCalls are all calls of chapter 4 that succeed for every spread.
func spreadCalls() []spreadCall {
	return []spreadCall{
		{"ArmsOf", func(plays []play) (bool, bool) {
			got, ok := impl.ArmsOf(plays)
			return len(got) == 0, ok
		}},
		{"LaidTiles", func(plays []play) (bool, bool) {
			got, ok := impl.LaidTiles(plays)
			return len(got) == 0, ok
		}},
		{"OpenNumbers", func(plays []play) (bool, bool) {
			got, ok := impl.OpenNumbers(plays)
			return len(got) == 0, ok
		}},
		sumCall("SumOfEnds", impl.SumOfEnds),
		sumCall("FivesOf", impl.FivesOf),
		sumCall("AllFives", impl.AllFives),
		playsCall("PlaysFor", func(plays []play) ([]play, bool) { return impl.PlaysFor(plays, fullHand()) }),
		{"CanPlay", func(plays []play) (bool, bool) {
			got, ok := impl.CanPlay(plays, fullHand())
			return !got, ok
		}},
		playsCall("TakeBack", func(plays []play) ([]play, bool) { return impl.TakeBack(plays, 0) }),
		{"MostFives", func(plays []play) (bool, bool) {
			got, points, ok := impl.MostFives(plays, []tile{tl(5, 5), tl(0, 5), tl(1, 2)})
			return len(got) == 0 && points == 0, ok
		}},
		playsCall("RenameSpread", func(plays []play) ([]play, bool) { return impl.RenameSpread(plays, goodNames()[1]) }),
		{"SpreadText", func(plays []play) (bool, bool) {
			got, ok := impl.SpreadText(plays)
			return got == "", ok
		}},
	}
}

// growingCalls are the other calls of chapter 4 that take a spread: they fail for no spread, and for some spreads.
func growingCalls() []spreadCall {
	calls := []spreadCall{
		sumCall("SpinnerOf", impl.SpinnerOf),
		playsCall("TakeBack of a play", func(plays []play) ([]play, bool) { return impl.TakeBack(plays, 1) }),
		{"BestPlay", func(plays []play) (bool, bool) {
			p, points, ok := impl.BestPlay(plays, fullHand())
			return p == play{} && points == 0, ok
		}},
	}
	for arm := -1; arm <= 4; arm++ {
		calls = append(calls, playsCall("AddPlay", func(plays []play) ([]play, bool) { return impl.AddPlay(plays, pl(5, 8, arm)) }))
	}
	return calls
}

// handOnCalls are all calls of chapter 4 that take a hand, with a spread that is one.
func handOnCalls(plays []play) []handCall {
	return []handCall{
		{"PlaysFor", func(hand []tile) (bool, bool) {
			got, ok := impl.PlaysFor(plays, hand)
			return len(got) == 0, ok
		}},
		{"CanPlay", func(hand []tile) (bool, bool) {
			got, ok := impl.CanPlay(plays, hand)
			return !got, ok
		}},
		{"BestPlay", func(hand []tile) (bool, bool) {
			p, points, ok := impl.BestPlay(plays, hand)
			return p == play{} && points == 0, ok
		}},
		{"MostFives", func(hand []tile) (bool, bool) {
			got, points, ok := impl.MostFives(plays, hand)
			return len(got) == 0 && points == 0, ok
		}},
	}
}

func TestPromise11BadSpreadsFail(t *testing.T) {
	good, bad := spreads(), badSpreads()
	for _, c := range spreadCalls() {
		for _, plays := range good {
			if _, ok := c.call(plays); !ok {
				t.Error(c.name, "fails for the spread", plays)
			}
		}
	}
	for _, c := range growingCalls() {
		for _, plays := range good {
			if zero, ok := c.call(plays); !ok && !zero {
				t.Error(c.name, "fails with a result for the spread", plays)
			}
		}
	}
	for _, c := range append(spreadCalls(), growingCalls()...) {
		for _, plays := range bad {
			zero, ok := c.call(plays)
			wantNothing(t, c.name, zero, ok)
		}
	}
}

func TestPromise11BadHandsOfSpreadsFail(t *testing.T) {
	for _, plays := range [][]play{nil, spread("55@0,56@1,05@0"), longSpreads()[0]} {
		for _, c := range handOnCalls(plays) {
			for _, hand := range badHands() {
				zero, ok := c.call(hand)
				wantNothing(t, c.name, zero, ok)
			}
		}
	}
	for _, plays := range badSpreads() {
		for _, c := range handOnCalls(plays) {
			for _, hand := range [][]tile{nil, {tl(5, 6)}, {tl(1, 0)}, {tl(5, 6), tl(5, 6)}} {
				zero, ok := c.call(hand)
				wantNothing(t, c.name, zero, ok)
			}
		}
	}
}

func TestPromise11BadNamesOfSpreadsFail(t *testing.T) {
	list := append(spreads(), badSpreads()...)
	for _, names := range badNames() {
		for _, plays := range list {
			got, ok := impl.RenameSpread(plays, names)
			wantNothing(t, "RenameSpread", len(got) == 0, ok)
		}
	}
}

func TestPromise11BadNumbersOfSpreadsFail(t *testing.T) {
	for _, n := range badNumbers {
		for _, plays := range [][]play{nil, spread("55@0"), spread("55@0,56@1,05@0"), {pl(n, n, 0)}, {pl(0, 5, n)}} {
			for _, p := range []play{pl(5, n, 0), pl(n, 5, 0), pl(n, n, n), pl(5, 7, n)} {
				got, ok := impl.AddPlay(plays, p)
				wantNothing(t, "AddPlay", len(got) == 0, ok)
			}
			if n < 0 || n > len(plays) {
				got, ok := impl.TakeBack(plays, n)
				wantNothing(t, "TakeBack", len(got) == 0, ok)
			}
		}
	}
}

func TestPromise11SpreadsStay(t *testing.T) {
	calls := append(spreadCalls(), growingCalls()...)
	for _, list := range append(spreads(), badSpreads()...) {
		for _, behind := range []play{pl(7, -7, 9), pl(5, 7, 0)} {
			plays, whole := roomy(list, behind)
			before := slices.Clone(whole)
			impl.IsSpread(plays)
			for _, c := range calls {
				c.call(plays)
				if !slices.Equal(whole, before) {
					t.Fatal(c.name, "has modified its spread", list)
				}
			}
		}
	}
	for _, plays := range [][]play{nil, spread("55@0,56@1,05@0"), longSpreads()[0]} {
		for _, list := range slices.Concat(hands(), orderedHands(), badHands()) {
			hand, whole := roomy(list, tl(7, -7))
			before := slices.Clone(whole)
			for _, c := range handOnCalls(plays) {
				c.call(hand)
				if !slices.Equal(whole, before) {
					t.Fatal(c.name, "has modified its hand", list)
				}
			}
		}
	}
	for _, list := range slices.Concat(chains(), badChains(), goodNames(), badNames()) {
		numbers, whole := roomy(list, 3)
		before := slices.Clone(whole)
		impl.LineOf(numbers)
		impl.RenameSpread(spread("25@0,55@1"), numbers)
		if !slices.Equal(whole, before) {
			t.Fatal("LineOf or RenameSpread has modified its numbers", list)
		}
	}
}

// TestPromise11RoomBehindSpreads: what lies behind a spread is no part of it.
func TestPromise11RoomBehindSpreads(t *testing.T) {
	whole := spread("55@0,56@1,05@0,15@2,35@3")
	before := slices.Clone(whole)
	text, ok := impl.SpreadText(whole[:2])
	wantText(t, "SpreadText", text, ok, "55@0,56@1")
	fives, ok := impl.AllFives(whole[:2])
	wantNumber(t, "AllFives", fives, ok, 10)
	added, ok := impl.AddPlay(whole[:2], pl(6, 6, 1))
	wantPlays(t, "AddPlay", added, ok, spread("55@0,56@1,66@1"))
	back, ok := impl.TakeBack(whole[:3], 1)
	wantPlays(t, "TakeBack", back, ok, spread("55@0,56@1"))
	line, ok := impl.LineOf([]int{0, 1, 2, 0, 5}[:3])
	wantPlays(t, "LineOf", line, ok, spread("01@0,12@1"))
	if !slices.Equal(whole, before) {
		t.Error("a call has written behind its spread:", whole)
	}
}

// TestPromise11SpreadResultsAreNew: writing into a result, up to its capacity, changes neither an argument nor a later result.
func TestPromise11SpreadResultsAreNew(t *testing.T) {
	hand := []tile{tl(0, 5), tl(4, 5), tl(6, 6)}
	results := map[string]func(plays []play) ([]play, bool){
		"PlaysFor":        func(plays []play) ([]play, bool) { return impl.PlaysFor(plays, hand) },
		"AddPlay":         func(plays []play) ([]play, bool) { return impl.AddPlay(plays, pl(6, 6, 1)) },
		"TakeBack":        func(plays []play) ([]play, bool) { return impl.TakeBack(plays, 0) },
		"TakeBack of one": func(plays []play) ([]play, bool) { return impl.TakeBack(plays, 1) },
		"RenameSpread":    func(plays []play) ([]play, bool) { return impl.RenameSpread(plays, goodNames()[0]) },
		"LineOf":          func([]play) ([]play, bool) { return impl.LineOf([]int{2, 1, 4}) },
		"MostFives": func(plays []play) ([]play, bool) {
			got, _, ok := impl.MostFives(plays, hand)
			return got, ok
		},
	}
	for name, f := range results {
		plays, whole := roomy(spread("55@0,56@1"), pl(7, 7, 7))
		before := slices.Clone(whole)
		first, ok := f(plays)
		kept := slices.Clone(first)
		wantPlays(t, name, first, ok, kept)
		first = first[:cap(first)]
		for i := range first {
			first[i] = pl(-1, -1, -1)
		}
		if !slices.Equal(whole, before) {
			t.Error(name, "hands out the memory of its spread")
		}
		again, ok := f(plays)
		wantPlays(t, name+" again", again, ok, kept)
	}
	plays := spread("55@0,56@1,05@0")
	arms, _ := impl.ArmsOf(plays)
	arms[0] = impl.Arm{End: -1}
	tiles, _ := impl.LaidTiles(plays)
	tiles[0] = tl(-1, -1)
	numbers, _ := impl.OpenNumbers(plays)
	overwriteNumbers(numbers)
	wantToldOf(t, plays)
}

func TestPromise11HugeSpreads(t *testing.T) {
	plays := make([]play, 1<<20)
	for _, c := range append(spreadCalls(), growingCalls()...) {
		zero, ok := c.call(plays)
		wantNothing(t, c.name, zero, ok)
	}
	for _, c := range handOnCalls(nil) {
		zero, ok := c.call(make([]tile, 1<<20))
		wantNothing(t, c.name, zero, ok)
	}
	line, ok := impl.LineOf(make([]int, 1<<20))
	wantNothing(t, "LineOf", len(line) == 0, ok)
}
