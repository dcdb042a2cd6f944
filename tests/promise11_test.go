package tests

import (
	"math"
	"slices"
	"testing"

	"loop.example/g01216/impl"
)

// Promise 11: every function accepts all arguments without panicking and modifies none of them.

// handCall is a call of a function that takes one hand; it tells whether the results but the last one are zero, and the last one.
type handCall struct {
	name string
	call func(hand []tile) (bool, bool)
}

func tilesCall(name string, f func(hand []tile) ([]tile, bool)) handCall {
	return handCall{name, func(hand []tile) (bool, bool) {
		got, ok := f(hand)
		return len(got) == 0, ok
	}}
}

func numbersCall(name string, f func(hand []tile) ([]int, bool)) handCall {
	return handCall{name, func(hand []tile) (bool, bool) {
		got, ok := f(hand)
		return len(got) == 0, ok
	}}
}

func numberCall(name string, f func(hand []tile) (int, bool)) handCall {
	return handCall{name, func(hand []tile) (bool, bool) {
		got, ok := f(hand)
		return got == 0, ok
	}}
}

// handCalls are all functions of chapter 1 that take a hand, with what else they take left valid for every hand.
func handCalls() []handCall {
	names := goodNames()[1]
	return []handCall{
		tilesCall("SortHand", impl.SortHand),
		numberCall("PipsOf", impl.PipsOf),
		numbersCall("DoublesOf", impl.DoublesOf),
		numbersCall("NumbersOf", impl.NumbersOf),
		numberCall("TimesOf", func(hand []tile) (int, bool) { return impl.TimesOf(hand, 3) }),
		tilesCall("WithNumber", func(hand []tile) ([]tile, bool) { return impl.WithNumber(hand, 3) }),
		tilesCall("JoinHands a", func(hand []tile) ([]tile, bool) { return impl.JoinHands(hand, fullHand()[:2]) }),
		tilesCall("JoinHands b", func(hand []tile) ([]tile, bool) { return impl.JoinHands(fullHand()[:2], hand) }),
		tilesCall("BothHands a", func(hand []tile) ([]tile, bool) { return impl.BothHands(hand, fullHand()) }),
		tilesCall("BothHands b", func(hand []tile) ([]tile, bool) { return impl.BothHands(fullHand(), hand) }),
		tilesCall("LessHand a", func(hand []tile) ([]tile, bool) { return impl.LessHand(hand, fullHand()[:2]) }),
		tilesCall("LessHand b", func(hand []tile) ([]tile, bool) { return impl.LessHand(fullHand(), hand) }),
		tilesCall("MissingFrom", func(hand []tile) ([]tile, bool) { return impl.MissingFrom(hand, 9) }),
		tilesCall("RenameHand", func(hand []tile) ([]tile, bool) { return impl.RenameHand(hand, names) }),
		{"HandText", func(hand []tile) (bool, bool) {
			got, ok := impl.HandText(hand)
			return got == "", ok
		}},
	}
}

func TestPromise11BadHandsFail(t *testing.T) {
	for _, c := range handCalls() {
		for _, hand := range hands() {
			if _, ok := c.call(hand); !ok {
				t.Error(c.name, "fails for the hand", hand)
			}
		}
		for _, hand := range badHands() {
			zero, ok := c.call(hand)
			wantNothing(t, c.name, zero, ok)
		}
	}
}

func TestPromise11BothHandsBad(t *testing.T) {
	for _, bad := range badHands() {
		for _, f := range []func(a, b []tile) ([]tile, bool){impl.JoinHands, impl.BothHands, impl.LessHand} {
			for _, other := range [][]tile{nil, bad} {
				got, ok := f(bad, other)
				wantNothing(t, "a bad first hand", len(got) == 0, ok)
				got, ok = f(other, bad)
				wantNothing(t, "a bad second hand", len(got) == 0, ok)
			}
		}
	}
}

func TestPromise11BadNumbersFail(t *testing.T) {
	for _, n := range badNumbers {
		for _, hand := range [][]tile{nil, {tl(0, 9)}, fullHand(), {tl(n, n)}} {
			times, ok := impl.TimesOf(hand, n)
			wantNothing(t, "TimesOf", times == 0, ok)
			with, ok := impl.WithNumber(hand, n)
			wantNothing(t, "WithNumber", len(with) == 0, ok)
			missing, ok := impl.MissingFrom(hand, n)
			wantNothing(t, "MissingFrom", len(missing) == 0, ok)
		}
		for _, m := range badNumbers {
			x, ok := impl.TileOf(n, m)
			wantNothing(t, "TileOf", x == tile{}, ok)
			rank, ok := impl.RankOf(tl(n, m))
			wantNothing(t, "RankOf", rank == 0, ok)
			if impl.IsTile(tl(n, m)) || impl.IsHand([]tile{tl(n, m)}) {
				t.Error("a tile of bad numbers", n, m)
			}
		}
	}
}

func TestPromise11BadNamesFail(t *testing.T) {
	for _, names := range badNames() {
		for _, hand := range [][]tile{nil, {tl(0, 9)}, fullHand(), {tl(1, 0)}} {
			got, ok := impl.RenameHand(hand, names)
			wantNothing(t, "RenameHand", len(got) == 0, ok)
		}
	}
}

// roomy returns a list with room behind it, and all of its memory: calls may change neither.
func roomy[E any](list []E, behind E) ([]E, []E) {
	whole := append(slices.Clone(list), behind, behind, behind)
	return whole[:len(list)], whole
}

func TestPromise11ArgumentsStay(t *testing.T) {
	for _, c := range handCalls() {
		for _, list := range append(hands(), badHands()...) {
			hand, whole := roomy(list, tl(7, -7))
			before := slices.Clone(whole)
			c.call(hand)
			impl.IsHand(hand)
			if !slices.Equal(whole, before) {
				t.Error(c.name, "has modified its hand", list)
			}
		}
	}
	for _, list := range append(goodNames(), badNames()...) {
		names, whole := roomy(list, 77)
		before := slices.Clone(whole)
		impl.RenameHand(fullHand(), names)
		if !slices.Equal(whole, before) {
			t.Error("RenameHand has modified its names", list)
		}
	}
}

// TestPromise11RoomIsNotRead: what lies behind a list is no part of it, so that valid tiles there do not count.
func TestPromise11RoomIsNotRead(t *testing.T) {
	all := fullHand()
	hand, _ := roomy(all[:3], tl(4, 4))
	text, ok := impl.HandText(hand)
	if text != "00,01,02" || !ok {
		t.Error("HandText", text, ok)
	}
	joined, ok := impl.JoinHands(all[:1], all[1:2])
	wantTiles(t, "JoinHands", joined, ok, all[:2])
	if !slices.Equal(all, fullHand()) {
		t.Error("JoinHands has written behind its hand")
	}
}

// TestPromise11ResultsAreNew: writing into a result, up to its capacity, changes neither an argument nor a later result.
func TestPromise11ResultsAreNew(t *testing.T) {
	overwrite := func(list []tile) {
		list = list[:cap(list)]
		for i := range list {
			list[i] = tl(-1, -1)
		}
	}
	calls := []func(hand []tile) ([]tile, bool){
		impl.SortHand,
		func(hand []tile) ([]tile, bool) { return impl.WithNumber(hand, 0) },
		func(hand []tile) ([]tile, bool) { return impl.JoinHands(hand, nil) },
		func(hand []tile) ([]tile, bool) { return impl.JoinHands(nil, hand) },
		func(hand []tile) ([]tile, bool) { return impl.BothHands(hand, hand) },
		func(hand []tile) ([]tile, bool) { return impl.LessHand(hand, nil) },
		func(hand []tile) ([]tile, bool) { return impl.MissingFrom(hand, 9) },
		func(hand []tile) ([]tile, bool) { return impl.RenameHand(hand, goodNames()[0]) },
		func(hand []tile) ([]tile, bool) { return impl.SetOf(9) },
		func(hand []tile) ([]tile, bool) { return impl.ParseHand("00,01,02,11") },
	}
	for i, call := range calls {
		hand, whole := roomy([]tile{tl(0, 0), tl(0, 1), tl(0, 2)}, tl(5, 5))
		before := slices.Clone(whole)
		first, _ := call(hand)
		kept := slices.Clone(first)
		overwrite(first)
		if !slices.Equal(whole, before) {
			t.Error("call", i, "hands out the memory of its hand")
		}
		again, ok := call(hand)
		wantTiles(t, "a call made again", again, ok, kept)
	}
	for _, call := range []func(hand []tile) ([]int, bool){impl.DoublesOf, impl.NumbersOf} {
		first, _ := call(fullHand())
		first[0] = math.MinInt
		again, ok := call(fullHand())
		wantNumbers(t, "a call made again", again, ok, []int{0, 1, 2, 3, 4, 5, 6, 7, 8, 9})
	}
}

func TestPromise11HugeArguments(t *testing.T) {
	list := make([]tile, 1<<20)
	if impl.IsHand(list) {
		t.Error("a huge list is a hand")
	}
	for _, c := range handCalls() {
		zero, ok := c.call(list)
		wantNothing(t, c.name, zero, ok)
	}
	names, ok := impl.RenameHand(nil, make([]int, 1<<20))
	wantNothing(t, "RenameHand with huge names", len(names) == 0, ok)
}

func TestPromise11AllShortTexts(t *testing.T) {
	letters := "-,0129 \n\xff"
	texts := []string{""}
	for range 5 {
		var longer []string
		for _, text := range texts {
			hand, ok := impl.ParseHand(text)
			back, backOk := impl.HandText(hand)
			if ok && (!backOk || back != text) || !ok && len(hand) > 0 {
				t.Errorf("ParseHand(%q): got %v, %v", text, hand, ok)
			}
			for _, letter := range []byte(letters) {
				longer = append(longer, text+string([]byte{letter}))
			}
		}
		texts = longer
	}
}
