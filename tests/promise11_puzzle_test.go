package tests

import (
	"math"
	"runtime"
	"slices"
	"strconv"
	"testing"
	"time"

	"loop.example/g01216/impl"
)

// Promise 11 as far as chapter 9 goes: every function accepts all arguments without panicking and modifies none of them.

// puzzleCall is a call of a function that takes a puzzle; it tells whether the results but the last one are zero, and the last one.
type puzzleCall struct {
	name string
	call func(p puzzle) (bool, bool)
}

func changeCall(name string, f func(p puzzle) (puzzle, bool)) puzzleCall {
	return puzzleCall{name, func(p puzzle) (bool, bool) {
		got, ok := f(p)
		return noPuzzle(got), ok
	}}
}

// everyPuzzleCalls are calls of chapter 9 that succeed for every puzzle.
func everyPuzzleCalls() []puzzleCall {
	return []puzzleCall{
		{"CountGaps", func(p puzzle) (bool, bool) {
			got, ok := impl.CountGaps(p)
			return got == 0, ok
		}},
		{"IsSolution", func(p puzzle) (bool, bool) {
			got, ok := impl.IsSolution(p, []int{0, 1, 2, 0})
			return !got, ok
		}},
		{"PuzzleText", func(p puzzle) (bool, bool) {
			got, ok := impl.PuzzleText(p)
			return got == "", ok
		}},
		changeCall("TurnPuzzle", impl.TurnPuzzle),
		changeCall("RenamePuzzle", func(p puzzle) (puzzle, bool) { return impl.RenamePuzzle(p, goodNames()[3]) }),
	}
}

// solvingCalls are calls of chapter 9 that look for solutions.
func solvingCalls() []puzzleCall {
	return []puzzleCall{
		{"Solutions", func(p puzzle) (bool, bool) {
			got, ok := impl.Solutions(p)
			return len(got) == 0, ok
		}},
		{"CountSolutions", func(p puzzle) (bool, bool) {
			got, ok := impl.CountSolutions(p)
			return got == 0, ok
		}},
		{"FirstSolution", func(p puzzle) (bool, bool) {
			got, ok := impl.FirstSolution(p)
			return len(got) == 0, ok
		}},
		{"SureNumbers", func(p puzzle) (bool, bool) {
			got, ok := impl.SureNumbers(p)
			return len(got) == 0, ok
		}},
		{"HintOf", func(p puzzle) (bool, bool) {
			at, number, ok := impl.HintOf(p)
			return at == 0 && number == 0, ok
		}},
		changeCall("HarderPuzzle", impl.HarderPuzzle),
	}
}

// puzzleCalls are calls of all functions of chapter 9 that take a puzzle.
func puzzleCalls() []puzzleCall {
	calls := slices.Concat(everyPuzzleCalls(), solvingCalls())
	for at := range 3 {
		calls = append(calls,
			changeCall("FillGap at "+strconv.Itoa(at), func(p puzzle) (puzzle, bool) { return impl.FillGap(p, at, 2) }),
			changeCall("OpenGap at "+strconv.Itoa(at), func(p puzzle) (puzzle, bool) { return impl.OpenGap(p, at) }),
		)
	}
	return calls
}

func TestPromise11BadPuzzlesFail(t *testing.T) {
	for _, c := range puzzleCalls() {
		for _, p := range badPuzzles() {
			zero, ok := c.call(p)
			wantNothing(t, c.name, zero, ok)
		}
		for _, p := range slices.Concat(toldPuzzles(), fullPuzzles()) {
			if zero, ok := c.call(p); !ok && !zero {
				t.Error(c.name, "fails with a result for the puzzle", p)
			}
		}
	}
	for _, c := range everyPuzzleCalls() {
		for _, p := range puzzles() {
			if _, ok := c.call(p); !ok {
				t.Error(c.name, "fails for the puzzle", p)
			}
		}
	}
}

func TestPromise11BadPlacesFail(t *testing.T) {
	for _, p := range slices.Concat(toldPuzzles(), fullPuzzles(), badPuzzles()) {
		places := len(p.Chain)
		for _, at := range []int{math.MinInt, math.MinInt + 1, -1 << 32, -256, -places, -2, -1, places, places + 1, 2 * places, 10, 256, 1 << 32, math.MaxInt} {
			if at >= 0 && at < places {
				continue
			}
			opened, ok := impl.OpenGap(p, at)
			wantNothing(t, "OpenGap", noPuzzle(opened), ok)
			for number := -2; number <= 11; number++ {
				filled, ok := impl.FillGap(p, at, number)
				wantNothing(t, "FillGap", noPuzzle(filled), ok)
			}
		}
		for at := range places {
			for _, number := range append([]int{-2, 11, 255, 1 << 32}, badNumbers...) {
				filled, ok := impl.FillGap(p, at, number)
				wantNothing(t, "FillGap with no number", noPuzzle(filled), ok)
			}
		}
	}
}

func TestPromise11BadChainsOfPuzzlesFail(t *testing.T) {
	for _, chain := range append(badChains(), []int{-1}, []int{0, -1}, []int{-1, -1}, []int{0, 1, -1, 2}) {
		for _, p := range slices.Concat(toldPuzzles(), fullPuzzles(), badPuzzles()[:20]) {
			is, ok := impl.IsSolution(p, chain)
			wantNothing(t, "IsSolution of no chain", !is, ok)
		}
		for every := range 12 {
			made, ok := impl.MakePuzzle(chain, every)
			wantNothing(t, "MakePuzzle of no chain", noPuzzle(made), ok)
		}
	}
	for _, chain := range [][]int{{0}, {9}, longChain(), longRing(), longRing()[:11], longChain()[:11], longChain()[20:31], numbersOf("01234567890"), numbersOf("00112233445")} {
		for every := range 12 {
			made, ok := impl.MakePuzzle(chain, every)
			wantNothing(t, "MakePuzzle of no tile or of too many", noPuzzle(made), ok)
		}
	}
	for _, chain := range [][]int{{0, 1}, {0, 1, 1, 2}, numbersOf("0123456789")} {
		for _, every := range []int{math.MinInt, math.MinInt + 1, -1 << 32, -10, -3, -2, -1, 0, 11, 12, 20, 256, 1 << 32, 1<<32 + 1, math.MaxInt} {
			made, ok := impl.MakePuzzle(chain, every)
			wantNothing(t, "MakePuzzle with a bad every", noPuzzle(made), ok)
		}
	}
}

func TestPromise11BadNamesOfPuzzlesFail(t *testing.T) {
	for _, names := range badNames() {
		for _, p := range slices.Concat(toldPuzzles(), badPuzzles()[:20]) {
			renamed, ok := impl.RenamePuzzle(p, names)
			wantNothing(t, "RenamePuzzle with bad names", noPuzzle(renamed), ok)
		}
	}
	for _, names := range goodNames() {
		for _, p := range badPuzzles() {
			renamed, ok := impl.RenamePuzzle(p, names)
			wantNothing(t, "RenamePuzzle of no puzzle", noPuzzle(renamed), ok)
		}
	}
}

func TestPromise11BadPuzzleTextsFail(t *testing.T) {
	for _, text := range badPuzzleTexts() {
		p, ok := impl.ParsePuzzle(text)
		wantNothing(t, "ParsePuzzle of "+strconv.Quote(text[:min(len(text), 40)]), noPuzzle(p), ok)
	}
	// Each byte at each place of a text: the text is the one of the puzzle, if there is one.
	for _, good := range []string{"01:0.", "01,12:.12"} {
		for at := range len(good) + 1 {
			for letter := range 256 {
				inserted := good[:at] + string([]byte{byte(letter)}) + good[at:]
				for _, text := range []string{inserted, good[:at] + inserted[at:at+1] + good[min(at+1, len(good)):]} {
					p, ok := impl.ParsePuzzle(text)
					if ok && (!isPuzzle(p) || textTold(p) != text) || !ok && !noPuzzle(p) {
						t.Errorf("ParsePuzzle(%q): got %v, %v", text, p, ok)
					}
				}
			}
		}
	}
	read := 0
	for _, chain := range []string{"..", "/.", "./", "//", "0.", ".9", ":.", "0:", "9;", "09", "0", "090"} {
		_, ok := impl.ParsePuzzle("09:" + chain)
		read += oneIf(ok)
	}
	if read != 4 {
		t.Error("texts read:", read)
	}
}

// TestPromise11AllShortPuzzleTexts: a text that is read is the one that is written, and one of each puzzle is read.
func TestPromise11AllShortPuzzleTexts(t *testing.T) {
	texts := []string{""}
	read := 0
	for range 6 {
		var longer []string
		for _, text := range texts {
			p, ok := impl.ParsePuzzle(text)
			if ok && (!isPuzzle(p) || textTold(p) != text) || !ok && !noPuzzle(p) {
				t.Errorf("ParsePuzzle(%q): got %v, %v", text, p, ok)
			}
			read += oneIf(ok)
			for _, letter := range []byte("01:./-,9") {
				longer = append(longer, text+string([]byte{letter}))
			}
		}
		texts = longer
	}
	// The tiles 00, 01, 11, 09, 19 and 99, each with two of 0, 1, 9 and a gap.
	if read != 6*16 {
		t.Error("short texts read:", read)
	}
}

func TestPromise11PuzzlesStay(t *testing.T) {
	for _, list := range slices.Concat(toldPuzzles(), drawnPuzzles(2)[:100], fullPuzzles()[:1], badPuzzles()) {
		for _, behind := range []int{-1, 5} {
			p := list
			var hand []tile
			var chain []int
			p.Hand, hand = roomy(list.Hand, tl(behind, behind))
			p.Chain, chain = roomy(list.Chain, behind)
			handBefore, chainBefore := slices.Clone(hand), slices.Clone(chain)
			impl.IsPuzzle(p)
			impl.IsSolution(p, p.Chain)
			impl.MakePuzzle(p.Chain, 2)
			for _, c := range puzzleCalls() {
				c.call(p)
				if !slices.Equal(hand, handBefore) || !slices.Equal(chain, chainBefore) {
					t.Fatal(c.name, "has modified its puzzle", list)
				}
			}
		}
	}
	for _, list := range append(goodNames(), badNames()...) {
		names, whole := roomy(list, 77)
		before := slices.Clone(whole)
		impl.RenamePuzzle(pz("01,02,12", "0..1"), names)
		if !slices.Equal(whole, before) {
			t.Error("RenamePuzzle has modified its names", list)
		}
	}
	for _, list := range slices.Concat(chains(), badChains(), [][]int{{0, 1, 2, 0}, {2, 1, 0, 1}, numbersOf("0123456789")}) {
		chain, whole := roomy(list, 3)
		before := slices.Clone(whole)
		impl.IsSolution(pz("01,02,12", "0..."), chain)
		impl.MakePuzzle(chain, 2)
		if !slices.Equal(whole, before) {
			t.Error("a call has modified its chain", list)
		}
	}
}

// TestPromise11RoomBehindPuzzles: what lies behind a list is no part of it.
func TestPromise11RoomBehindPuzzles(t *testing.T) {
	hand, chain := handOf("01,02,12,22"), placesOf("0...55")
	p := puzzle{Hand: hand[:3], Chain: chain[:4]}
	text, ok := impl.PuzzleText(p)
	wantText(t, "PuzzleText", text, ok, "01,02,12:0...")
	all, ok := impl.Solutions(p)
	wantLists(t, "Solutions", all, ok, [][]int{{0, 1, 2, 0}, {0, 2, 1, 0}})
	filled, ok := impl.FillGap(p, 4, 1)
	wantNothing(t, "FillGap behind the puzzle", noPuzzle(filled), ok)
	opened, ok := impl.OpenGap(p, 4)
	wantNothing(t, "OpenGap behind the puzzle", noPuzzle(opened), ok)
	made, ok := impl.MakePuzzle([]int{0, 1, 1, 2, 0, 0}[:4], 3)
	wantPuzzle(t, "MakePuzzle", made, ok, pz("01,11,12", "0..2"))
	is, ok := impl.IsSolution(p, []int{0, 1, 2, 0, 1}[:4])
	wantBool(t, "IsSolution", is, ok, true)
	if impl.IsPuzzle(puzzle{Hand: hand[:3], Chain: chain[:3]}) || impl.IsPuzzle(puzzle{Hand: hand[:2], Chain: chain[:4]}) {
		t.Error("a puzzle with what lies behind it")
	}
}

// TestPromise11PuzzleResultsAreNew: writing into a result, up to its capacity, changes neither an argument nor a later result.
func TestPromise11PuzzleResultsAreNew(t *testing.T) {
	calls := map[string]func(p puzzle) (puzzle, bool){
		"FillGap":               func(p puzzle) (puzzle, bool) { return impl.FillGap(p, 2, 2) },
		"OpenGap":               func(p puzzle) (puzzle, bool) { return impl.OpenGap(p, 0) },
		"HarderPuzzle":          func(p puzzle) (puzzle, bool) { p.Chain[2], p.Chain[3] = 2, 0; return impl.HarderPuzzle(p) },
		"HarderPuzzle, no more": impl.HarderPuzzle,
		"TurnPuzzle":            impl.TurnPuzzle,
		"RenamePuzzle":          func(p puzzle) (puzzle, bool) { return impl.RenamePuzzle(p, goodNames()[0]) },
		"MakePuzzle":            func(p puzzle) (puzzle, bool) { p.Chain[2], p.Chain[3] = 2, 0; return impl.MakePuzzle(p.Chain, 1) },
		"ParsePuzzle":           func(puzzle) (puzzle, bool) { return impl.ParsePuzzle("01,02,12:01..") },
	}
	for name, f := range calls {
		hand, wholeHand := roomy(handOf("01,02,12"), tl(3, 3))
		chain, wholeChain := roomy(placesOf("01.."), 5)
		p := puzzle{Hand: hand, Chain: chain}
		first, ok := f(p)
		handBefore, chainBefore := slices.Clone(wholeHand), slices.Clone(wholeChain)
		kept := clonePuzzle(first)
		wantPuzzle(t, name, first, ok, kept)
		overwriteTiles(first.Hand)
		wantNumbers(t, name+", Chain beside Hand", first.Chain, ok, kept.Chain)
		overwriteNumbers(first.Chain)
		if !slices.Equal(wholeHand, handBefore) || !slices.Equal(wholeChain, chainBefore) {
			t.Error(name, "hands out the memory of its puzzle")
		}
		again, ok := f(p)
		wantPuzzle(t, name+" again", again, ok, kept)
	}
	for name, f := range map[string]func(p puzzle) ([]int, bool){"FirstSolution": impl.FirstSolution, "SureNumbers": impl.SureNumbers} {
		p := pz("01,02,12", "0120")
		first, ok := f(p)
		wantNumbers(t, name, first, ok, []int{0, 1, 2, 0})
		overwriteNumbers(first)
		wantPuzzle(t, name+" leaves the puzzle", p, ok, pz("01,02,12", "0120"))
		again, ok := f(p)
		wantNumbers(t, name+" again", again, ok, []int{0, 1, 2, 0})
	}
	wantListsApart(t, func() ([][]int, bool) { return impl.Solutions(pz("01,02,12", "....")) }, 6)
	wantListsApart(t, func() ([][]int, bool) { return impl.Solutions(gapsOnly(manyChains())) }, 192)
}

func TestPromise11HugePuzzles(t *testing.T) {
	tiles, chain := make([]tile, 1<<20), make([]int, 1<<20)
	for i := range chain {
		chain[i] = i % 10
	}
	for _, p := range []puzzle{{Hand: tiles}, {Chain: chain}, {Hand: tiles, Chain: chain}, {Hand: tiles[1:], Chain: chain}, {Hand: handOf("01"), Chain: chain}, {Hand: tiles, Chain: []int{0, 1}}} {
		if impl.IsPuzzle(p) {
			t.Error("a huge puzzle")
		}
		for _, c := range puzzleCalls() {
			zero, ok := c.call(p)
			wantNothing(t, c.name, zero, ok)
		}
	}
	made, ok := impl.MakePuzzle(chain, 2)
	wantNothing(t, "MakePuzzle of a huge chain", noPuzzle(made), ok)
	is, ok := impl.IsSolution(pz("01,02,12", "0..."), chain)
	wantNothing(t, "IsSolution of a huge chain", !is, ok)
	renamed, ok := impl.RenamePuzzle(pz("01,02,12", "0..."), chain)
	wantNothing(t, "RenamePuzzle with huge names", noPuzzle(renamed), ok)
}

// TestPromise11PuzzlesKeepNothing: no call leaves anything behind for the next one, also if many go on at the same time.
func TestPromise11PuzzlesKeepNothing(t *testing.T) {
	list := slices.Concat(toldPuzzles(), fullPuzzles()[:2])
	done := make(chan bool)
	for range 8 {
		go func() {
			same := true
			for _, p := range list {
				want := solutionsOf(p)
				for range 3 {
					same = same && slices.EqualFunc(solutionsOf(p), want, slices.Equal)
				}
			}
			done <- same
		}()
	}
	for range 8 {
		if !<-done {
			t.Error("a call comes to something else the second time")
		}
	}
}

// solutionsOf returns what the program tells, and nothing if it fails.
func solutionsOf(p puzzle) [][]int {
	all, _ := impl.Solutions(p)
	return all
}

// TestPromise11FillingsEnd: what tries fillings ends with the call that takes them, also if there are too many.
func TestPromise11FillingsEnd(t *testing.T) {
	before := runtime.NumGoroutine()
	for range 5 {
		for _, p := range slices.Concat(toldPuzzles(), fullPuzzles(), badPuzzles()) {
			for _, c := range solvingCalls() {
				c.call(p)
			}
		}
	}
	// One that has closed its channel may still be about to go.
	for range 1000 {
		if runtime.NumGoroutine() <= before {
			return
		}
		time.Sleep(time.Millisecond)
	}
	t.Error("goroutines are left:", runtime.NumGoroutine(), "after", before)
}
