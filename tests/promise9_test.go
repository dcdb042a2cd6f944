package tests

import (
	"slices"
	"testing"

	"loop.example/g01216/impl"
)

// Promise 9: solutions fill the gaps with the tiles of the hand, and harder puzzles keep their one solution.

func TestPromise9Example(t *testing.T) {
	p, ok := impl.ParsePuzzle("01,02,12:0...")
	wantPuzzle(t, "ParsePuzzle", p, ok, puzzle{Hand: []tile{tl(0, 1), tl(0, 2), tl(1, 2)}, Chain: []int{0, -1, -1, -1}})
	all, ok := impl.Solutions(p)
	wantLists(t, "Solutions", all, ok, [][]int{{0, 1, 2, 0}, {0, 2, 1, 0}})
	sure, ok := impl.SureNumbers(p)
	wantNumbers(t, "SureNumbers", sure, ok, []int{0, -1, -1, 0})
	at, number, ok := impl.HintOf(p)
	wantNumbers(t, "HintOf", []int{at, number}, ok, []int{3, 0})
	filled, ok := impl.FillGap(p, 1, 1)
	wantPuzzle(t, "FillGap", filled, ok, pz("01,02,12", "01.."))
	count, ok := impl.CountSolutions(filled)
	wantNumber(t, "CountSolutions", count, ok, 1)
	made, ok := impl.MakePuzzle([]int{0, 1, 1, 2}, 3)
	wantPuzzle(t, "MakePuzzle", made, ok, pz("01,11,12", "0..2"))
	text, ok := impl.PuzzleText(made)
	wantText(t, "PuzzleText", text, ok, "01,11,12:0..2")
}

func TestPromise9IsPuzzle(t *testing.T) {
	for _, p := range puzzles() {
		if !impl.IsPuzzle(p) || !isPuzzle(p) {
			t.Error("a puzzle is none:", p)
		}
	}
	for _, p := range badPuzzles() {
		if impl.IsPuzzle(p) || isPuzzle(p) {
			t.Error("no puzzle is one:", p)
		}
	}
	for size := range 12 {
		p := gapsOnly(fullHand()[:size])
		if impl.IsPuzzle(p) != (size >= 1 && size <= 9) {
			t.Error("IsPuzzle of gaps and of so many tiles:", size)
		}
		if p.Chain[size/2] = 9; impl.IsPuzzle(p) != isPuzzle(p) {
			t.Error("IsPuzzle of gaps, a number and of so many tiles:", size)
		}
	}
	if impl.MaxGapped != 9 || impl.MaxSolutions != 200 {
		t.Error("the limits are", impl.MaxGapped, impl.MaxSolutions)
	}
}

func TestPromise9CountGaps(t *testing.T) {
	for _, p := range puzzles() {
		gaps := 0
		for _, number := range p.Chain {
			gaps += oneIf(number == -1)
		}
		count, ok := impl.CountGaps(p)
		wantNumber(t, "CountGaps", count, ok, gaps)
	}
	for chain, want := range map[string]int{"0120": 0, "012.": 1, ".120": 1, "0.20": 1, "...0": 3, "0...": 3, ".12.": 2, "....": 4} {
		count, ok := impl.CountGaps(pz("01,02,12", chain))
		wantNumber(t, "CountGaps of "+chain, count, ok, want)
	}
}

func TestPromise9Solutions(t *testing.T) {
	none, one, several := 0, 0, 0
	for _, p := range solvedPuzzles() {
		want := solutionsTold(p)
		all, ok := impl.Solutions(p)
		wantLists(t, "Solutions of "+textTold(p), all, ok, want)
		if !slices.IsSortedFunc(all, slices.Compare) {
			t.Error("solutions are not in order:", all)
		}
		for _, chain := range all {
			is, ok := impl.IsSolution(p, chain)
			wantBool(t, "IsSolution of one of all", is, ok, true)
			wantTiles(t, "the tiles of a solution", picked(func(x tile) bool { return has(tilesOf(chain), x) }), ok, p.Hand)
		}
		count, ok := impl.CountSolutions(p)
		wantNumber(t, "CountSolutions", count, ok, len(want))
		first, ok := impl.FirstSolution(p)
		if len(want) == 0 {
			wantNothing(t, "FirstSolution without one", len(first) == 0, ok)
			none++
			continue
		}
		wantNumbers(t, "FirstSolution", first, ok, want[0])
		one, several = one+oneIf(len(want) == 1), several+oneIf(len(want) > 1)
	}
	if none < 100 || one < 100 || several < 100 {
		t.Error("too few puzzles of a kind:", none, one, several)
	}
}

func TestPromise9SolutionsTold(t *testing.T) {
	for _, c := range []struct {
		hand, chain string
		want        []string
	}{
		{"01,02,12", "....", []string{"0120", "0210", "1021", "1201", "2012", "2102"}},
		{"01,02,12", "...0", []string{"0120", "0210"}},
		{"01,02,12", "0120", []string{"0120"}},
		{"01,02,12", "0122", nil},
		{"01,02,12", "0121", nil},
		{"01,02,12", "3...", nil},
		{"01,02,12", ".00.", nil},
		{"55", "..", []string{"55"}}, {"55", ".5", []string{"55"}}, {"55", ".4", nil},
		{"09", "..", []string{"09", "90"}}, {"09", ".0", []string{"90"}}, {"09", "9.", []string{"90"}}, {"09", "00", nil},
		{"00,11", "...", nil}, {"01,23", "...", nil}, {"01,02,03", "....", nil},
		{"01,11,12", "....", []string{"0112", "2110"}}, {"01,11,12", "1...", nil}, {"01,11,12", "..1.", []string{"0112", "2110"}},
		{"01,12,23,34,45,56,67,78,89", "..........", []string{"0123456789", "9876543210"}},
		{"01,12,23,34,45,56,67,78,89", ".........0", []string{"9876543210"}},
		{"01,12,23,34,45,56,67,78,89", "......3...", []string{"9876543210"}},
		{"01,12,23,34,45,56,67,78,89", ".....3....", nil},
		{"00,11,22,33,44,55,66,77,88", "..........", nil},
	} {
		var want [][]int
		for _, text := range c.want {
			want = append(want, numbersOf(text))
		}
		all, ok := impl.Solutions(pz(c.hand, c.chain))
		wantLists(t, "Solutions of "+c.hand+":"+c.chain, all, ok, want)
	}
}

// TestPromise9BothWays: where gaps and numbers are the same from both sides, a chain is a solution exactly if it is one backwards.
func TestPromise9BothWays(t *testing.T) {
	for _, p := range solvedPuzzles() {
		if !slices.Equal(p.Chain, backwards(p.Chain)) {
			continue
		}
		all, ok := impl.Solutions(p)
		for _, chain := range all {
			if !slices.ContainsFunc(all, func(other []int) bool { return slices.Equal(other, backwards(chain)) }) {
				t.Error("not a solution backwards:", p, chain)
			}
			is, ok := impl.IsSolution(p, backwards(chain))
			wantBool(t, "IsSolution backwards", is, ok, true)
		}
		if !ok {
			t.Error("Solutions fails for", p)
		}
	}
}

// TestPromise9MaxSolutions: no puzzle has just MaxSolutions solutions (hands of 9 tiles were searched through: above 144 there are 176, 192, 216 and more), so 192 is the most that is told; the limit met exactly is tested beside the program.
func TestPromise9MaxSolutions(t *testing.T) {
	most := gapsOnly(manyChains())
	all, ok := impl.Solutions(most)
	wantLists(t, "Solutions", all, ok, solutionsTold(most))
	count, ok := impl.CountSolutions(most)
	wantNumber(t, "CountSolutions", count, ok, 192)
	for _, p := range fullPuzzles() {
		if many := len(solutionsTold(p)); many < 201 {
			t.Error("too few solutions for the test:", many)
		}
		if !impl.IsPuzzle(p) {
			t.Error("a puzzle with many solutions is none:", p)
		}
		all, ok := impl.Solutions(p)
		wantNothing(t, "Solutions of too many", len(all) == 0, ok)
		count, ok := impl.CountSolutions(p)
		wantNothing(t, "CountSolutions of too many", count == 0, ok)
		first, ok := impl.FirstSolution(p)
		wantNothing(t, "FirstSolution of too many", len(first) == 0, ok)
		sure, ok := impl.SureNumbers(p)
		wantNothing(t, "SureNumbers of too many", len(sure) == 0, ok)
		at, number, ok := impl.HintOf(p)
		wantNothing(t, "HintOf of too many", at == 0 && number == 0, ok)
		harder, ok := impl.HarderPuzzle(p)
		wantNothing(t, "HarderPuzzle of too many", noPuzzle(harder), ok)
		is, ok := impl.IsSolution(p, solutionsTold(p)[0])
		wantBool(t, "IsSolution of one of too many", is, ok, true)
		// One number more leaves few enough.
		filled, ok := impl.FillGap(p, 4, p.Hand[0].High)
		wantPuzzle(t, "FillGap", filled, ok, changedTold(p, 4, p.Hand[0].High))
		all, ok = impl.Solutions(filled)
		wantLists(t, "Solutions with a number", all, ok, solutionsTold(filled))
		if len(all) == 0 {
			t.Error("no solution left:", filled)
		}
	}
}

func TestPromise9IsSolution(t *testing.T) {
	list := append(chains(), []int{0, 1, 2, 0}, []int{0, 2, 1, 0}, []int{1, 2, 0, 1}, []int{0, 1, 1, 2}, []int{2, 1, 1, 0}, []int{5, 5}, []int{0, 9}, []int{9, 0}, []int{0, 1, 2}, []int{0, 1, 2, 3}, []int{0, 1, 2, 0, 3}, []int{1, 0, 2, 1, 3})
	for _, p := range toldPuzzles() {
		for _, chain := range append(slices.Clone(list), solutionsTold(gapsOnly(p.Hand))...) {
			want := slices.ContainsFunc(solutionsTold(p), func(other []int) bool { return slices.Equal(other, chain) })
			is, ok := impl.IsSolution(p, chain)
			wantBool(t, "IsSolution of "+textTold(p), is, ok, want)
		}
		for _, list := range append(badChains(), p.Chain, slices.Repeat([]int{p.Hand[0].Low}, 4)) {
			if !isChain(list) {
				is, ok := impl.IsSolution(p, list)
				wantNothing(t, "IsSolution of no chain", !is, ok)
			}
		}
	}
	for _, c := range []struct {
		chain string
		want  bool
	}{{"0120", true}, {"0210", true}, {"1201", false}, {"0123", false}, {"0124", false}, {"012", false}, {"0", false}, {"01203", false}, {"0112", false}, {"0012", false}} {
		is, ok := impl.IsSolution(pz("01,02,12", "0..."), numbersOf(c.chain))
		wantBool(t, "IsSolution of "+c.chain, is, ok, c.want)
	}
}

func TestPromise9SureNumbers(t *testing.T) {
	for _, p := range solvedPuzzles() {
		all := solutionsTold(p)
		sure, ok := impl.SureNumbers(p)
		at, number, hinted := impl.HintOf(p)
		if len(all) == 0 {
			wantNothing(t, "SureNumbers without a solution", len(sure) == 0, ok)
			wantNothing(t, "HintOf without a solution", at == 0 && number == 0, hinted)
			continue
		}
		var want, hint []int
		for i := range p.Chain {
			want = append(want, sureAt(all, i))
			if p.Chain[i] < 0 && want[i] >= 0 && hint == nil {
				hint = []int{i, want[i]}
			}
			if p.Chain[i] >= 0 && want[i] != p.Chain[i] {
				t.Error("a number of the puzzle is not sure:", p, i)
			}
		}
		wantNumbers(t, "SureNumbers of "+textTold(p), sure, ok, want)
		if hint == nil {
			wantNothing(t, "HintOf without a sure gap", at == 0 && number == 0, hinted)
		} else {
			wantNumbers(t, "HintOf of "+textTold(p), []int{at, number}, hinted, hint)
		}
	}
}

func TestPromise9SureTold(t *testing.T) {
	for _, c := range []struct {
		hand, chain, sure string
		hint              []int
	}{
		{"01,02,12", "....", "....", nil},
		{"01,02,12", "0...", "0..0", []int{3, 0}},
		{"01,02,12", "...2", "2..2", []int{0, 2}},
		{"01,02,12", ".1..", ".1..", nil},
		{"01,02,12", "01..", "0120", []int{2, 2}},
		{"01,02,12", "0120", "0120", nil},
		{"01,02,12", "012.", "0120", []int{3, 0}},
		{"01,02,12", ".120", "0120", []int{0, 0}},
		{"01,11,12", "....", ".11.", []int{1, 1}},
		{"01,11,12", ".11.", ".11.", nil},
		{"55", "..", "55", []int{0, 5}},
		{"00", "0.", "00", []int{1, 0}},
		{"09", "..", "..", nil},
		{"01,02,12,23", ".....", ".....", nil},
		{"01,02,12,23", "...2.", "2..23", []int{0, 2}},
		{"01,02,12,23", "3....", "32..2", []int{1, 2}},
		{"01,02,12,23", "3...2", "32..2", []int{1, 2}},
		{"01,02,12,23", "32...", "32..2", []int{4, 2}},
	} {
		p := pz(c.hand, c.chain)
		sure, ok := impl.SureNumbers(p)
		wantNumbers(t, "SureNumbers of "+textTold(p), sure, ok, placesOf(c.sure))
		at, number, ok := impl.HintOf(p)
		if c.hint == nil {
			wantNothing(t, "HintOf of "+textTold(p), at == 0 && number == 0, ok)
		} else {
			wantNumbers(t, "HintOf of "+textTold(p), []int{at, number}, ok, c.hint)
		}
	}
}

func TestPromise9FillAndOpen(t *testing.T) {
	for _, p := range slices.Concat(toldPuzzles(), drawnPuzzles(8), fullPuzzles()) {
		for at, before := range p.Chain {
			opened, ok := impl.OpenGap(p, at)
			if before == -1 {
				wantNothing(t, "OpenGap of a gap", noPuzzle(opened), ok)
			} else {
				wantPuzzle(t, "OpenGap", opened, ok, changedTold(p, at, -1))
				back, ok := impl.FillGap(opened, at, before)
				wantPuzzle(t, "OpenGap and FillGap", back, ok, p)
			}
			for number := range 10 {
				filled, ok := impl.FillGap(p, at, number)
				if before != -1 {
					wantNothing(t, "FillGap of a number", noPuzzle(filled), ok)
					continue
				}
				wantPuzzle(t, "FillGap", filled, ok, changedTold(p, at, number))
				back, ok := impl.OpenGap(filled, at)
				wantPuzzle(t, "FillGap and OpenGap", back, ok, p)
			}
		}
	}
	// A number that lets no solution be may be filled in, too.
	for _, number := range []int{1, 2, 7} {
		filled, ok := impl.FillGap(pz("01,02,12", "0..."), 3, number)
		wantPuzzle(t, "FillGap with a wrong number", filled, ok, changedTold(pz("01,02,12", "0..."), 3, number))
		count, ok := impl.CountSolutions(filled)
		wantNumber(t, "CountSolutions", count, ok, 0)
	}
	first, ok := impl.OpenGap(pz("01,02,12", "0120"), 0)
	wantPuzzle(t, "OpenGap at the first place", first, ok, pz("01,02,12", ".120"))
	last, ok := impl.OpenGap(pz("01,02,12", "0120"), 3)
	wantPuzzle(t, "OpenGap at the last place", last, ok, pz("01,02,12", "012."))
}

func TestPromise9HarderPuzzle(t *testing.T) {
	for _, p := range solvedPuzzles() {
		all := solutionsTold(p)
		harder, ok := impl.HarderPuzzle(p)
		if len(all) != 1 {
			wantNothing(t, "HarderPuzzle without just one solution", noPuzzle(harder), ok)
			continue
		}
		wantPuzzle(t, "HarderPuzzle of "+textTold(p), harder, ok, harderTold(p))
		kept, ok := impl.Solutions(harder)
		wantLists(t, "the solution of a harder puzzle", kept, ok, all)
		again, ok := impl.HarderPuzzle(harder)
		wantPuzzle(t, "HarderPuzzle twice", again, ok, harder)
		for at := range harder.Chain {
			opened, ok := impl.OpenGap(harder, at)
			if count, _ := impl.CountSolutions(opened); ok && count == 1 {
				t.Error("could be harder still:", harder, at)
			}
		}
	}
}

func TestPromise9HarderTold(t *testing.T) {
	for _, c := range []struct{ hand, chain, want string }{
		{"01,02,12", "0120", "..20"}, {"01,02,12", "01..", "01.."}, {"01,02,12", ".12.", ".12."}, {"01,02,12", "0.20", "..20"},
		{"01,11,12", "0112", "...2"}, {"01,11,12", "0...", "0..."}, {"01,11,12", "01.2", "...2"},
		{"55", "55", ".."}, {"55", "..", ".."}, {"55", "5.", ".."}, {"09", "09", ".9"}, {"09", "9.", "9."}, {"09", "90", ".0"},
		{"01,12,23,34,45,56,67,78,89", "0123456789", ".........9"}, {"01,12,23,34,45,56,67,78,89", "98........", ".8........"},
	} {
		harder, ok := impl.HarderPuzzle(pz(c.hand, c.chain))
		wantPuzzle(t, "HarderPuzzle of "+c.hand+":"+c.chain, harder, ok, pz(c.hand, c.want))
	}
	for _, bad := range []puzzle{pz("01,02,12", "0..."), pz("01,02,12", "...."), pz("01,02,12", "0121"), pz("09", ".."), pz("09", "00"), pz("00,11", "..."), pz("00,11", "001")} {
		harder, ok := impl.HarderPuzzle(bad)
		wantNothing(t, "HarderPuzzle", noPuzzle(harder), ok)
	}
}

func TestPromise9MakePuzzle(t *testing.T) {
	for _, chain := range append(chains(), numbersOf("0123456789"), numbersOf("9876543210"), numbersOf("0011223344"), numbersOf("9021")) {
		for every := 1; every <= 10; every++ {
			made, ok := impl.MakePuzzle(chain, every)
			if len(chain) < 2 || len(chain) > 10 {
				wantNothing(t, "MakePuzzle of too few or too many tiles", noPuzzle(made), ok)
				continue
			}
			want := puzzle{Hand: picked(func(x tile) bool { return has(tilesOf(chain), x) })}
			for at, number := range chain {
				if slices.Contains([]int{0, every, 2 * every, 3 * every, 4 * every, 5 * every, 6 * every, 7 * every, 8 * every, 9 * every}, at) {
					want.Chain = append(want.Chain, number)
				} else {
					want.Chain = append(want.Chain, -1)
				}
			}
			wantPuzzle(t, "MakePuzzle", made, ok, want)
			is, ok := impl.IsSolution(made, chain)
			wantBool(t, "IsSolution of what a puzzle is made of", is, ok, true)
		}
	}
	for _, c := range []struct {
		chain string
		every int
		want  puzzle
	}{
		{"0112", 1, pz("01,11,12", "0112")}, {"0112", 2, pz("01,11,12", "0.1.")}, {"0112", 4, pz("01,11,12", "0...")}, {"0112", 10, pz("01,11,12", "0...")},
		{"2110", 3, pz("01,11,12", "2..0")}, {"55", 1, pz("55", "55")}, {"55", 2, pz("55", "5.")}, {"90", 10, pz("09", "9.")},
		{"9876543210", 9, pz("01,12,23,34,45,56,67,78,89", "9........0")}, {"9876543210", 10, pz("01,12,23,34,45,56,67,78,89", "9.........")}, {"9876543210", 4, pz("01,12,23,34,45,56,67,78,89", "9...5...1.")},
	} {
		made, ok := impl.MakePuzzle(numbersOf(c.chain), c.every)
		wantPuzzle(t, "MakePuzzle of "+c.chain, made, ok, c.want)
	}
}

func TestPromise9TurnPuzzle(t *testing.T) {
	for _, p := range puzzles() {
		turned, ok := impl.TurnPuzzle(p)
		wantPuzzle(t, "TurnPuzzle", turned, ok, puzzle{Hand: p.Hand, Chain: backwards(p.Chain)})
		back, ok := impl.TurnPuzzle(turned)
		wantPuzzle(t, "TurnPuzzle twice", back, ok, p)
	}
	for _, p := range toldPuzzles() {
		var want [][]int
		for _, chain := range solutionsTold(p) {
			want = append(want, backwards(chain))
		}
		slices.SortFunc(want, slices.Compare)
		turned, _ := impl.TurnPuzzle(p)
		all, ok := impl.Solutions(turned)
		wantLists(t, "Solutions of a turned puzzle", all, ok, want)
	}
}

func TestPromise9RenamePuzzle(t *testing.T) {
	for _, names := range append(goodNames(), []int{1, 0, 2, 3, 4, 5, 6, 7, 8, 9}, []int{0, 1, 2, 3, 4, 9, 6, 7, 8, 5}) {
		for _, p := range slices.Concat(toldPuzzles(), drawnPuzzles(4), fullPuzzles()) {
			want := puzzle{Chain: renamedTold(p.Chain, names)}
			want.Hand = picked(func(x tile) bool {
				return slices.ContainsFunc(p.Hand, func(old tile) bool { return tileOf(names[old.Low], names[old.High]) == x })
			})
			renamed, ok := impl.RenamePuzzle(p, names)
			wantPuzzle(t, "RenamePuzzle", renamed, ok, want)
		}
		for _, p := range toldPuzzles() {
			var want [][]int
			for _, chain := range solutionsTold(p) {
				want = append(want, renamedTold(chain, names))
			}
			slices.SortFunc(want, slices.Compare)
			renamed, _ := impl.RenamePuzzle(p, names)
			all, ok := impl.Solutions(renamed)
			wantLists(t, "Solutions of a renamed puzzle", all, ok, want)
		}
	}
	exchanged := []int{2, 1, 0, 3, 4, 5, 6, 7, 8, 9}
	renamed, ok := impl.RenamePuzzle(pz("01,11,12,23", "0.1.3"), exchanged)
	wantPuzzle(t, "RenamePuzzle with a hand to be sorted", renamed, ok, pz("01,03,11,12", "2.1.3"))
	back, ok := impl.RenamePuzzle(renamed, exchanged)
	wantPuzzle(t, "RenamePuzzle twice", back, ok, pz("01,11,12,23", "0.1.3"))
}

func TestPromise9Texts(t *testing.T) {
	for _, p := range puzzles() {
		text, ok := impl.PuzzleText(p)
		wantText(t, "PuzzleText", text, ok, textTold(p))
		back, ok := impl.ParsePuzzle(text)
		wantPuzzle(t, "ParsePuzzle of "+text, back, ok, p)
	}
	for text, want := range map[string]puzzle{
		"55:..":          {Hand: []tile{tl(5, 5)}, Chain: []int{-1, -1}},
		"09:90":          {Hand: []tile{tl(0, 9)}, Chain: []int{9, 0}},
		"01,11,12:0..2":  {Hand: []tile{tl(0, 1), tl(1, 1), tl(1, 2)}, Chain: []int{0, -1, -1, 2}},
		"00,11:9.9":      {Hand: []tile{tl(0, 0), tl(1, 1)}, Chain: []int{9, -1, 9}},
		"01,02,12:.12.":  {Hand: []tile{tl(0, 1), tl(0, 2), tl(1, 2)}, Chain: []int{-1, 1, 2, -1}},
		"01,02,12:0000":  {Hand: []tile{tl(0, 1), tl(0, 2), tl(1, 2)}, Chain: []int{0, 0, 0, 0}},
		"07,18,29:7.1.":  {Hand: []tile{tl(0, 7), tl(1, 8), tl(2, 9)}, Chain: []int{7, -1, 1, -1}},
		"12,13,45:....":  {Hand: []tile{tl(1, 2), tl(1, 3), tl(4, 5)}, Chain: []int{-1, -1, -1, -1}},
		"34,36,46:63.6":  {Hand: []tile{tl(3, 4), tl(3, 6), tl(4, 6)}, Chain: []int{6, 3, -1, 6}},
		"00,01,02:10000": {},
	} {
		p, ok := impl.ParsePuzzle(text)
		if noPuzzle(want) {
			wantNothing(t, "ParsePuzzle of "+text, noPuzzle(p), ok)
			continue
		}
		wantPuzzle(t, "ParsePuzzle of "+text, p, ok, want)
		back, ok := impl.PuzzleText(p)
		wantText(t, "PuzzleText", back, ok, text)
	}
}
