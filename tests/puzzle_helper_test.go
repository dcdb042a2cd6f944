package tests

import (
	"math"
	"slices"
	"strconv"
	"strings"
	"testing"

	"loop.example/g01216/impl"
)

type puzzle = impl.Puzzle

// placesOf reads digits, and gaps told by points.
func placesOf(text string) []int {
	var list []int
	for _, letter := range text {
		if letter == '.' {
			list = append(list, -1)
		} else {
			list = append(list, int(letter-'0'))
		}
	}
	return list
}

// pz writes a puzzle, its hand as a text and its chain as digits and points, also one that is none.
func pz(hand, chain string) puzzle {
	return puzzle{Hand: handOf(hand), Chain: placesOf(chain)}
}

func clonePuzzle(p puzzle) puzzle {
	return puzzle{Hand: slices.Clone(p.Hand), Chain: slices.Clone(p.Chain)}
}

func equalPuzzles(a, b puzzle) bool {
	return slices.Equal(a.Hand, b.Hand) && slices.Equal(a.Chain, b.Chain)
}

func noPuzzle(p puzzle) bool { return equalPuzzles(p, puzzle{}) }

func wantPuzzle(t *testing.T, what string, got puzzle, ok bool, want puzzle) {
	t.Helper()
	if !ok || !equalPuzzles(got, want) {
		t.Errorf("%s: got %v, %v, want %v", what, got, ok, want)
	}
}

// isPuzzle is the test's own way to tell whether a value is a puzzle.
func isPuzzle(p puzzle) bool {
	sorted := picked(func(x tile) bool { return has(p.Hand, x) })
	numbers := !slices.ContainsFunc(p.Chain, func(n int) bool { return n < -1 || n > 9 })
	return slices.Equal(p.Hand, sorted) && len(sorted) >= 1 && len(sorted) <= 9 && len(p.Chain)-len(sorted) == 1 && numbers
}

// textTold is the test's own way to write a puzzle.
func textTold(p puzzle) string {
	var tiles []string
	for _, x := range p.Hand {
		tiles = append(tiles, strconv.Itoa(10*x.Low + x.High + 100)[1:])
	}
	chain := ""
	for _, number := range p.Chain {
		chain += string(".0123456789"[number+1])
	}
	return strings.Join(tiles, ",") + ":" + chain
}

// changedTold returns a puzzle with another number or a gap at a place.
func changedTold(p puzzle, at, number int) puzzle {
	changed := clonePuzzle(p)
	changed.Chain[at] = number
	return changed
}

// gapsOnly returns the puzzle of a hand without any numbers.
func gapsOnly(hand []tile) puzzle {
	return puzzle{Hand: hand, Chain: slices.Repeat([]int{-1}, len(hand)+1)}
}

// fitsTold is the test's own way to tell whether a list has the numbers of a puzzle.
func fitsTold(p puzzle, list []int) bool {
	for i, number := range list {
		if p.Chain[i] >= 0 && p.Chain[i] != number {
			return false
		}
	}
	return true
}

var wholeMade = map[string][][]int{}

// solutionsTold is the test's own way to tell all solutions, in order: of all whole chains of the hand those that have the numbers.
func solutionsTold(p puzzle) [][]int {
	text := textTold(puzzle{Hand: p.Hand})
	if _, made := wholeMade[text]; !made {
		wholeMade[text] = wholeOf(p.Hand)
	}
	var all [][]int
	for _, chain := range wholeMade[text] {
		if fitsTold(p, chain) {
			all = append(all, chain)
		}
	}
	return all
}

// sureAt is the test's own way to tell the number that all chains have at a place, or -1.
func sureAt(all [][]int, at int) int {
	var numbers []int
	for _, chain := range all {
		numbers = append(numbers, chain[at])
	}
	if same(numbers) {
		return numbers[0]
	}
	return -1
}

// harderTold is the test's own way to tell the harder puzzle of one with one solution.
func harderTold(p puzzle) puzzle {
	for at, number := range p.Chain {
		if opened := changedTold(p, at, -1); number >= 0 && len(solutionsTold(opened)) == 1 {
			p = opened
		}
	}
	return p
}

// renamedTold returns numbers by other names, gaps staying.
func renamedTold(list []int, names []int) []int {
	var renamed []int
	for _, number := range list {
		if number >= 0 {
			number = names[number]
		}
		renamed = append(renamed, number)
	}
	return renamed
}

// backwards returns numbers backwards.
func backwards(list []int) []int {
	back := slices.Clone(list)
	slices.Reverse(back)
	return back
}

// toldPuzzles are the cases that the document and the issue name.
func toldPuzzles() []puzzle {
	return []puzzle{
		pz("01,02,12", "0..."), pz("01,02,12", "01.."), pz("01,02,12", "...."), pz("01,02,12", "...0"), pz("01,02,12", ".0.."), pz("01,02,12", "0120"), pz("01,02,12", "0210"), pz("01,02,12", "0121"),
		pz("01,11,12", "0..2"), pz("01,11,12", "...."), pz("01,11,12", "0112"), pz("01,11,12", ".11."), pz("01,11,12", "2..0"), pz("01,11,12", "0.12"), pz("01,11,12", "01.2"), pz("01,11,12", ".112"), pz("01,11,12", "011."), pz("01,11,12", "1..."),
		pz("55", ".."), pz("55", "5."), pz("55", ".5"), pz("55", "55"), pz("55", "4."), pz("55", "45"), pz("00", ".."), pz("99", ".."),
		pz("09", ".."), pz("09", "0."), pz("09", ".0"), pz("09", "09"), pz("09", "90"), pz("09", "00"), pz("09", "5."), pz("09", "99"),
		pz("00,11", "..."), pz("00,11", "0.1"), pz("01,23", "..."), pz("01,23", "01."), pz("01,02,03", "...."), pz("01,02,03", "1023"),
		pz("12,13,23", "1..."), pz("12,13,23", "1.3."), pz("01,02,12,23", "....."), pz("01,02,12,23", "2...."), pz("01,02,12,23", "..0.."),
		pz("01,12,23,34,45,56,67,78,89", ".........."), pz("01,12,23,34,45,56,67,78,89", "0........."), pz("01,12,23,34,45,56,67,78,89", "0123456789"), pz("01,12,23,34,45,56,67,78,89", ".........0"), pz("01,12,23,34,45,56,67,78,89", "....5....."),
		pz("00,11,22,33,44,55,66,77,88", ".........."), pz("11,12,22,23,33,34,44,45,55", ".........."), pz("09,19,29,39,49,59,69,79,89", ".........."),
		pz("00,01,02,03,12,13,14,23,24", "...0......"), pz("00,01,02,03,12,13,14,23,24", "3.0......."), pz("03,04,12,13,14,22,23,24,34", "1...2....."), pz("04,05,14,15,24,25,34,35,45", ".......3.."),
	}
}

// fullPuzzles have more solutions than MaxSolutions: 216, 240, 264, 288 and 432.
func fullPuzzles() []puzzle {
	var list []puzzle
	for _, hand := range []string{
		"00,01,02,03,04,11,12,23,24", "01,02,03,04,05,12,13,14,15", "04,05,14,15,24,25,34,35,45", "01,02,03,12,13,14,23,24,34", "01,02,03,05,12,13,14,24,25", "00,01,02,03,04,11,12,13,14", "01,02,11,12,13,14,22,23,24",
	} {
		list = append(list, gapsOnly(handOf(hand)))
	}
	return list
}

// smallPuzzles are all puzzles of hands of at most two tiles with the numbers 0, 1 and 2, and some of those of three, their chains with a number more.
func smallPuzzles() []puzzle {
	var list []puzzle
	numbers := []int{-1, 0, 1, 2, 9}
	for size := 1; size <= 3; size++ {
		for i, hand := range handsOfSize(setOf(2), size) {
			chains := [][]int{nil}
			for range size + 1 {
				var longer [][]int
				for _, chain := range chains {
					for _, number := range numbers {
						longer = append(longer, append(slices.Clone(chain), number))
					}
				}
				chains = longer
			}
			for j, chain := range chains {
				if size < 3 || (i+j)%4 == 0 {
					list = append(list, puzzle{Hand: hand, Chain: chain})
				}
			}
		}
	}
	return list
}

// drawnPuzzles are puzzles of chains laid by a seed, with more and more gaps, some of them with a number that may let no solution be.
func drawnPuzzles(seed int) []puzzle {
	var list []puzzle
	for most := 2; most <= 9; most++ {
		for size := 1; size <= 9; size++ {
			var chain []int
			chain, seed = trail(most, size, seed)
			if len(chain) < 2 {
				continue
			}
			p := puzzle{Hand: picked(func(x tile) bool { return has(tilesOf(chain), x) }), Chain: chain}
			list = append(list, p)
			for range 4 {
				seed = (seed*163 + 229) % 10007
				p = changedTold(p, seed%len(chain), -1)
				list = append(list, p, changedTold(p, seed/10%len(chain), seed%(most+1)))
			}
		}
	}
	return list
}

// solvedPuzzles have at most MaxSolutions solutions, or none.
func solvedPuzzles() []puzzle {
	return slices.Concat(toldPuzzles(), smallPuzzles(), drawnPuzzles(3), drawnPuzzles(7), []puzzle{gapsOnly(manyChains())})
}

func puzzles() []puzzle { return slices.Concat(solvedPuzzles(), fullPuzzles()) }

// badPuzzles are values that are no puzzles.
func badPuzzles() []puzzle {
	list := []puzzle{
		{}, {Chain: []int{-1}}, {Chain: []int{0}}, {Chain: []int{0, 1}}, {Hand: []tile{}, Chain: []int{3}}, {Hand: handOf("01")}, {Hand: handOf("01,12,23")},
		pz("01", "0"), pz("01", "."), pz("01", "..."), pz("01", "010"), pz("01,12", ".."), pz("01,12", "0..2"), pz("01,02,12", "0.."), pz("01,02,12", "0...."),
		pz("12,01", "..."), pz("02,01,12", "0..."), pz("01,12,02", "0..."), pz("11,01", "..."), pz("11,02", "..."), pz("10", ".."), pz("01,21", "..."), pz("00,10", "..."),
		pz("01,01", "..."), pz("01,01", "010"), pz("00,00", "000"), pz("01,02,02", "...."), pz("01,02,01", "...."),
		{Hand: fullHand()[:10], Chain: slices.Repeat([]int{-1}, 11)}, gapsOnly(fullHand()), gapsOnly(setOf(3)), gapsOnly(fullHand()[:11]), {Hand: fullHand()[:10], Chain: slices.Repeat([]int{-1}, 10)}, {Hand: fullHand()[:9], Chain: slices.Repeat([]int{-1}, 9)}, {Hand: fullHand()[:9], Chain: slices.Repeat([]int{-1}, 11)},
	}
	for _, hand := range badHands() {
		list = append(list, gapsOnly(hand))
	}
	for _, number := range append([]int{math.MinInt + 1, -10, -3, -2, 11, 99, 254, 255, 257}, badNumbers...) {
		if number == -1 {
			continue
		}
		for at := range 4 {
			list = append(list, changedTold(pz("01,02,12", "...."), at, number), changedTold(pz("01,02,12", "0120"), at, number))
		}
	}
	return list
}

// badPuzzleTexts are texts of which there is no puzzle.
func badPuzzleTexts() []string {
	list := []string{
		"", ":", "::", ".", "..", "-", "-:", "-:.", "-:0", "-:..", ":0", ":..", ":0...", "01", "01:", "01,02,12", "01,02,12:", "01,02,120...", "01,02,12;0...", "01,02,12 0...", "01,02,12.0...", "01,02,12-0...",
		"01,02,12::0...", "01,02,12:0...:", "01,02,12:0.:.", "01:,02,12:0...", ":01,02,12:0...", "01,02,12:0..:.", "01:01:01", "01:0:", "01::", "01:..:..",
		"01,02,12:0..", "01,02,12:0....", "01,02,12:", "01:0", "01:.", "01:...", "01:010", "01,12:..", "01,12:....", "00,01,02,03,04,05,06,07,08:.........", "00,01,02,03,04,05,06,07,08:...........",
		"00,01,02,03,04,05,06,07,08,09:...........", "00,01,02,03,04,05,06,07,08,09:..........",
		"02,01,12:0...", "01,12,02:0...", "12,01:...", "11,01:...", "10:..", "21:..", "01,21:...", "01,01:...", "00,00:000", "01,02,01:....",
		"01,02,12:/...", "01,02,12:0../", "01:/.", "01:./", "01://", "01,02,12:0..-", "01,02,12:0.-1", "01:-1", "01:-10", "01:0,", "01:0,1", "01:a.", "01:.a", "01:A.", "01:_.", "01:*.", "01:?.", "01:..\n", "01:.\n", "01: .", "01:. ", "01:+1", "01:\x00.", "01:\xff.", "01:..\x00", "01:٠.", "01:·.", "01:…",
		" 01:..", "01 :..", "01: ..", "01:.. ", "01:..\r\n", "\n01:..", "0:..", "1:..", "012:..", "0a:..", "a1:..", "0.:..", "..:..", "01,:..", ",01:..", "01,,12:...", "01, 12:...", "01;12:...", "0 1:..", "/0:..", "//:..",
	}
	hand, _ := impl.HandText(fullHand())
	return append(list, hand+":"+strings.Repeat(".", 56), hand, strings.Repeat("01,", 18)+"01:"+strings.Repeat(".", 20), strings.Repeat(":", 1<<16), "01:"+strings.Repeat(".", 1<<20), strings.Repeat("01,", 1<<16)+":..", strings.Repeat(".", 1<<16)+":..")
}
