package tests

import (
	"math"
	"slices"
)

// hand58 has the most windows of all hands of 9 tiles that a search has found.
const hand58 = "24,25,26,33,34,35,36,44,45"

// pairsTiles is the test's own way to tell the tiles that each two numbers of a list make.
func pairsTiles(list []int) []tile {
	var tiles []tile
	for pair := range slices.Chunk(list, 2) {
		tiles = append(tiles, tileOf(pair[0], pair[1]))
	}
	return tiles
}

func allNumbers(list []int) bool {
	return !slices.ContainsFunc(list, func(n int) bool { return n < 0 || n > 9 })
}

// isWindow is the test's own way to tell whether a list is a window.
func isWindow(w []int) bool {
	return len(w) == 8 && allNumbers(w) && !twice(pairsTiles(w))
}

// sidesTold is the test's own way to tell the sides of a window: it writes the numbers into a square of three by three.
func sidesTold(w []int) []int {
	places := [8][2]int{{0, 0}, {0, 1}, {0, 2}, {1, 2}, {2, 2}, {2, 1}, {2, 0}, {1, 0}}
	var square [3][3]int
	for i, place := range places {
		square[place[0]][place[1]] = w[i]
	}
	sides := make([]int, 4)
	for i := range 3 {
		sides[0] += square[0][i]
		sides[1] += square[i][2]
		sides[2] += square[2][i]
		sides[3] += square[i][0]
	}
	return sides
}

// same tells whether all numbers of a list are the same.
func same(list []int) bool { return slices.Min(list) == slices.Max(list) }

// spunTold is the test's own way to spin a window.
func spunTold(w []int, k int) []int { return slices.Concat(w[2*k:], w[:2*k]) }

// mirroredTold is the test's own way to mirror a window.
func mirroredTold(w []int) []int {
	return []int{w[1], w[0], w[7], w[6], w[5], w[4], w[3], w[2]}
}

// leastTold is the test's own way to tell the first one of the spun windows.
func leastTold(w []int) []int {
	return slices.MinFunc([][]int{w, spunTold(w, 1), spunTold(w, 2), spunTold(w, 3)}, slices.Compare)
}

// laidEveryWay lists the numbers of so many tiles of a hand, in all orders and in both directions, in no special order.
func laidEveryWay(hand []tile, size int) [][]int {
	if size == 0 {
		return [][]int{nil}
	}
	var all [][]int
	for _, x := range hand {
		for _, rest := range laidEveryWay(without(hand, []tile{x}), size-1) {
			all = append(all, slices.Concat([]int{x.Low, x.High}, rest))
			if x.Low != x.High {
				all = append(all, slices.Concat([]int{x.High, x.Low}, rest))
			}
		}
	}
	return all
}

// fairTold is the test's own way to tell the fair windows of a hand, in order.
func fairTold(hand []tile) [][]int {
	var all [][]int
	for _, w := range laidEveryWay(hand, 4) {
		if same(sidesTold(w)) && slices.Equal(w, leastTold(w)) {
			all = append(all, w)
		}
	}
	slices.SortFunc(all, slices.Compare)
	return all
}

// sumsTold is the test's own way to tell the sums of fair windows.
func sumsTold(windows [][]int) []int {
	var sums []int
	for sum := range 28 {
		if slices.ContainsFunc(windows, func(w []int) bool { return w[0]+w[1]+w[2] == sum }) {
			sums = append(sums, sum)
		}
	}
	return sums
}

// drawnWindow returns a window, made by a seed, and the seed for the next one.
func drawnWindow(from []tile, seed int) ([]int, int) {
	tiles, seed := drawn(from, 4, seed)
	var w []int
	for _, x := range tiles {
		seed = (seed*163 + 229) % 10007
		if seed%2 == 0 {
			x = tl(x.High, x.Low)
		}
		w = append(w, x.Low, x.High)
	}
	return w, seed
}

// windows returns ordinary windows and the extreme ones, fair ones among them.
func windows() [][]int {
	list := [][]int{
		{0, 2, 1, 1, 1, 0, 2, 1}, {2, 0, 1, 2, 0, 1, 1, 1},
		{0, 0, 0, 1, 0, 2, 0, 3}, {0, 0, 1, 1, 2, 2, 3, 3}, {3, 3, 2, 2, 1, 1, 0, 0},
		{9, 9, 9, 8, 9, 7, 9, 6}, {9, 9, 8, 9, 7, 9, 6, 9}, {9, 9, 8, 8, 7, 7, 6, 6}, {0, 9, 9, 9, 1, 9, 2, 9},
		{0, 1, 2, 3, 4, 5, 6, 7}, {7, 6, 5, 4, 3, 2, 1, 0}, {1, 0, 0, 0, 1, 1, 2, 0},
		{2, 5, 6, 2, 5, 3, 5, 6}, {2, 6, 5, 3, 5, 2, 6, 5}, {0, 9, 2, 8, 1, 2, 8, 3}, {4, 8, 8, 6, 6, 6, 8, 8},
	}
	for _, hand := range []string{hand58, "39,47,55,68", "00,01,02,11,12,22"} {
		for i, w := range fairTold(handOf(hand)) {
			list = append(list, spunTold(w, i%4))
		}
	}
	seed := 3
	for most := range 8 {
		for range 12 {
			var w []int
			w, seed = drawnWindow(setOf(most+2), seed)
			list = append(list, w)
		}
	}
	return list
}

// badWindows returns lists that are no windows.
func badWindows() [][]int {
	good := []int{0, 2, 1, 1, 1, 0, 2, 1}
	list := [][]int{
		nil, {}, {0}, {0, 1}, {0, 1, 2, 3}, {0, 0, 0, 0, 0, 0, 0, 0}, make([]int, 7), make([]int, 9), make([]int, 16), make([]int, 1000),
		good[:7], good[1:], good[:6], append(slices.Clone(good), 3), append(slices.Clone(good), 3, 3), append([]int{3, 3}, good...),
		{0, 1, 2, 3, 4, 5, 6}, {0, 1, 2, 3, 4, 5, 6, 7, 8}, {0, 1, 2, 3, 4, 5, 6, 7, 8, 9},
	}
	for i := range 4 {
		for j := range 4 {
			if i == j {
				continue
			}
			once := slices.Clone(good)
			once[2*j], once[2*j+1] = good[2*i], good[2*i+1]
			turned := slices.Clone(good)
			turned[2*j], turned[2*j+1] = good[2*i+1], good[2*i]
			list = append(list, once, turned)
		}
	}
	for _, n := range badNumbers {
		list = append(list, []int{n}, []int{n, n, n, n, n, n, n, n}, []int{n, n, 0, 1, 2, 3, 4, 5})
		for i := range good {
			bad := slices.Clone(good)
			bad[i] = n
			list = append(list, bad)
		}
	}
	return list
}

// windowedHands returns hands of at most 9 tiles: told ones, and drawn ones, which often have a window.
func windowedHands() [][]tile {
	list := [][]tile{
		nil,
		{},
		{tl(3, 3)},
		{tl(0, 1), tl(1, 2), tl(0, 2)},
		{tl(0, 0), tl(1, 1), tl(2, 2), tl(3, 3)},
		setOf(2),
		reversed(setOf(2)),
		fullHand()[:9],
		fullHand()[46:],
		handOf(hand58),
		reversed(handOf(hand58)),
		handOf("26,34,37,45"),
		handOf("56,26,35,25"),
		handOf("01,02,03,04,05,06,07,08,09"),
		handOf("00,11,22,33,44,55,66,77,88"),
	}
	seed := 13
	for most := range 8 {
		for size := 4; size <= 9; size++ {
			var hand []tile
			hand, seed = drawn(setOf(most+2), size, seed)
			list = append(list, hand)
		}
	}
	return list
}

// manyTiles returns hands that have a tile more than windows may be looked for in, or more than that.
func manyTiles() [][]tile {
	return [][]tile{fullHand()[:10], setOf(3), reversed(setOf(4)), append(handOf(hand58), tl(0, 0)), fullHand()}
}

// rowsOf cuts a list into rows.
func rowsOf(list []int, width int) [][]int {
	var rows [][]int
	for row := range slices.Chunk(list, width) {
		rows = append(rows, slices.Clone(row))
	}
	return rows
}

// cloneRows copies rows and all that is in them.
func cloneRows(rows [][]int) [][]int {
	var copied [][]int
	for _, row := range rows {
		copied = append(copied, slices.Clone(row))
	}
	return copied
}

func equalRows(a, b [][]int) bool { return slices.EqualFunc(a, b, slices.Equal) }

// isBlock is the test's own way to tell whether rows are a block.
func isBlock(rows [][]int) bool {
	if len(rows) == 0 || len(rows) > 3 {
		return false
	}
	for _, row := range rows {
		if len(row) != len(rows[0]) || len(row) != 2 && len(row) != 4 || !allNumbers(row) {
			return false
		}
	}
	return !twice(pairsTiles(slices.Concat(rows...)))
}

// rowsTold is the test's own way to tell the sums of all rows.
func rowsTold(rows [][]int) []int {
	var sums []int
	for _, row := range rows {
		sum := 0
		for _, number := range row {
			sum += number
		}
		sums = append(sums, sum)
	}
	return sums
}

// columnsTold is the test's own way to tell the sums of all columns: it makes rows of them.
func columnsTold(rows [][]int) []int {
	columns := make([][]int, len(rows[0]))
	for _, row := range rows {
		for i, number := range row {
			columns[i] = append(columns[i], number)
		}
	}
	return rowsTold(columns)
}

// isMagic is the test's own way to tell whether a block is magic.
func isMagic(rows [][]int) bool { return same(rowsTold(rows)) && same(columnsTold(rows)) }

// rowsFit tells whether a hand makes so many rows.
func rowsFit(hand []tile, rows int) bool {
	return rows >= 1 && rows <= 3 && (len(hand) == rows || len(hand) == 2*rows)
}

// magicTold is the test's own way to tell the magic blocks of all tiles of a hand, in order.
func magicTold(hand []tile, rows int) [][][]int {
	var all [][][]int
	for _, list := range laidEveryWay(hand, len(hand)) {
		if block := rowsOf(list, len(list)/rows); isMagic(block) {
			all = append(all, block)
		}
	}
	slices.SortFunc(all, func(a, b [][]int) int { return slices.CompareFunc(a, b, slices.Compare) })
	return all
}

// magicHands returns hands of 1, 2, 3, 4 and 6 tiles, with magic blocks and without.
func magicHands() [][]tile {
	var list [][]tile
	for _, text := range []string{
		"00", "01", "99", "08", "00,11", "05,14", "03,12", "06,15,24", "24,06,15", "06,15,33", "17,26,35", "00,11,22", "01,23,45",
		"03,12,14,23", "02,11,13,22", "13,22,02,11", "01,23,45,67", "00,11,22,33",
		"14,24,27,34,46,56", "56,46,34,27,24,14", "00,01,02,11,12,22", "01,09,23,45,67,89", "08,17,26,35,44,07", "00,11,22,33,44,55",
	} {
		list = append(list, handOf(text))
	}
	seed := 23
	for _, size := range []int{1, 2, 3, 4, 6} {
		for most := range 6 {
			var hand []tile
			hand, seed = drawn(setOf(most+2), size, seed)
			list = append(list, hand)
		}
	}
	return list
}

// blocks returns ordinary blocks and the extreme ones, of all forms, magic ones among them.
func blocks() [][][]int {
	list := [][][]int{
		{{0, 0}}, {{9, 9}}, {{0, 1}}, {{1, 0}}, {{0, 9}}, {{9, 0}},
		{{0, 0, 1, 1}}, {{0, 1, 2, 3}}, {{1, 0, 3, 2}}, {{9, 9, 9, 8}},
		{{0, 2}, {1, 1}}, {{0, 0}, {1, 1}}, {{1, 1}, {0, 0}}, {{0, 3}, {1, 2}}, {{0, 1}, {2, 1}}, {{9, 9}, {8, 9}},
		{{0, 3, 2, 3}, {4, 1, 2, 1}}, {{0, 2, 2, 2}, {3, 1, 1, 1}}, {{0, 3, 2, 3}, {1, 4, 2, 1}}, {{0, 3, 1, 2}, {3, 3, 0, 0}}, {{0, 0, 1, 1}, {1, 0, 2, 0}},
		{{0, 6}, {4, 2}, {5, 1}}, {{0, 6}, {5, 1}, {4, 2}}, {{6, 0}, {4, 2}, {5, 1}}, {{0, 0}, {1, 1}, {2, 2}}, {{9, 9}, {9, 8}, {7, 9}},
		{{1, 4, 5, 6}, {4, 6, 4, 2}, {7, 2, 3, 4}}, {{4, 1, 5, 6}, {4, 6, 4, 2}, {7, 2, 3, 4}}, {{0, 1, 2, 3}, {4, 5, 6, 7}, {8, 9, 9, 9}},
	}
	seed := 31
	for height := 1; height <= 3; height++ {
		for tiles := 1; tiles <= 2; tiles++ {
			for most := range 8 {
				var numbers []int
				for _, x := range drawnTiles(setOf(most+2), height*tiles, &seed) {
					numbers = append(numbers, x.Low, x.High)
				}
				list = append(list, rowsOf(numbers, 2*tiles))
			}
		}
	}
	return list
}

// drawnTiles draws so many tiles, each turned or not: one that is turned has the greater number as its Low.
func drawnTiles(from []tile, size int, seed *int) []tile {
	tiles, next := drawn(from, size, *seed)
	for i, x := range tiles {
		next = (next*163 + 229) % 10007
		if next%2 == 0 {
			tiles[i] = tl(x.High, x.Low)
		}
	}
	*seed = next
	return tiles
}

// badBlocks returns rows that are no blocks.
func badBlocks() [][][]int {
	list := [][][]int{
		nil, {}, {nil}, {{}}, {nil, nil}, {{}, {}, {}}, {{0}}, {{0, 1, 2}}, {{0, 0, 0, 1, 0, 2}}, {{0, 1, 2, 3, 4, 5, 6, 7}}, make([][]int, 1000), {make([]int, 1000)},
		{{0}, {1}}, {{0, 1, 2}, {3, 4, 5}}, {{0, 0, 0}, {1, 1, 1}}, {{0, 1, 2, 3, 4, 5}, {6, 7, 8, 9, 9, 9}},
		{{0, 1}, {2}}, {{0}, {1, 2}}, {{0, 1}, {2, 3, 4, 5}}, {{0, 1, 2, 3}, {4, 5}}, {{0, 1}, nil}, {nil, {0, 1}}, {{0, 1}, {2, 3}, {}}, {{0, 1}, {2, 3}, {4}}, {{0, 1}, {2, 3}, {4, 5, 6, 7}}, {{0, 1, 2, 3}, {4, 5, 6, 7}, {8, 9}},
		{{0, 1}, {2, 3, 4}}, {{0, 1, 2}, {3, 4}}, {{0, 1, 2, 3}, {4, 5, 6}},
		{{0, 0}, {1, 1}, {2, 2}, {3, 3}}, {{0, 1, 2, 3}, {4, 5, 6, 7}, {8, 9, 0, 0}, {1, 1, 2, 2}}, {{0, 6}, {4, 2}, {5, 1}, {3, 3}},
		{{0, 1}, {1, 0}}, {{0, 1}, {0, 1}}, {{0, 0}, {0, 0}}, {{0, 1, 0, 1}}, {{0, 1, 1, 0}}, {{3, 3, 3, 3}},
		{{0, 1, 2, 3}, {4, 5, 0, 1}}, {{0, 1, 2, 3}, {3, 2, 4, 5}}, {{0, 6}, {4, 2}, {6, 0}}, {{0, 6}, {6, 0}, {4, 2}}, {{1, 4, 5, 6}, {4, 6, 4, 2}, {7, 2, 4, 1}},
	}
	for _, n := range badNumbers {
		list = append(list, [][]int{{n}}, [][]int{{n, n}}, [][]int{{n, n, n, n}})
		for _, good := range [][][]int{{{0, 0}}, {{0, 1, 2, 3}}, {{0, 2}, {1, 1}}, {{0, 6}, {4, 2}, {5, 1}}, {{1, 4, 5, 6}, {4, 6, 4, 2}, {7, 2, 3, 4}}} {
			for i, row := range good {
				for j := range row {
					bad := cloneRows(good)
					bad[i][j] = n
					list = append(list, bad)
				}
			}
		}
	}
	return list
}

// badRowNumbers are numbers of rows that no block may have.
var badRowNumbers = []int{math.MinInt, -256, -3, -2, -1, 0, 4, 5, 6, 12, 256, math.MaxInt}

// badMagic tells a hand and a number of rows that do not fit each other.
type badMagic struct {
	hand []tile
	rows int
}

// badMagics returns hands with too few or too many tiles for the rows, and rows that no block may have.
func badMagics() []badMagic {
	var list []badMagic
	for size := range 15 {
		for rows := 1; rows <= 3; rows++ {
			if hand := fullHand()[:size]; !rowsFit(hand, rows) {
				list = append(list, badMagic{hand, rows})
			}
		}
		for _, rows := range badRowNumbers {
			list = append(list, badMagic{fullHand()[:size], rows})
		}
	}
	for _, hand := range badHands() {
		for rows := 0; rows <= 4; rows++ {
			list = append(list, badMagic{hand, rows})
		}
	}
	return append(list, badMagic{fullHand(), 1}, badMagic{fullHand(), 3}, badMagic{[]tile{tl(0, 0), tl(0, 0)}, 1}, badMagic{[]tile{tl(0, 0), tl(0, 0)}, 2}, badMagic{[]tile{tl(6, 0), tl(4, 2), tl(5, 1)}, 3})
}
