package tests

import (
	"slices"
	"testing"

	"loop.example/g01216/impl"
)

// Promise 6: fair windows have equal sides however they are spun, and magic blocks equal sums.

func TestPromise6Example(t *testing.T) {
	w := []int{0, 2, 1, 1, 1, 0, 2, 1}
	tiles, ok := impl.WindowTiles(w)
	wantTiles(t, "WindowTiles", tiles, ok, handOf("02,11,01,12"))
	sides, ok := impl.SidesOfWindow(w)
	wantNumbers(t, "SidesOfWindow", sides, ok, []int{3, 3, 3, 3})
	fair, ok := impl.IsFair(w)
	wantBool(t, "IsFair", fair, ok, true)
	mirrored, ok := impl.MirrorWindow(w)
	wantNumbers(t, "MirrorWindow", mirrored, ok, []int{2, 0, 1, 2, 0, 1, 1, 1})
	sides, ok = impl.SidesOfWindow(mirrored)
	wantNumbers(t, "SidesOfWindow mirrored", sides, ok, []int{3, 3, 2, 4})
	fair, ok = impl.IsFair(mirrored)
	wantBool(t, "IsFair mirrored", fair, ok, false)
	if impl.IsBlock([][]int{{0, 1}, {1, 0}}) {
		t.Error("a block with one tile twice")
	}
	block := [][]int{{0, 2}, {1, 1}}
	if !impl.IsBlock(block) {
		t.Error("no block")
	}
	sums, ok := impl.RowSums(block)
	wantNumbers(t, "RowSums", sums, ok, []int{2, 2})
	sums, ok = impl.ColumnSums(block)
	wantNumbers(t, "ColumnSums", sums, ok, []int{1, 3})
	magic, ok := impl.IsMagic(block)
	wantBool(t, "IsMagic", magic, ok, false)
}

func TestPromise6Limits(t *testing.T) {
	if impl.MaxWindowed != 9 || impl.MaxWindows != 200 || impl.MaxBlocked != 6 {
		t.Error("the limits are", impl.MaxWindowed, impl.MaxWindows, impl.MaxBlocked)
	}
}

func TestPromise6IsWindow(t *testing.T) {
	for _, w := range windows() {
		if !isWindow(w) || !impl.IsWindow(w) {
			t.Error("no window:", w)
		}
	}
	for _, w := range badWindows() {
		if isWindow(w) || impl.IsWindow(w) {
			t.Error("a window:", w)
		}
	}
}

// everyList returns all lists of a length with some numbers.
func everyList(numbers []int, size int) [][]int {
	all := [][]int{nil}
	for range size {
		var longer [][]int
		for _, list := range all {
			for _, number := range numbers {
				longer = append(longer, append(slices.Clone(list), number))
			}
		}
		all = longer
	}
	return all
}

// TestPromise6AllLists takes all lists of eight numbers of a few, windows and blocks or not.
func TestPromise6AllLists(t *testing.T) {
	for _, numbers := range [][]int{{0, 1, 2}, {8, 9, 10}, {-1, 0, 3}} {
		for _, list := range everyList(numbers, 8) {
			if impl.IsWindow(list) != isWindow(list) {
				t.Error("IsWindow of", list, "is not", isWindow(list))
			}
			if rows := rowsOf(list, 4); impl.IsBlock(rows) != isBlock(rows) {
				t.Error("IsBlock of", rows, "is not", isBlock(rows))
			}
		}
		for size := 2; size <= 6; size += 2 {
			for _, list := range everyList(numbers, size) {
				for _, width := range []int{2, 3, 4, 6} {
					if rows := rowsOf(list, width); impl.IsBlock(rows) != isBlock(rows) {
						t.Error("IsBlock of", rows, "is not", isBlock(rows))
					}
				}
			}
		}
	}
}

func TestPromise6WindowTold(t *testing.T) {
	for _, w := range windows() {
		tiles, ok := impl.WindowTiles(w)
		wantTiles(t, "WindowTiles", tiles, ok, pairsTiles(w))
		sides, ok := impl.SidesOfWindow(w)
		wantNumbers(t, "SidesOfWindow", sides, ok, sidesTold(w))
		fair, ok := impl.IsFair(w)
		wantBool(t, "IsFair", fair, ok, same(sidesTold(w)))
		least, ok := impl.LeastWindow(w)
		wantNumbers(t, "LeastWindow", least, ok, leastTold(w))
	}
	for _, c := range []struct {
		w, sides []int
		tiles    string
		fair     bool
	}{
		{[]int{0, 1, 2, 3, 4, 5, 6, 7}, []int{3, 9, 15, 13}, "01,23,45,67", false},
		{[]int{7, 6, 5, 4, 3, 2, 1, 0}, []int{18, 12, 6, 8}, "67,45,23,01", false},
		{[]int{0, 0, 0, 1, 0, 2, 0, 3}, []int{0, 1, 2, 3}, "00,01,02,03", false},
		{[]int{9, 9, 9, 8, 9, 7, 9, 6}, []int{27, 26, 25, 24}, "99,89,79,69", false},
		{[]int{2, 6, 3, 4, 4, 5, 2, 7}, []int{11, 11, 11, 11}, "26,34,45,27", true},
		{[]int{2, 6, 4, 3, 5, 4, 3, 7}, []int{12, 12, 12, 12}, "26,34,45,37", true},
		{[]int{2, 6, 4, 3, 5, 4, 3, 8}, []int{12, 12, 12, 13}, "26,34,45,38", false},
		{[]int{2, 6, 4, 3, 5, 3, 4, 6}, []int{12, 12, 12, 12}, "26,34,35,46", true},
	} {
		tiles, ok := impl.WindowTiles(c.w)
		wantTiles(t, "WindowTiles", tiles, ok, handOf(c.tiles))
		sides, ok := impl.SidesOfWindow(c.w)
		wantNumbers(t, "SidesOfWindow", sides, ok, c.sides)
		fair, ok := impl.IsFair(c.w)
		wantBool(t, "IsFair", fair, ok, c.fair)
	}
}

// TestPromise6OneTileTwice: equal sums alone make neither a fair window nor a magic block.
func TestPromise6OneTileTwice(t *testing.T) {
	for _, w := range [][]int{{0, 2, 0, 1, 1, 0, 1, 1}, {0, 1, 0, 1, 0, 1, 0, 1}, {2, 2, 2, 2, 2, 2, 2, 2}, {0, 2, 1, 0, 2, 1, 0, 2}} {
		fair, ok := impl.IsFair(w)
		wantNothing(t, "IsFair of no window", !fair, ok)
	}
	for _, rows := range [][][]int{{{1, 1, 1, 1}}, {{0, 1}, {1, 0}}, {{2, 2}, {2, 2}}, {{2, 0, 1, 1}, {0, 2, 1, 1}}, {{0, 2}, {1, 1}, {2, 0}}} {
		magic, ok := impl.IsMagic(rows)
		wantNothing(t, "IsMagic of no block", !magic, ok)
	}
}

// TestPromise6OneSideOff: a window is fair only if all four sides are the same.
func TestPromise6OneSideOff(t *testing.T) {
	off := map[int]bool{}
	for _, list := range everyList([]int{0, 1, 2, 3}, 8) {
		if !isWindow(list) {
			continue
		}
		sides := sidesTold(list)
		fair, ok := impl.IsFair(list)
		wantBool(t, "IsFair", fair, ok, same(sides))
		for i := range sides {
			if others := slices.Delete(slices.Clone(sides), i, i+1); same(others) && !same(sides) {
				off[i] = true
			}
		}
	}
	if len(off) != 4 {
		t.Error("too few windows with one side that is another:", off)
	}
}

func TestPromise6SpinWindow(t *testing.T) {
	for _, w := range windows() {
		least, _ := impl.LeastWindow(w)
		for k := range 4 {
			spun, ok := impl.SpinWindow(w, k)
			wantNumbers(t, "SpinWindow", spun, ok, spunTold(w, k))
			back, ok := impl.SpinWindow(spun, (4-k)%4)
			wantNumbers(t, "SpinWindow back", back, ok, w)
			sides := sidesTold(w)
			got, ok := impl.SidesOfWindow(spun)
			wantNumbers(t, "SidesOfWindow spun", got, ok, slices.Concat(sides[k:], sides[:k]))
			fair, ok := impl.IsFair(spun)
			wantBool(t, "IsFair spun", fair, ok, same(sides))
			again, ok := impl.LeastWindow(spun)
			wantNumbers(t, "LeastWindow spun", again, ok, least)
			if k > 0 && slices.Equal(spun, w) {
				t.Error("spun by", k, "it is the same:", w)
			}
		}
	}
	w := []int{0, 1, 2, 3, 4, 5, 6, 7}
	for k, want := range [][]int{{0, 1, 2, 3, 4, 5, 6, 7}, {2, 3, 4, 5, 6, 7, 0, 1}, {4, 5, 6, 7, 0, 1, 2, 3}, {6, 7, 0, 1, 2, 3, 4, 5}} {
		spun, ok := impl.SpinWindow(w, k)
		wantNumbers(t, "SpinWindow", spun, ok, want)
	}
}

func TestPromise6MirrorWindow(t *testing.T) {
	fairOnes := 0
	for _, w := range windows() {
		mirrored, ok := impl.MirrorWindow(w)
		wantNumbers(t, "MirrorWindow", mirrored, ok, mirroredTold(w))
		again, ok := impl.MirrorWindow(mirrored)
		wantNumbers(t, "MirrorWindow twice", again, ok, w)
		tiles, _ := impl.WindowTiles(w)
		kept, ok := impl.WindowTiles(mirrored)
		wantTiles(t, "WindowTiles mirrored", kept, ok, []tile{tiles[0], tiles[3], tiles[2], tiles[1]})
		fair, ok := impl.IsFair(mirrored)
		wantBool(t, "IsFair mirrored", fair, ok, same(sidesTold(mirroredTold(w))))
		// Were both fair, all four tiles would be the same.
		if was, _ := impl.IsFair(w); was {
			fairOnes++
			wantBool(t, "IsFair of a fair window mirrored", fair, ok, false)
		}
	}
	if fairOnes < 50 {
		t.Error("too few fair windows:", fairOnes)
	}
	mirrored, ok := impl.MirrorWindow([]int{0, 1, 2, 3, 4, 5, 6, 7})
	wantNumbers(t, "MirrorWindow", mirrored, ok, []int{1, 0, 7, 6, 5, 4, 3, 2})
}

func TestPromise6LeastWindow(t *testing.T) {
	for _, c := range [][2][]int{
		{{0, 1, 2, 3, 4, 5, 6, 7}, {0, 1, 2, 3, 4, 5, 6, 7}},
		{{7, 6, 5, 4, 3, 2, 1, 0}, {1, 0, 7, 6, 5, 4, 3, 2}},
		{{2, 3, 0, 1, 6, 7, 4, 5}, {0, 1, 6, 7, 4, 5, 2, 3}},
		{{0, 2, 1, 1, 1, 0, 2, 1}, {0, 2, 1, 1, 1, 0, 2, 1}},
		{{1, 1, 1, 0, 2, 1, 0, 2}, {0, 2, 1, 1, 1, 0, 2, 1}},
		// The second numbers decide, and a 0 that is no first number of a tile does not.
		{{1, 2, 1, 0, 1, 1, 1, 3}, {1, 0, 1, 1, 1, 3, 1, 2}},
		{{3, 0, 2, 9, 4, 1, 2, 8}, {2, 8, 3, 0, 2, 9, 4, 1}},
		{{9, 8, 9, 9, 9, 7, 9, 6}, {9, 6, 9, 8, 9, 9, 9, 7}},
	} {
		least, ok := impl.LeastWindow(c[0])
		wantNumbers(t, "LeastWindow", least, ok, c[1])
	}
}

// wantWindows checks everything that is told of the fair windows of a hand.
func wantWindows(t *testing.T, hand []tile, want [][]int) {
	t.Helper()
	all, ok := impl.AllWindows(hand)
	wantLists(t, "AllWindows", all, ok, want)
	count, ok := impl.CountWindows(hand)
	wantNumber(t, "CountWindows", count, ok, len(want))
	sums, ok := impl.WindowSums(hand)
	wantNumbers(t, "WindowSums", sums, ok, sumsTold(want))
	for _, w := range all {
		fair, ok := impl.IsFair(w)
		wantBool(t, "IsFair", fair, ok, true)
		tiles, _ := impl.WindowTiles(w)
		rest, ok := impl.LessHand(tiles, hand)
		wantTiles(t, "tiles that are in no hand", rest, ok, nil)
		least, ok := impl.LeastWindow(w)
		wantNumbers(t, "LeastWindow", least, ok, w)
	}
}

func TestPromise6AllWindows(t *testing.T) {
	found, none := 0, 0
	for _, hand := range windowedHands() {
		want := fairTold(hand)
		wantWindows(t, hand, want)
		if len(want) > 0 {
			found++
		} else {
			none++
		}
	}
	if found < 10 || none < 10 {
		t.Error("too few hands with windows, or without:", found, none)
	}
}

func TestPromise6WindowsTold(t *testing.T) {
	for _, c := range []struct {
		hand string
		want [][]int
		sums []int
	}{
		{"-", nil, nil},
		{"01,02,12", nil, nil},
		{"00,11,22,33", nil, nil},
		{"01,23,45,67", nil, nil},
		{"01,02,11,12", [][]int{{0, 1, 2, 0, 1, 1, 1, 2}, {0, 2, 1, 1, 1, 0, 2, 1}}, []int{3}},
		{"12,11,02,01", [][]int{{0, 1, 2, 0, 1, 1, 1, 2}, {0, 2, 1, 1, 1, 0, 2, 1}}, []int{3}},
		{"26,34,37,45", [][]int{{2, 6, 4, 3, 5, 4, 3, 7}}, []int{12}},
		{"48,66,68,88", [][]int{{4, 8, 8, 6, 6, 6, 8, 8}}, []int{20}},
		{"07,15,16,26", [][]int{{0, 7, 1, 6, 1, 5, 2, 6}, {5, 1, 7, 0, 6, 1, 6, 2}}, []int{8, 13}},
		{"25,26,35,56", [][]int{{2, 5, 6, 2, 5, 3, 5, 6}, {2, 6, 5, 3, 5, 2, 6, 5}}, []int{13}},
		// Tiles that are in no window change nothing.
		{"00,26,34,37,45", [][]int{{2, 6, 4, 3, 5, 4, 3, 7}}, []int{12}},
	} {
		hand := handOf(c.hand)
		wantWindows(t, hand, c.want)
		sums, ok := impl.WindowSums(hand)
		wantNumbers(t, "WindowSums "+c.hand, sums, ok, c.sums)
	}
	// No hand of 9 tiles comes near to MaxWindows.
	count, ok := impl.CountWindows(handOf(hand58))
	wantNumber(t, "CountWindows "+hand58, count, ok, 58)
}

// TestPromise6ManyTiles: windows are looked for in hands of 9 tiles, not of 10.
func TestPromise6ManyTiles(t *testing.T) {
	for _, hand := range manyTiles() {
		all, ok := impl.AllWindows(hand)
		wantNothing(t, "AllWindows", len(all) == 0, ok)
		count, ok := impl.CountWindows(hand)
		wantNothing(t, "CountWindows", count == 0, ok)
		sums, ok := impl.WindowSums(hand)
		wantNothing(t, "WindowSums", len(sums) == 0, ok)
	}
}

func TestPromise6ComplementWindow(t *testing.T) {
	for _, w := range windows() {
		for n := range 10 {
			complement, ok := impl.ComplementWindow(w, n)
			if n < slices.Max(w) {
				wantNothing(t, "ComplementWindow of a lesser n", len(complement) == 0, ok)
				continue
			}
			var want, sides []int
			for _, number := range w {
				want = append(want, n-number)
			}
			wantNumbers(t, "ComplementWindow", complement, ok, want)
			again, ok := impl.ComplementWindow(complement, n)
			wantNumbers(t, "ComplementWindow twice", again, ok, w)
			for _, side := range sidesTold(w) {
				sides = append(sides, 3*n-side)
			}
			got, ok := impl.SidesOfWindow(complement)
			wantNumbers(t, "SidesOfWindow of a complement", got, ok, sides)
			was, _ := impl.IsFair(w)
			fair, ok := impl.IsFair(complement)
			wantBool(t, "IsFair of a complement", fair, ok, was)
		}
	}
	complement, ok := impl.ComplementWindow([]int{0, 2, 1, 1, 1, 0, 2, 1}, 2)
	wantNumbers(t, "ComplementWindow", complement, ok, []int{2, 0, 1, 1, 1, 2, 0, 1})
	complement, ok = impl.ComplementWindow([]int{0, 2, 1, 1, 1, 0, 2, 1}, 9)
	wantNumbers(t, "ComplementWindow", complement, ok, []int{9, 7, 8, 8, 8, 9, 7, 8})
}

// TestPromise6ComplementHands: a hand with n less each number has as many fair windows.
func TestPromise6ComplementHands(t *testing.T) {
	for _, hand := range windowedHands() {
		var other []tile
		for _, x := range hand {
			other = append(other, tl(9-x.High, 9-x.Low))
		}
		want, _ := impl.CountWindows(hand)
		count, ok := impl.CountWindows(other)
		wantNumber(t, "CountWindows of a complement", count, ok, want)
	}
}

func TestPromise6IsBlock(t *testing.T) {
	for _, rows := range blocks() {
		if !isBlock(rows) || !impl.IsBlock(rows) {
			t.Error("no block:", rows)
		}
	}
	for _, rows := range badBlocks() {
		if isBlock(rows) || impl.IsBlock(rows) {
			t.Error("a block:", rows)
		}
	}
}

func TestPromise6BlockTold(t *testing.T) {
	for _, rows := range blocks() {
		tiles, ok := impl.BlockTiles(rows)
		wantTiles(t, "BlockTiles", tiles, ok, pairsTiles(slices.Concat(rows...)))
		sums, ok := impl.RowSums(rows)
		wantNumbers(t, "RowSums", sums, ok, rowsTold(rows))
		sums, ok = impl.ColumnSums(rows)
		wantNumbers(t, "ColumnSums", sums, ok, columnsTold(rows))
		magic, ok := impl.IsMagic(rows)
		wantBool(t, "IsMagic", magic, ok, isMagic(rows))
	}
	for _, c := range []struct {
		rows          [][]int
		tiles         string
		rowSums, sums []int
		magic         bool
	}{
		{[][]int{{3, 3}}, "33", []int{6}, []int{3, 3}, true},
		{[][]int{{3, 1}}, "13", []int{4}, []int{3, 1}, false},
		{[][]int{{0, 1, 3, 2}}, "01,23", []int{6}, []int{0, 1, 3, 2}, false},
		// Rows with equal sums, and columns without.
		{[][]int{{0, 3}, {1, 2}}, "03,12", []int{3, 3}, []int{1, 5}, false},
		{[][]int{{0, 3, 1, 2}, {3, 3, 0, 0}}, "03,12,33,00", []int{6, 6}, []int{3, 6, 1, 2}, false},
		// Columns with equal sums, and rows without.
		{[][]int{{0, 0}, {1, 1}}, "00,11", []int{0, 2}, []int{1, 1}, false},
		{[][]int{{0, 0, 1, 0}, {2, 2, 1, 2}}, "00,01,22,12", []int{1, 7}, []int{2, 2, 2, 2}, false},
		{[][]int{{0, 0}, {1, 1}, {2, 2}}, "00,11,22", []int{0, 2, 4}, []int{3, 3}, false},
		{[][]int{{0, 6}, {4, 2}, {5, 1}}, "06,24,15", []int{6, 6, 6}, []int{9, 9}, true},
		{[][]int{{0, 6}, {2, 4}, {5, 1}}, "06,24,15", []int{6, 6, 6}, []int{7, 11}, false},
		{[][]int{{0, 3, 2, 3}, {4, 1, 2, 1}}, "03,23,14,12", []int{8, 8}, []int{4, 4, 4, 4}, true},
		{[][]int{{1, 4, 5, 6}, {4, 6, 4, 2}, {7, 2, 3, 4}}, "14,56,46,24,27,34", []int{16, 16, 16}, []int{12, 12, 12, 12}, true},
	} {
		tiles, ok := impl.BlockTiles(c.rows)
		wantTiles(t, "BlockTiles", tiles, ok, handOf(c.tiles))
		sums, ok := impl.RowSums(c.rows)
		wantNumbers(t, "RowSums", sums, ok, c.rowSums)
		sums, ok = impl.ColumnSums(c.rows)
		wantNumbers(t, "ColumnSums", sums, ok, c.sums)
		magic, ok := impl.IsMagic(c.rows)
		wantBool(t, "IsMagic", magic, ok, c.magic)
	}
}

// TestPromise6AllBlocks takes all blocks of two tiles with a few numbers.
func TestPromise6AllBlocks(t *testing.T) {
	for _, list := range everyList([]int{0, 1, 2, 3}, 4) {
		for _, width := range []int{2, 4} {
			rows := rowsOf(list, width)
			if !isBlock(rows) {
				continue
			}
			// Two tiles that are not the same make no magic block.
			magic, ok := impl.IsMagic(rows)
			wantBool(t, "IsMagic", magic, ok, false)
		}
	}
	for _, list := range everyList([]int{1, 2, 3, 4}, 6) {
		if rows := rowsOf(list, 2); isBlock(rows) {
			magic, ok := impl.IsMagic(rows)
			wantBool(t, "IsMagic", magic, ok, isMagic(rows))
		}
	}
}

func TestPromise6Magic(t *testing.T) {
	with, none := map[[2]int]int{}, map[[2]int]int{}
	for _, hand := range magicHands() {
		for rows := 1; rows <= 3; rows++ {
			if !rowsFit(hand, rows) {
				continue
			}
			form := [2]int{rows, len(hand) / rows}
			want := magicTold(hand, rows)
			count, ok := impl.CountMagic(hand, rows)
			wantNumber(t, "CountMagic", count, ok, len(want))
			first, ok := impl.FirstMagic(hand, rows)
			if len(want) == 0 {
				wantNothing(t, "FirstMagic", len(first) == 0, ok)
				none[form]++
				continue
			}
			wantLists(t, "FirstMagic", first, ok, want[0])
			with[form]++
			magic, ok := impl.IsMagic(first)
			wantBool(t, "IsMagic", magic, ok, true)
			tiles, _ := impl.BlockTiles(first)
			sorted, ok := impl.SortHand(tiles)
			wantTiles(t, "the tiles of a block", sorted, ok, picked(func(x tile) bool { return has(hand, x) }))
		}
	}
	if with[[2]int{1, 1}] == 0 || with[[2]int{2, 2}] == 0 || with[[2]int{3, 1}] == 0 || with[[2]int{3, 2}] == 0 {
		t.Error("too few hands with magic blocks:", with)
	}
	if len(none) != 6 {
		t.Error("too few hands without magic blocks:", none)
	}
}

func TestPromise6MagicTold(t *testing.T) {
	for _, c := range []struct {
		hand        string
		rows, count int
		first       [][]int
	}{
		{"00", 1, 1, [][]int{{0, 0}}},
		{"99", 1, 1, [][]int{{9, 9}}},
		{"01", 1, 0, nil},
		{"00,11", 1, 0, nil},
		{"00,11", 2, 0, nil},
		{"03,12", 2, 0, nil},
		{"06,15,24", 3, 12, [][]int{{0, 6}, {4, 2}, {5, 1}}},
		{"24,15,06", 3, 12, [][]int{{0, 6}, {4, 2}, {5, 1}}},
		{"06,15,33", 3, 0, nil},
		{"03,12,14,23", 2, 16, [][]int{{0, 3, 2, 3}, {4, 1, 2, 1}}},
		{"22,13,11,02", 2, 8, [][]int{{0, 2, 2, 2}, {3, 1, 1, 1}}},
		{"01,23,45,67", 2, 0, nil},
		{"14,24,27,34,46,56", 3, 48, [][]int{{1, 4, 5, 6}, {4, 6, 4, 2}, {7, 2, 3, 4}}},
		{"00,01,02,11,12,22", 3, 0, nil},
	} {
		hand := handOf(c.hand)
		count, ok := impl.CountMagic(hand, c.rows)
		wantNumber(t, "CountMagic "+c.hand, count, ok, c.count)
		first, ok := impl.FirstMagic(hand, c.rows)
		if c.count == 0 {
			wantNothing(t, "FirstMagic "+c.hand, len(first) == 0, ok)
		} else {
			wantLists(t, "FirstMagic "+c.hand, first, ok, c.first)
		}
	}
}

func TestPromise6SwapRows(t *testing.T) {
	for _, rows := range blocks() {
		was, _ := impl.IsMagic(rows)
		for i := range rows {
			for j := range rows {
				swapped, ok := impl.SwapRows(rows, i, j)
				want := cloneRows(rows)
				want[i], want[j] = want[j], want[i]
				wantLists(t, "SwapRows", swapped, ok, want)
				again, ok := impl.SwapRows(swapped, j, i)
				wantLists(t, "SwapRows twice", again, ok, rows)
				magic, ok := impl.IsMagic(swapped)
				wantBool(t, "IsMagic swapped", magic, ok, was)
			}
		}
	}
	swapped, ok := impl.SwapRows([][]int{{0, 6}, {4, 2}, {5, 1}}, 0, 2)
	wantLists(t, "SwapRows", swapped, ok, [][]int{{5, 1}, {4, 2}, {0, 6}})
	swapped, ok = impl.SwapRows([][]int{{0, 6}, {4, 2}, {5, 1}}, 1, 1)
	wantLists(t, "SwapRows of a row with itself", swapped, ok, [][]int{{0, 6}, {4, 2}, {5, 1}})
}
