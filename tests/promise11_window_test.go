package tests

import (
	"math"
	"slices"
	"testing"

	"loop.example/g01216/impl"
)

// Promise 11 as far as chapter 6 goes: every function accepts all arguments without panicking and modifies none of them.

// windowCalls are all calls of chapter 6 that succeed for every window.
func windowCalls() []listCall {
	calls := []listCall{
		{"WindowTiles", func(w []int) (bool, bool) {
			got, ok := impl.WindowTiles(w)
			return len(got) == 0, ok
		}},
		{"IsFair", func(w []int) (bool, bool) {
			got, ok := impl.IsFair(w)
			return !got, ok
		}},
		listsCall("SidesOfWindow", impl.SidesOfWindow),
		listsCall("MirrorWindow", impl.MirrorWindow),
		listsCall("LeastWindow", impl.LeastWindow),
		listsCall("ComplementWindow", func(w []int) ([]int, bool) { return impl.ComplementWindow(w, 9) }),
	}
	for k := range 4 {
		calls = append(calls, listsCall("SpinWindow", func(w []int) ([]int, bool) { return impl.SpinWindow(w, k) }))
	}
	return calls
}

// blockCall is a call of a function that takes rows; it tells whether the results but the last one are zero, and the last one.
type blockCall struct {
	name string
	call func(rows [][]int) (bool, bool)
}

// blockCalls are all calls of chapter 6 that succeed for every block.
func blockCalls() []blockCall {
	return []blockCall{
		{"BlockTiles", func(rows [][]int) (bool, bool) {
			got, ok := impl.BlockTiles(rows)
			return len(got) == 0, ok
		}},
		{"RowSums", func(rows [][]int) (bool, bool) {
			got, ok := impl.RowSums(rows)
			return len(got) == 0, ok
		}},
		{"ColumnSums", func(rows [][]int) (bool, bool) {
			got, ok := impl.ColumnSums(rows)
			return len(got) == 0, ok
		}},
		{"IsMagic", func(rows [][]int) (bool, bool) {
			got, ok := impl.IsMagic(rows)
			return !got, ok
		}},
		{"SwapRows", func(rows [][]int) (bool, bool) {
			got, ok := impl.SwapRows(rows, 0, 0)
			return len(got) == 0, ok
		}},
	}
}

// windowedCalls are all calls of chapter 6 that take a hand of at most MaxWindowed tiles.
func windowedCalls() []handCall {
	return []handCall{
		{"AllWindows", func(hand []tile) (bool, bool) {
			got, ok := impl.AllWindows(hand)
			return len(got) == 0, ok
		}},
		numberCall("CountWindows", impl.CountWindows),
		numbersCall("WindowSums", impl.WindowSums),
	}
}

// magicCalls are all calls of chapter 6 that take a hand and a number of rows.
func magicCalls(rows int) []handCall {
	return []handCall{
		{"FirstMagic", func(hand []tile) (bool, bool) {
			got, ok := impl.FirstMagic(hand, rows)
			return len(got) == 0, ok
		}},
		numberCall("CountMagic", func(hand []tile) (int, bool) { return impl.CountMagic(hand, rows) }),
	}
}

func TestPromise11BadWindowsFail(t *testing.T) {
	for _, c := range windowCalls() {
		for _, w := range windows() {
			if _, ok := c.call(w); !ok {
				t.Error(c.name, "fails for the window", w)
			}
		}
		for _, w := range badWindows() {
			zero, ok := c.call(w)
			wantNothing(t, c.name, zero, ok)
		}
	}
}

func TestPromise11BadNumbersOfWindowsFail(t *testing.T) {
	for _, w := range append(windows(), badWindows()...) {
		for _, n := range append([]int{-4, -3, -2, 4, 5, 8}, badNumbers...) {
			spun, ok := impl.SpinWindow(w, n)
			wantNothing(t, "SpinWindow", len(spun) == 0, ok)
		}
		for _, n := range badNumbers {
			complement, ok := impl.ComplementWindow(w, n)
			wantNothing(t, "ComplementWindow", len(complement) == 0, ok)
		}
	}
	for _, w := range badWindows() {
		for n := range 10 {
			complement, ok := impl.ComplementWindow(w, n)
			wantNothing(t, "ComplementWindow of no window", len(complement) == 0, ok)
		}
	}
}

func TestPromise11BadBlocksFail(t *testing.T) {
	for _, c := range blockCalls() {
		for _, rows := range blocks() {
			if _, ok := c.call(rows); !ok {
				t.Error(c.name, "fails for the block", rows)
			}
		}
		for _, rows := range badBlocks() {
			zero, ok := c.call(rows)
			wantNothing(t, c.name, zero, ok)
		}
	}
}

func TestPromise11BadIndicesOfRowsFail(t *testing.T) {
	for _, rows := range append(blocks(), badBlocks()...) {
		for _, i := range []int{math.MinInt, -256, -1, len(rows), len(rows) + 1, 256, math.MaxInt} {
			for _, j := range []int{0, len(rows) - 1, i, -i, -1, len(rows)} {
				swapped, ok := impl.SwapRows(rows, i, j)
				wantNothing(t, "SwapRows", len(swapped) == 0, ok)
				swapped, ok = impl.SwapRows(rows, j, i)
				wantNothing(t, "SwapRows", len(swapped) == 0, ok)
			}
		}
	}
}

func TestPromise11BadHandsOfWindowsFail(t *testing.T) {
	for _, c := range windowedCalls() {
		for _, hand := range slices.Concat(windowedHands(), hands(), manyTiles()) {
			zero, ok := c.call(hand)
			if ok != (len(hand) <= 9) || !ok && !zero {
				t.Error(c.name, "of the hand", hand, "zero", zero, "ok", ok)
			}
		}
		for _, hand := range badHands() {
			zero, ok := c.call(hand)
			wantNothing(t, c.name, zero, ok)
		}
		// As many tiles as a window has, but one of them twice, or one the wrong way round.
		for _, hand := range [][]tile{
			{tl(0, 1), tl(0, 2), tl(1, 2), tl(0, 1)},
			{tl(0, 2), tl(1, 1), tl(0, 1), tl(2, 1)},
			{tl(2, 0), tl(1, 1), tl(0, 1), tl(1, 2)},
		} {
			zero, ok := c.call(hand)
			wantNothing(t, c.name, zero, ok)
		}
	}
}

func TestPromise11BadHandsOfBlocksFail(t *testing.T) {
	for _, bad := range badMagics() {
		for _, c := range magicCalls(bad.rows) {
			zero, ok := c.call(bad.hand)
			wantNothing(t, c.name, zero, ok)
		}
	}
	for _, hand := range magicHands() {
		for rows := -1; rows <= 5; rows++ {
			if count, ok := impl.CountMagic(hand, rows); ok != rowsFit(hand, rows) || !ok && count != 0 {
				t.Error("CountMagic of the hand", hand, "in rows", rows, "is", count, ok)
			}
		}
	}
}

func TestPromise11WindowsStay(t *testing.T) {
	for _, list := range append(windows(), badWindows()...) {
		for _, behind := range []int{-7, 3} {
			w, whole := roomy(list, behind)
			before := slices.Clone(whole)
			impl.IsWindow(w)
			impl.SpinWindow(w, 4)
			impl.ComplementWindow(w, 1)
			for _, c := range windowCalls() {
				c.call(w)
				if !slices.Equal(whole, before) {
					t.Fatal(c.name, "has modified its window", list)
				}
			}
		}
	}
}

func TestPromise11BlocksStay(t *testing.T) {
	for _, list := range append(blocks(), badBlocks()...) {
		var rows, wholes [][]int
		for _, row := range list {
			part, whole := roomy(row, 3)
			rows, wholes = append(rows, part), append(wholes, whole)
		}
		rows, all := roomy(rows, []int{-7, 3})
		before, rowsBefore := cloneRows(wholes), cloneRows(all)
		impl.IsBlock(rows)
		for i := range rows {
			impl.SwapRows(rows, i, 0)
			impl.SwapRows(rows, 0, len(rows)-1-i)
		}
		for _, c := range blockCalls() {
			c.call(rows)
			if !equalRows(wholes, before) || !equalRows(all, rowsBefore) {
				t.Fatal(c.name, "has modified its rows", list)
			}
		}
	}
}

func TestPromise11HandsOfWindowsStay(t *testing.T) {
	calls := windowedCalls()
	for rows := 0; rows <= 4; rows++ {
		calls = append(calls, magicCalls(rows)...)
	}
	for _, list := range slices.Concat(windowedHands()[:20], magicHands(), badHands(), manyTiles()) {
		for _, behind := range []tile{tl(7, -7), tl(5, 5)} {
			hand, whole := roomy(list, behind)
			before := slices.Clone(whole)
			for _, c := range calls {
				c.call(hand)
				if !slices.Equal(whole, before) {
					t.Fatal(c.name, "has modified its hand", list)
				}
			}
		}
	}
}

// TestPromise11RoomBehindWindows: what lies behind a list is no part of it.
func TestPromise11RoomBehindWindows(t *testing.T) {
	whole := []int{0, 2, 1, 1, 1, 0, 2, 1, 3, 3}
	fair, ok := impl.IsFair(whole[:8])
	wantBool(t, "IsFair", fair, ok, true)
	fair, ok = impl.IsFair(whole[:7])
	wantNothing(t, "IsFair of too few numbers", !fair, ok)
	sums, ok := impl.RowSums([][]int{whole[0:2], whole[2:4]})
	wantNumbers(t, "RowSums", sums, ok, []int{2, 2})
	rows := [][]int{{0, 6}, {4, 2}, {5, 1}, {3, 3}}
	sums, ok = impl.ColumnSums(rows[:3])
	wantNumbers(t, "ColumnSums", sums, ok, []int{9, 9})
	swapped, ok := impl.SwapRows(rows[:2], 0, 2)
	wantNothing(t, "SwapRows of a row behind the block", len(swapped) == 0, ok)
	hand := handOf("06,15,24,33")
	count, ok := impl.CountMagic(hand[:3], 3)
	wantNumber(t, "CountMagic", count, ok, 12)
	hand = handOf("26,34,37,45,25,35,56")
	count, ok = impl.CountWindows(hand[:4])
	wantNumber(t, "CountWindows", count, ok, 1)
}

// TestPromise11WindowResultsAreNew: writing into a result, up to its capacity, changes neither an argument nor a later result.
func TestPromise11WindowResultsAreNew(t *testing.T) {
	results := map[string]func(w []int) ([]int, bool){
		"SidesOfWindow":    impl.SidesOfWindow,
		"SpinWindow by 0":  func(w []int) ([]int, bool) { return impl.SpinWindow(w, 0) },
		"SpinWindow by 3":  func(w []int) ([]int, bool) { return impl.SpinWindow(w, 3) },
		"MirrorWindow":     impl.MirrorWindow,
		"LeastWindow":      impl.LeastWindow,
		"ComplementWindow": func(w []int) ([]int, bool) { return impl.ComplementWindow(w, 2) },
		"RowSums":          func(w []int) ([]int, bool) { return impl.RowSums([][]int{w[:4], w[4:]}) },
		"ColumnSums":       func(w []int) ([]int, bool) { return impl.ColumnSums([][]int{w[:4], w[4:]}) },
		"WindowSums":       func([]int) ([]int, bool) { return impl.WindowSums(handOf(hand58)) },
	}
	for name, f := range results {
		w, whole := roomy([]int{0, 2, 1, 1, 1, 0, 2, 1}, 2)
		before := slices.Clone(whole)
		first, ok := f(w)
		kept := slices.Clone(first)
		wantNumbers(t, name, first, ok, kept)
		overwriteNumbers(first)
		if !slices.Equal(whole, before) {
			t.Error(name, "hands out the memory of its list")
		}
		again, ok := f(w)
		wantNumbers(t, name+" again", again, ok, kept)
	}
}

// TestPromise11SwappedRowsAreNew: writing into the rows of a result changes no row of the argument.
func TestPromise11SwappedRowsAreNew(t *testing.T) {
	for _, rows := range blocks() {
		before := cloneRows(rows)
		swapped, ok := impl.SwapRows(rows, 0, len(rows)-1)
		for _, row := range swapped {
			overwriteNumbers(row)
		}
		swapped = swapped[:cap(swapped)]
		for i := range swapped {
			swapped[i] = nil
		}
		if !ok || !equalRows(rows, before) {
			t.Error("SwapRows hands out the memory of its rows", before)
		}
	}
}

// TestPromise11WindowListsAreApart: no two lists of one result share memory, and nothing that is put behind a row reaches the next one.
func TestPromise11WindowListsAreApart(t *testing.T) {
	for least, f := range map[int]func() ([][]int, bool){
		58: func() ([][]int, bool) { return impl.AllWindows(handOf(hand58)) },
		2:  func() ([][]int, bool) { return impl.FirstMagic(handOf("03,12,14,23"), 2) },
		3:  func() ([][]int, bool) { return impl.FirstMagic(handOf("14,24,27,34,46,56"), 3) },
		1:  func() ([][]int, bool) { return impl.SwapRows([][]int{{0, 6}, {4, 2}, {5, 1}}, 0, 1) },
	} {
		wantListsApart(t, f, least)
	}
	rows, _ := impl.SwapRows([][]int{{0, 6}, {4, 2}, {5, 1}}, 0, 1)
	_ = append(rows[0], -1)
	_ = append(rows[1], -1)
	wantLists(t, "rows that are appended to", rows, true, [][]int{{4, 2}, {0, 6}, {5, 1}})
}

func TestPromise11HugeWindows(t *testing.T) {
	list := make([]int, 1<<20)
	for i := range list {
		list[i] = i % 10
	}
	if impl.IsWindow(list) {
		t.Error("a huge list is a window")
	}
	for _, c := range windowCalls() {
		zero, ok := c.call(list)
		wantNothing(t, c.name, zero, ok)
	}
	for _, rows := range [][][]int{{list}, {list, list}, make([][]int, 1<<20), rowsOf(list[:1<<16], 2), rowsOf(list, 1<<18)} {
		if impl.IsBlock(rows) {
			t.Error("huge rows are a block")
		}
		for _, c := range blockCalls() {
			zero, ok := c.call(rows)
			wantNothing(t, c.name, zero, ok)
		}
	}
	hand := make([]tile, 1<<20)
	for _, c := range append(windowedCalls(), magicCalls(1<<19)...) {
		zero, ok := c.call(hand)
		wantNothing(t, c.name, zero, ok)
	}
}
