package tests

import (
	"slices"
	"strings"
	"testing"

	"loop.example/g01216/impl"
)

// Promise 11 as far as chapter 5 goes: every function accepts all arguments without panicking and modifies none of them.

// tableCall is a call of a function that takes a table; it tells whether the results but the last one are zero, and the last one.
type tableCall struct {
	name string
	call func(s string) (bool, bool)
}

// tableCalls are all calls of chapter 5 that succeed for every table.
func tableCalls() []tableCall {
	calls := []tableCall{
		{"TableSize", func(s string) (bool, bool) {
			width, height, ok := impl.TableSize(s)
			return width == 0 && height == 0, ok
		}},
		{"CountNumber", func(s string) (bool, bool) {
			got, ok := impl.CountNumber(s, 0)
			return got == 0, ok
		}},
		{"PlacesOfTile", func(s string) (bool, bool) {
			got, ok := impl.PlacesOfTile(s, tl(0, 1))
			return len(got) == 0, ok
		}},
		{"TurnTable", func(s string) (bool, bool) {
			got, ok := impl.TurnTable(s)
			return got == "", ok
		}},
		{"MirrorTable", func(s string) (bool, bool) {
			got, ok := impl.MirrorTable(s)
			return got == "", ok
		}},
		{"HandsOfTable", func(s string) (bool, bool) {
			got, ok := impl.HandsOfTable(s)
			return got == 0, ok
		}},
	}
	for _, layout := range []string{"", "ew", "s/n", "ews/ewn", "001/112"} {
		calls = append(calls, tableCall{"IsLayout", func(s string) (bool, bool) {
			got, ok := impl.IsLayout(s, layout)
			return !got, ok
		}})
	}
	for _, hand := range [][]tile{nil, {tl(0, 1)}, handOf("00,11,12"), fullHand()} {
		calls = append(calls, tableCall{"CountApart", func(s string) (bool, bool) {
			got, ok := impl.CountApart(s, hand)
			return got == 0, ok
		}}, tableCall{"SingleTiles", func(s string) (bool, bool) {
			got, ok := impl.SingleTiles(s, hand)
			return len(got) == 0, ok
		}}, tableCall{"AllApart", func(s string) (bool, bool) {
			got, ok := impl.AllApart(s, hand)
			return len(got) == 0, ok
		}})
	}
	return calls
}

// apartCalls are the other calls of chapter 5 that take a table: they fail for no table, and for some tables.
func apartCalls() []tableCall {
	return []tableCall{
		{"FirstApart", func(s string) (bool, bool) {
			got, ok := impl.FirstApart(s, handOf("00,11,12"))
			return got == "", ok
		}},
		{"SurePairs", func(s string) (bool, bool) {
			got, ok := impl.SurePairs(s, handOf("00,11,12"))
			return len(got) == 0, ok
		}},
		{"AllApart of many", func(s string) (bool, bool) {
			got, ok := impl.AllApart(s, handOf(hand101))
			return len(got) == 0, ok
		}},
		{"TilesOfLayout", func(s string) (bool, bool) {
			got, ok := impl.TilesOfLayout(s, "ews/ewn")
			return len(got) == 0, ok
		}},
	}
}

// handInCalls are all calls of chapter 5 that take a hand, with a table.
func handInCalls(s string) []handCall {
	calls := []handCall{
		numberCall("CountApart", func(hand []tile) (int, bool) { return impl.CountApart(s, hand) }),
		tilesCall("SingleTiles", func(hand []tile) ([]tile, bool) { return impl.SingleTiles(s, hand) }),
		{"FirstApart", func(hand []tile) (bool, bool) {
			got, ok := impl.FirstApart(s, hand)
			return got == "", ok
		}},
		{"AllApart", func(hand []tile) (bool, bool) {
			got, ok := impl.AllApart(s, hand)
			return len(got) == 0, ok
		}},
		{"SurePairs", func(hand []tile) (bool, bool) {
			got, ok := impl.SurePairs(s, hand)
			return len(got) == 0, ok
		}},
	}
	for _, layout := range []string{"ew", "s/n", "ewew", "ews/ewn", strings.Repeat("ew", 15)} {
		calls = append(calls, handCall{"MakeTable", func(hand []tile) (bool, bool) {
			got, ok := impl.MakeTable(layout, hand)
			return got == "", ok
		}})
	}
	return calls
}

func TestPromise11BadTablesFail(t *testing.T) {
	good, bad := tables(), append(badTables(), badLayouts()...)
	for _, c := range tableCalls() {
		for _, s := range good {
			if zero, ok := c.call(s); !ok {
				t.Error(c.name, "fails for the table", s, "zero", zero)
			}
		}
	}
	for _, c := range apartCalls() {
		for _, s := range good {
			if zero, ok := c.call(s); !ok && !zero {
				t.Error(c.name, "fails with a result for the table", s)
			}
		}
	}
	for _, c := range append(tableCalls(), apartCalls()...) {
		for _, s := range bad {
			if isTable(s) {
				continue
			}
			zero, ok := c.call(s)
			wantNothing(t, c.name, zero, ok)
		}
	}
}

func TestPromise11BadHandsOfTablesFail(t *testing.T) {
	for _, s := range []string{"01", "0/1", "00", "001/112", table100, "", "0", "ew"} {
		for _, c := range handInCalls(s) {
			for _, hand := range badHands() {
				zero, ok := c.call(hand)
				wantNothing(t, c.name, zero, ok)
			}
		}
	}
	// As many tiles as there are pairs, but one of them twice.
	for _, c := range handInCalls("01/01") {
		zero, ok := c.call([]tile{tl(0, 1), tl(0, 1)})
		wantNothing(t, c.name, zero, ok)
	}
	for _, s := range append(badTables(), badLayouts()...) {
		if isTable(s) {
			continue
		}
		for _, c := range handInCalls(s)[:5] {
			for _, hand := range append(badHands()[:5], nil, []tile{tl(0, 1)}, fullHand()) {
				zero, ok := c.call(hand)
				wantNothing(t, c.name, zero, ok)
			}
		}
	}
}

func TestPromise11BadNumbersOfTablesFail(t *testing.T) {
	for _, n := range badNumbers {
		for _, s := range []string{"01", "0/1", "99", "001/112", table999, "", "0", "0:"} {
			count, ok := impl.CountNumber(s, n)
			wantNothing(t, "CountNumber", count == 0, ok)
			for _, x := range []tile{tl(0, n), tl(n, 9), tl(n, n), tl(1, 0), tl(9, 8)} {
				places, ok := impl.PlacesOfTile(s, x)
				wantNothing(t, "PlacesOfTile", len(places) == 0, ok)
			}
		}
	}
	for _, form := range badForms() {
		count, ok := impl.CountTilings(form[0], form[1])
		wantNothing(t, "CountTilings", count == 0, ok)
	}
}

func TestPromise11BadLayoutsFail(t *testing.T) {
	for _, layout := range badLayouts() {
		for _, s := range append(tables(), badTables()...) {
			tiles, ok := impl.TilesOfLayout(s, layout)
			wantNothing(t, "TilesOfLayout", len(tiles) == 0, ok)
		}
		for size := range 17 {
			made, ok := impl.MakeTable(layout, fullHand()[:size])
			wantNothing(t, "MakeTable", made == "", ok)
		}
	}
	for _, s := range badTables() {
		isLayout, ok := impl.IsLayout(s, s)
		wantNothing(t, "IsLayout of no table", !isLayout, ok)
		if isLayoutText(s) {
			continue
		}
		made, ok := impl.MakeTable(s, fullHand()[:len(digits(s))/2%56])
		wantNothing(t, "MakeTable of no layout", made == "", ok)
	}
}

func TestPromise11HandsOfTablesStay(t *testing.T) {
	for _, s := range []string{"01", "001/112", table100, "0"} {
		for _, list := range slices.Concat(handsFor("001/112"), handsFor(table100), hands(), badHands()) {
			for _, behind := range []tile{tl(7, -7), tl(5, 5)} {
				hand, whole := roomy(list, behind)
				before := slices.Clone(whole)
				for _, c := range handInCalls(s) {
					c.call(hand)
					if !slices.Equal(whole, before) {
						t.Fatal(c.name, "has modified its hand", list)
					}
				}
			}
		}
	}
}

// TestPromise11RoomBehindHandsOfTables: what lies behind a hand is no part of it.
func TestPromise11RoomBehindHandsOfTables(t *testing.T) {
	hand := handOf("00,11,12,22,33")
	before := slices.Clone(hand)
	first, ok := impl.FirstApart("001/112", hand[:3])
	wantText(t, "FirstApart", first, ok, "ews/ewn")
	count, ok := impl.CountApart("001/112", hand[:2])
	wantNumber(t, "CountApart of too few tiles", count, ok, 0)
	made, ok := impl.MakeTable("ews/ewn", hand[:3])
	wantText(t, "MakeTable", made, ok, "001/121")
	made, ok = impl.MakeTable("ews/ewn", hand[:2])
	wantNothing(t, "MakeTable of too few tiles", made == "", ok)
	singles, ok := impl.SingleTiles("112/233", hand[:1])
	wantTiles(t, "SingleTiles", singles, ok, nil)
	if !slices.Equal(hand, before) {
		t.Error("a call has written behind its hand:", hand)
	}
}

// TestPromise11TableResultsAreNew: writing into a result, up to its capacity, changes neither an argument nor a later result.
func TestPromise11TableResultsAreNew(t *testing.T) {
	results := map[string]func(hand []tile) ([]tile, bool){
		"SingleTiles":   func(hand []tile) ([]tile, bool) { return impl.SingleTiles("001/112", hand) },
		"TilesOfLayout": func([]tile) ([]tile, bool) { return impl.TilesOfLayout("001/112", "ews/ewn") },
	}
	for name, f := range results {
		hand, whole := roomy(handOf("00,11,12"), tl(5, 5))
		before := slices.Clone(whole)
		first, ok := f(hand)
		kept := slices.Clone(first)
		wantTiles(t, name, first, ok, kept)
		first = first[:cap(first)]
		for i := range first {
			first[i] = tl(-1, -1)
		}
		if !slices.Equal(whole, before) {
			t.Error(name, "hands out the memory of its hand")
		}
		again, ok := f(hand)
		wantTiles(t, name+" again", again, ok, kept)
	}
	all, _ := impl.AllApart("01/20", handOf("01,02"))
	all[0] = ""
	again, ok := impl.AllApart("01/20", handOf("01,02"))
	wantTexts(t, "AllApart again", again, ok, []string{"ew/ew", "ss/nn"})
}

// TestPromise11PairsAreApart: no two pairs of one result share memory.
func TestPromise11PairsAreApart(t *testing.T) {
	for _, f := range []func() ([][]int, bool){
		func() ([][]int, bool) { return impl.PlacesOfTile("000/000", tl(0, 0)) },
		func() ([][]int, bool) { return impl.SurePairs("001/112", handOf("00,11,12")) },
		func() ([][]int, bool) { return impl.SurePairs(table101, handOf(hand101)) },
	} {
		wantListsApart(t, f, 3)
	}
}

func TestPromise11HugeTables(t *testing.T) {
	var texts []string
	for _, piece := range []string{"0", "/", "01/", "e", "ew/", "s/n/", "\x00", "0/"} {
		texts = append(texts, strings.Repeat(piece, 1<<20))
	}
	for _, s := range texts {
		if impl.IsTable(s) {
			t.Error("a huge text is a table")
		}
		for _, c := range append(tableCalls(), apartCalls()...) {
			zero, ok := c.call(s)
			wantNothing(t, c.name, zero, ok)
		}
		isLayout, ok := impl.IsLayout("001/112", s)
		wantBool(t, "IsLayout of a huge text", isLayout, ok, false)
		made, ok := impl.MakeTable(s, fullHand())
		wantNothing(t, "MakeTable of a huge text", made == "", ok)
	}
	for _, c := range handInCalls("001/112") {
		zero, ok := c.call(make([]tile, 1<<20))
		wantNothing(t, c.name, zero, ok)
	}
}

// TestPromise11AllShortTableTexts: calls with any texts succeed only for tables and for layouts of them.
func TestPromise11AllShortTableTexts(t *testing.T) {
	calls := append(tableCalls(), apartCalls()...)
	for _, s := range everyText("09/ew\xff", 5) {
		for _, c := range calls {
			zero, ok := c.call(s)
			if !isTable(s) {
				wantNothing(t, c.name, zero, ok)
			}
		}
		made, ok := impl.MakeTable(s, handOf("01,23"))
		if ok != (len(digits(s)) == 4 && isLayoutText(s)) || !ok && made != "" {
			t.Errorf("MakeTable(%q): got %q, %v", s, made, ok)
		}
	}
}
