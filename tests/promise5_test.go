package tests

import (
	"slices"
	"strconv"
	"strings"
	"testing"

	"loop.example/g01216/impl"
)

// Promise 5: layouts that take a table apart make the tiles of the hand.

func TestPromise5Example(t *testing.T) {
	hand := handOf("00,11,12")
	width, height, ok := impl.TableSize("001/112")
	wantNumbers(t, "TableSize", []int{width, height}, ok, []int{3, 2})
	all, ok := impl.AllApart("001/112", hand)
	wantTexts(t, "AllApart", all, ok, []string{"ews/ewn"})
	first, ok := impl.FirstApart("001/112", hand)
	wantText(t, "FirstApart", first, ok, "ews/ewn")
	count, ok := impl.CountApart("001/112", hand)
	wantNumber(t, "CountApart", count, ok, 1)
	count, ok = impl.CountTilings(2, 3)
	wantNumber(t, "CountTilings", count, ok, 3)
	places, ok := impl.PlacesOfTile("001/112", tl(0, 1))
	wantLists(t, "PlacesOfTile", places, ok, [][]int{{0, 3}, {1, 2}, {1, 4}})
	for _, layout := range []string{"ews/ewn", "sew/new", "sss/nnn"} {
		isLayout, ok := impl.IsLayout("001/112", layout)
		wantBool(t, "IsLayout "+layout, isLayout, ok, true)
	}
}

func TestPromise5IsTable(t *testing.T) {
	for _, s := range tables() {
		if !isTable(s) || !impl.IsTable(s) {
			t.Errorf("no table: %q", s)
		}
	}
	for _, s := range badTables() {
		if isTable(s) || impl.IsTable(s) {
			t.Errorf("a table: %q", s)
		}
	}
	for _, s := range badLayouts() {
		if impl.IsTable(s) != isTable(s) {
			t.Errorf("IsTable(%q) is not %v", s, isTable(s))
		}
	}
}

// everyText returns all texts of some bytes, up to a length.
func everyText(letters string, most int) []string {
	all, last := []string{""}, []string{""}
	for range most {
		var longer []string
		for _, text := range last {
			for _, letter := range []byte(letters) {
				longer = append(longer, text+string([]byte{letter}))
			}
		}
		all, last = append(all, longer...), longer
	}
	return all
}

func TestPromise5AllShortTables(t *testing.T) {
	for _, s := range everyText("09/:.e", 7) {
		if impl.IsTable(s) != isTable(s) {
			t.Errorf("IsTable(%q) is not %v", s, isTable(s))
		}
	}
}

func TestPromise5SizeAndNumbers(t *testing.T) {
	for _, s := range tables() {
		wantWidth, wantHeight := formOf(s)
		width, height, ok := impl.TableSize(s)
		wantNumbers(t, "TableSize "+s, []int{width, height}, ok, []int{wantWidth, wantHeight})
		cells := 0
		for number := range 10 {
			count, ok := impl.CountNumber(s, number)
			wantNumber(t, "CountNumber "+s, count, ok, strings.Count(s, strconv.Itoa(number)))
			cells += count
		}
		wantNumber(t, "the cells of "+s, cells, true, width*height)
	}
	for _, c := range []struct {
		s             string
		width, height int
	}{
		{"01", 2, 1}, {"0/1", 1, 2}, {"001/112", 3, 2}, {"00/11/22", 2, 3}, {"0123", 4, 1},
		{strings.Repeat("0", 30), 30, 1}, {inColumn(strings.Repeat("0", 30)), 1, 30}, {table999, 5, 6},
	} {
		width, height, ok := impl.TableSize(c.s)
		wantNumbers(t, "TableSize "+c.s, []int{width, height}, ok, []int{c.width, c.height})
	}
}

func TestPromise5PlacesOfTile(t *testing.T) {
	for _, s := range tables() {
		for _, x := range fullHand() {
			places, ok := impl.PlacesOfTile(s, x)
			wantLists(t, "PlacesOfTile "+s, places, ok, placesTold(s, x))
			if !slices.IsSortedFunc(places, slices.Compare) {
				t.Error("places of", x, "in", s, "out of order:", places)
			}
		}
	}
	for _, c := range []struct {
		s    string
		x    tile
		want [][]int
	}{
		{"01", tl(0, 1), [][]int{{0, 1}}},
		{"10", tl(0, 1), [][]int{{0, 1}}},
		{"0/1", tl(0, 1), [][]int{{0, 1}}},
		{"1/0", tl(0, 1), [][]int{{0, 1}}},
		{"01", tl(0, 0), nil},
		{"01", tl(1, 1), nil},
		{"01", tl(2, 3), nil},
		{"000/000", tl(0, 0), [][]int{{0, 1}, {0, 3}, {1, 2}, {1, 4}, {2, 5}, {3, 4}, {4, 5}}},
		{"010/101", tl(0, 1), [][]int{{0, 1}, {0, 3}, {1, 2}, {1, 4}, {2, 5}, {3, 4}, {4, 5}}},
		{"010/101", tl(0, 0), nil},
		{"0/0/1/0", tl(0, 0), [][]int{{0, 1}}},
		{"0/0/1/0", tl(0, 1), [][]int{{1, 2}, {2, 3}}},
		{"0010", tl(0, 0), [][]int{{0, 1}}},
		// The end of a row is not beside the beginning of the next one.
		{"34/12", tl(1, 4), nil},
		{"9990/1999", tl(0, 1), nil},
		{"001/112", tl(1, 1), [][]int{{3, 4}}},
		{"001/112", tl(2, 2), nil},
	} {
		places, ok := impl.PlacesOfTile(c.s, c.x)
		wantLists(t, "PlacesOfTile "+c.s, places, ok, c.want)
	}
}

// TestPromise5AllShortLayouts takes all texts of up to seven bytes, layouts or not.
func TestPromise5AllShortLayouts(t *testing.T) {
	texts := everyText("ensw/", 7)
	for _, s := range []string{"01", "0/1", "0123", "01/23", "0/1/2/3", "012345", "012/345", "01/23/45"} {
		layouts := layoutsOf(s)
		for _, text := range texts {
			isLayout, ok := impl.IsLayout(s, text)
			if !ok || isLayout != slices.Contains(layouts, text) {
				t.Errorf("IsLayout of %q: got %v, %v for %q", text, isLayout, ok, s)
			}
		}
	}
}

func TestPromise5IsLayout(t *testing.T) {
	for _, form := range forms() {
		s, _ := drawnTable(form[0], form[1], 9, 1)
		for _, layout := range layoutTexts(form[0], form[1]) {
			isLayout, ok := impl.IsLayout(s, layout)
			wantBool(t, "IsLayout "+layout, isLayout, ok, true)
		}
		// A layout of another form is none of this table.
		other := layoutTexts(form[1], form[0])
		if form[0] != form[1] && len(other) > 0 {
			isLayout, ok := impl.IsLayout(s, other[0])
			wantBool(t, "IsLayout of another form", isLayout, ok, false)
		}
		for _, layout := range append(badLayouts(), s) {
			isLayout, ok := impl.IsLayout(s, layout)
			wantBool(t, "IsLayout of none", isLayout, ok, false)
		}
	}
	for _, layout := range badLayouts() {
		if isLayoutText(layout) {
			t.Errorf("a layout: %q", layout)
		}
	}
	// As many cells, but other rows.
	for _, layout := range []string{"ewewew", "ew/ew/ew", "s/n/s/n/s/n", "ewew", "ew/ew", "ewewewew"} {
		isLayout, ok := impl.IsLayout("001/112", layout)
		wantBool(t, "IsLayout of another table", isLayout, ok, false)
		tiles, ok := impl.TilesOfLayout("001/112", layout)
		wantNothing(t, "TilesOfLayout of another table", len(tiles) == 0, ok)
	}
}

func TestPromise5TilesOfLayout(t *testing.T) {
	for _, s := range tables() {
		for _, layout := range layoutsOf(s) {
			tiles, ok := impl.TilesOfLayout(s, layout)
			wantTiles(t, "TilesOfLayout "+s+" "+layout, tiles, ok, tilesTold(s, layout))
		}
	}
	for _, c := range []struct{ s, layout, want string }{
		{"01", "ew", "01"},
		{"10", "ew", "01"},
		{"1/0", "s/n", "01"},
		{"99", "ew", "99"},
		{"001/112", "ews/ewn", "00,12,11"},
		{"001/112", "sew/new", "01,01,12"},
		{"001/112", "sss/nnn", "01,01,12"},
		{"00/00", "ew/ew", "00,00"},
		{"00/00", "ss/nn", "00,00"},
		{"3210", "ewew", "23,01"},
		{"3/2/1/0", "s/n/s/n", "23,01"},
		{"54/32/10", "ss/nn/ew", "35,24,01"},
	} {
		tiles, ok := impl.TilesOfLayout(c.s, c.layout)
		wantTiles(t, "TilesOfLayout "+c.s, tiles, ok, handOf(c.want))
	}
}

// wantApart checks everything that is told of the layouts that take a table apart into a hand.
func wantApart(t *testing.T, s string, hand []tile) {
	t.Helper()
	want := apartTold(s, hand)
	count, ok := impl.CountApart(s, hand)
	wantNumber(t, "CountApart "+s, count, ok, len(want))
	all, ok := impl.AllApart(s, hand)
	if len(want) > 100 {
		wantNothing(t, "AllApart "+s, len(all) == 0, ok)
	} else {
		wantTexts(t, "AllApart "+s, all, ok, want)
	}
	first, ok := impl.FirstApart(s, hand)
	sure, sureOk := impl.SurePairs(s, hand)
	if len(want) == 0 {
		wantNothing(t, "FirstApart "+s, first == "", ok)
		wantNothing(t, "SurePairs "+s, len(sure) == 0, sureOk)
		return
	}
	wantText(t, "FirstApart "+s, first, ok, want[0])
	wantLists(t, "SurePairs "+s, sure, sureOk, sureTold(want))
	for _, layout := range all {
		tiles, _ := impl.TilesOfLayout(s, layout)
		sorted, ok := impl.SortHand(tiles)
		wantTiles(t, "the tiles of "+layout, sorted, ok, picked(func(x tile) bool { return has(hand, x) }))
	}
}

func TestPromise5Apart(t *testing.T) {
	for _, s := range tables() {
		for _, hand := range handsFor(s) {
			wantApart(t, s, hand)
		}
	}
}

func TestPromise5ApartTold(t *testing.T) {
	for _, c := range []struct{ s, hand, want, sure string }{
		{"01", "01", "ew", "0 1"},
		{"10", "01", "ew", "0 1"},
		{"0/1", "01", "s/n", "0 1"},
		{"1/0", "01", "s/n", "0 1"},
		{"00", "00", "ew", "0 1"},
		{"0/0", "00", "s/n", "0 1"},
		{"01", "00", "", ""},
		{"01", "11", "", ""},
		{"01", "-", "", ""},
		{"01", "01,23", "", ""},
		{"01/20", "01,02", "ew/ew ss/nn", ""},
		{"01/20", "02,01", "ew/ew ss/nn", ""},
		{"01/23", "01,23", "ew/ew", "0 1,2 3"},
		{"01/23", "02,13", "ss/nn", "0 2,1 3"},
		{"01/23", "03,12", "", ""},
		{"01/23", "01", "", ""},
		{"01/23", "01,23,45", "", ""},
		{"00/00", "00", "", ""},
		{"00/00", "00,01", "", ""},
		{"00/00", "-", "", ""},
		{"01/01", "01", "", ""},
		{"01/01", "00,11", "ss/nn", "0 2,1 3"},
		{"012/210", "01,02,12", "ews/ewn sew/new", ""},
		{"0120/2105", "01,02,12,05", "ewew/ewew ewss/ewnn sews/newn", ""},
		{"01/20/33", "01,02,33", "ew/ew/ew ss/nn/ew", "4 5"},
		{"0120/2105", "00,05,12,01", "", ""},
		{"0/1/1/2", "01,12", "s/n/s/n", "0 1,2 3"},
		{"0/1/1/2", "11,02", "", ""},
		{"0112", "12,01", "ewew", "0 1,2 3"},
	} {
		hand := handOf(c.hand)
		want := strings.Fields(c.want)
		all, ok := impl.AllApart(c.s, hand)
		wantTexts(t, "AllApart "+c.s+" "+c.hand, all, ok, want)
		wantApart(t, c.s, hand)
		var texts []string
		sure, ok := impl.SurePairs(c.s, hand)
		for _, p := range sure {
			texts = append(texts, strconv.Itoa(p[0])+" "+strconv.Itoa(p[1]))
		}
		if got := strings.Join(texts, ","); got != c.sure || ok != (len(want) > 0) {
			t.Errorf("SurePairs %s %s: got %q, %v, want %q", c.s, c.hand, got, ok, c.sure)
		}
	}
}

// TestPromise5MostLayouts: MaxLayouts layouts are told, and more than that are only counted.
func TestPromise5MostLayouts(t *testing.T) {
	if impl.MaxCells != 30 || impl.MaxLayouts != 100 {
		t.Error("MaxCells and MaxLayouts are", impl.MaxCells, impl.MaxLayouts)
	}
	for _, c := range []struct {
		s, hand, first string
		count          int
		sure           [][]int
	}{
		{table100, hand100, "ewsewewewewsew/ewnewewewewnew", 100, [][]int{{2, 16}}},
		{table101, hand101, "ewewewewew/ewewewewss/ewewewewnn", 101, [][]int{{0, 1}, {8, 9}, {19, 29}}},
		{table987, hand987, "ewewewewewewews/ewewewewewewewn", 987, nil},
		{table999, hand999, "ewews/ewewn/ewews/ewewn/ewews/ewewn", 999, nil},
	} {
		hand := handOf(c.hand)
		wantApart(t, c.s, hand)
		count, ok := impl.CountApart(c.s, hand)
		wantNumber(t, "CountApart "+c.s, count, ok, c.count)
		first, ok := impl.FirstApart(c.s, hand)
		wantText(t, "FirstApart "+c.s, first, ok, c.first)
		sure, ok := impl.SurePairs(c.s, hand)
		wantLists(t, "SurePairs "+c.s, sure, ok, c.sure)
		all, ok := impl.AllApart(c.s, hand)
		if c.count > 100 {
			wantNothing(t, "AllApart "+c.s, len(all) == 0, ok)
		} else if len(all) != c.count || !ok {
			t.Error("AllApart of", c.s, "has", len(all), ok)
		}
		turned, _ := impl.TurnTable(c.s)
		wantApart(t, turned, hand)
		count, ok = impl.CountApart(turned, hand)
		wantNumber(t, "CountApart "+turned, count, ok, c.count)
	}
}

func TestPromise5SingleTiles(t *testing.T) {
	for _, s := range tables() {
		for _, hand := range append(handsFor(s), hands()...) {
			want := picked(func(x tile) bool { return has(hand, x) && len(placesTold(s, x)) == 1 })
			singles, ok := impl.SingleTiles(s, hand)
			wantTiles(t, "SingleTiles "+s, singles, ok, want)
		}
	}
	for _, c := range []struct{ s, hand, want string }{
		{"001/112", "00,11,12", "00,11"},
		{"001/112", "12,11,00", "00,11"},
		{"001/112", "01,22", "-"},
		{"001/112", "-", "-"},
		{"001/112", "22,11,33", "11"},
		{"01", "01", "01"},
		{"0/1", "11,01,00", "01"},
		{"00/00", "00", "-"},
		{"99", "99", "99"},
		{"01/23", "23,13,02,01,12,03", "01,02,13,23"},
	} {
		singles, ok := impl.SingleTiles(c.s, handOf(c.hand))
		wantTiles(t, "SingleTiles "+c.s, singles, ok, handOf(c.want))
	}
}

func TestPromise5HandsOfTable(t *testing.T) {
	for _, s := range tables() {
		want := handsTold(s)
		count, ok := impl.HandsOfTable(s)
		wantNumber(t, "HandsOfTable "+s, count, ok, len(want))
		layouts := 0
		for _, hand := range want {
			count, ok := impl.CountApart(s, hand)
			if !ok || count == 0 {
				t.Error(s, "is not taken apart into", hand)
			}
			layouts += count
		}
		all := layoutsOf(s)
		apart := slices.DeleteFunc(slices.Clone(all), func(layout string) bool { return twice(tilesTold(s, layout)) })
		wantNumber(t, "layouts for all hands of "+s, layouts, true, len(apart))
	}
	for s, want := range map[string]int{
		"01": 1, "0/1": 1, "00": 1, "00/00": 0, "01/01": 1, "01/10": 0, "01/23": 2, "01/20": 1, "000/000": 0,
		"001/112": 1, "012/210": 1, "012/345": 3, "0123": 1, "0101": 0, "0/1/0/1": 0, table987: 1, table999: 1,
	} {
		count, ok := impl.HandsOfTable(s)
		wantNumber(t, "HandsOfTable "+s, count, ok, want)
	}
}

func TestPromise5TurnTable(t *testing.T) {
	for s, want := range map[string]string{
		"01":          "0/1",
		"0/1":         "10",
		"01/23":       "20/31",
		"001/112":     "10/10/21",
		"012/345":     "30/41/52",
		"0123":        "0/1/2/3",
		"0/1/2/3":     "3210",
		"00/00":       "00/00",
		"0123/4567":   "40/51/62/73",
		"40/51/62/73": "7654/3210",
	} {
		turned, ok := impl.TurnTable(s)
		wantText(t, "TurnTable "+s, turned, ok, want)
	}
	for _, s := range tables() {
		width, height := formOf(s)
		turned := s
		for quarter := range 4 {
			before := strings.Split(turned, "/")
			next, ok := impl.TurnTable(turned)
			var want []string
			for column := range before[0] {
				row := ""
				for i := len(before) - 1; i >= 0; i-- {
					row += before[i][column : column+1]
				}
				want = append(want, row)
			}
			wantText(t, "TurnTable "+turned, next, ok, strings.Join(want, "/"))
			turned = next
			gotWidth, gotHeight, ok := impl.TableSize(turned)
			if quarter%2 == 0 {
				wantNumbers(t, "TableSize turned", []int{gotWidth, gotHeight}, ok, []int{height, width})
			} else {
				wantNumbers(t, "TableSize turned twice", []int{gotWidth, gotHeight}, ok, []int{width, height})
			}
		}
		wantText(t, "four quarters of "+s, turned, true, s)
	}
}

func TestPromise5MirrorTable(t *testing.T) {
	for s, want := range map[string]string{
		"01":        "10",
		"0/1":       "0/1",
		"01/23":     "10/32",
		"001/112":   "100/211",
		"0123":      "3210",
		"0/1/2/3":   "0/1/2/3",
		"0123/4567": "3210/7654",
	} {
		mirrored, ok := impl.MirrorTable(s)
		wantText(t, "MirrorTable "+s, mirrored, ok, want)
	}
	for _, s := range tables() {
		var rows []string
		for _, row := range strings.Split(s, "/") {
			cells := []byte(row)
			slices.Reverse(cells)
			rows = append(rows, string(cells))
		}
		mirrored, ok := impl.MirrorTable(s)
		wantText(t, "MirrorTable "+s, mirrored, ok, strings.Join(rows, "/"))
		again, ok := impl.MirrorTable(mirrored)
		wantText(t, "MirrorTable twice "+s, again, ok, s)
	}
}

// TestPromise5TurnedApart: a table that is turned or mirrored has as many layouts for each hand.
func TestPromise5TurnedApart(t *testing.T) {
	for _, s := range tables() {
		turned, _ := impl.TurnTable(s)
		mirrored, _ := impl.MirrorTable(s)
		for _, other := range []string{turned, mirrored} {
			hands, _ := impl.HandsOfTable(s)
			count, ok := impl.HandsOfTable(other)
			wantNumber(t, "HandsOfTable "+other, count, ok, hands)
			for _, hand := range handsFor(s) {
				apart, _ := impl.CountApart(s, hand)
				count, ok := impl.CountApart(other, hand)
				wantNumber(t, "CountApart "+other, count, ok, apart)
				singles, _ := impl.SingleTiles(s, hand)
				got, ok := impl.SingleTiles(other, hand)
				wantTiles(t, "SingleTiles "+other, got, ok, singles)
			}
		}
	}
}

func TestPromise5CountTilings(t *testing.T) {
	for width := 1; width <= 30; width++ {
		for height := 1; width*height <= 30; height++ {
			want := 0
			if width*height%2 == 0 {
				want = len(layoutTexts(width, height))
			}
			count, ok := impl.CountTilings(width, height)
			wantNumber(t, "CountTilings "+strconv.Itoa(width)+" "+strconv.Itoa(height), count, ok, want)
		}
	}
	// Counts that are known, by the lesser side.
	for side, counts := range map[int][]int{
		1: {0, 1, 0, 1, 0, 1, 0, 1, 0, 1, 0, 1, 0, 1, 0, 1, 0, 1, 0, 1, 0, 1, 0, 1, 0, 1, 0, 1, 0, 1},
		2: {1, 2, 3, 5, 8, 13, 21, 34, 55, 89, 144, 233, 377, 610, 987},
		3: {0, 3, 0, 11, 0, 41, 0, 153, 0, 571},
		4: {1, 5, 11, 36, 95, 281, 781},
		5: {0, 8, 0, 95, 0, 1183},
	} {
		for i, want := range counts {
			count, ok := impl.CountTilings(side, i+1)
			wantNumber(t, "CountTilings", count, ok, want)
			count, ok = impl.CountTilings(i+1, side)
			wantNumber(t, "CountTilings turned", count, ok, want)
		}
	}
}

func TestPromise5MakeTable(t *testing.T) {
	seed := 29
	for _, form := range forms() {
		size := form[0] * form[1] / 2
		for i, layout := range layoutTexts(form[0], form[1]) {
			var hand []tile
			hand, seed = drawn(fullHand(), size, seed)
			hand, _ = impl.SortHand(hand)
			made, ok := impl.MakeTable(layout, hand)
			wantText(t, "MakeTable "+layout, made, ok, madeTold(layout, hand))
			tiles, ok := impl.TilesOfLayout(made, layout)
			wantTiles(t, "TilesOfLayout "+made, tiles, ok, hand)
			if i < 20 {
				apart, ok := impl.CountApart(made, hand)
				if apart < 1 || !ok {
					t.Error(made, "is not taken apart into", hand, "by", layout)
				}
				for _, other := range [][]tile{nil, hand[1:], hand[:size-1], setOf(9), append(slices.Clone(hand), fullHand()[54])} {
					made, ok := impl.MakeTable(layout, other)
					wantNothing(t, "MakeTable of too few or too many tiles", made == "", ok)
				}
			}
		}
	}
	for _, c := range []struct{ layout, hand, want string }{
		{"ew", "01", "01"},
		{"s/n", "01", "0/1"},
		{"ew", "99", "99"},
		{"s/n", "99", "9/9"},
		{"ewew", "03,12", "0312"},
		{"s/n/s/n", "03,12", "0/3/1/2"},
		{"ew/ew", "01,23", "01/23"},
		{"ss/nn", "01,23", "02/13"},
		{"ews/ewn", "00,11,12", "001/121"},
		{"sew/new", "01,23,45", "023/145"},
		{"ss/nn/ew", "01,23,45", "02/13/45"},
	} {
		made, ok := impl.MakeTable(c.layout, handOf(c.hand))
		wantText(t, "MakeTable "+c.layout, made, ok, c.want)
	}
}

// TestPromise5MakeTableOfSortedHands: the hand has to be sorted.
func TestPromise5MakeTableOfSortedHands(t *testing.T) {
	for _, c := range []struct{ layout, hand string }{
		{"ewew", "12,03"}, {"ew/ew", "23,01"}, {"ss/nn", "11,01"}, {"ews/ewn", "00,12,11"}, {"ews/ewn", "12,11,00"},
	} {
		made, ok := impl.MakeTable(c.layout, handOf(c.hand))
		wantNothing(t, "MakeTable of a hand out of order", made == "", ok)
	}
}
