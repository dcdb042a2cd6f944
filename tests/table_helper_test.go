package tests

import (
	"math"
	"regexp"
	"slices"
	"strings"
	"testing"
)

// Tables that have, for one hand, many layouts.
const (
	table100 = "56642946715136/35229997108061"
	hand100  = "01,08,15,16,17,24,26,29,35,36,49,56,67,99"
	table101 = "4682495657/2024956328/6292393031"
	hand101  = "02,03,18,23,24,26,28,29,36,39,46,49,56,57,59"
	table987 = "584897624121351/958976241013575"
	hand987  = "01,12,13,14,15,24,26,35,48,57,58,59,67,79,89"
	table999 = "00823/08231/89383/95937/19178/01781"
	hand999  = "00,01,08,13,17,18,19,23,28,37,38,39,59,78,89"
)

// handOf reads a hand that is written as in HandText.
func handOf(text string) []tile {
	var hand []tile
	if text == "-" {
		return nil
	}
	for _, word := range strings.Split(text, ",") {
		hand = append(hand, tl(int(word[0]-'0'), int(word[1]-'0')))
	}
	return hand
}

var rowsOfDigits = regexp.MustCompile(`^[0-9]+(/[0-9]+)*\z`)

// isTable is the test's own way to tell whether a text is a table.
func isTable(s string) bool {
	if !rowsOfDigits.MatchString(s) {
		return false
	}
	width, height := formOf(s)
	for _, row := range strings.Split(s, "/") {
		if len(row) != width {
			return false
		}
	}
	return width*height <= 30 && width*height%2 == 0
}

// formOf returns the numbers of columns and of rows of a text.
func formOf(s string) (int, int) {
	return strings.IndexByte(s+"/", '/'), strings.Count(s, "/") + 1
}

// digits are the cells of a text.
func digits(s string) string { return strings.ReplaceAll(s, "/", "") }

var layoutsMade = map[[2]int][]string{}

// layoutTexts is the test's own way to tell all layouts of tables of a form, in order: it writes them letter by letter.
func layoutTexts(width, height int) []string {
	if made, ok := layoutsMade[[2]int{width, height}]; ok {
		return made
	}
	texts := []string{""}
	for at := range width*height + height - 1 {
		row, column := at/(width+1), at%(width+1)
		var longer []string
		for _, text := range texts {
			toldWest := column > 0 && text[at-1] == 'e'
			toldNorth := row > 0 && column < width && text[at-width-1] == 's'
			if column == width {
				longer = append(longer, text+"/")
			}
			if toldWest && !toldNorth {
				longer = append(longer, text+"w")
			}
			if toldNorth && !toldWest {
				longer = append(longer, text+"n")
			}
			if column < width-1 && !toldWest && !toldNorth {
				longer = append(longer, text+"e")
			}
			if column < width && row < height-1 && !toldWest && !toldNorth {
				longer = append(longer, text+"s")
			}
		}
		texts = longer
	}
	// In the last column and in the last row only letters are written that tell a cell, so that none is left over.
	slices.Sort(texts)
	layoutsMade[[2]int{width, height}] = texts
	return texts
}

// isLayoutText is the test's own way to tell whether a text is a layout of some table.
func isLayoutText(layout string) bool {
	width, height := formOf(layout)
	ofTable := width > 0 && width*height <= 30 && width*height%2 == 0
	return ofTable && slices.Contains(layoutTexts(width, height), layout)
}

// layoutsOf returns all layouts of a table.
func layoutsOf(s string) []string { return layoutTexts(formOf(s)) }

// otherAt returns where in a layout the greater cell of a tile is that has its lesser one at a place, or -1 if there is none.
func otherAt(layout string, at int) int {
	width, _ := formOf(layout)
	switch layout[at] {
	case 'e':
		return at + 1
	case 's':
		return at + width + 1
	}
	return -1
}

// tilesTold is the test's own way to tell the tiles of a layout: it reads them off both texts, which have their places in common.
func tilesTold(s, layout string) []tile {
	var tiles []tile
	for at := range layout {
		if other := otherAt(layout, at); other >= 0 {
			tiles = append(tiles, tileOf(int(s[at]-'0'), int(s[other]-'0')))
		}
	}
	return tiles
}

// pairsTold is the test's own way to tell the pairs of cells of a layout, in order.
func pairsTold(layout string) [][]int {
	var pairs [][]int
	for at := range layout {
		if other := otherAt(layout, at); other >= 0 {
			pairs = append(pairs, []int{len(digits(layout[:at])), len(digits(layout[:other]))})
		}
	}
	return pairs
}

// madeTold is the test's own way to tell the table that a layout takes apart into a sorted hand.
func madeTold(layout string, hand []tile) string {
	made := []byte(layout)
	for at := range layout {
		if other := otherAt(layout, at); other >= 0 {
			made[at], made[other] = '0'+byte(hand[0].Low), '0'+byte(hand[0].High)
			hand = hand[1:]
		}
	}
	return string(made)
}

// twice tells whether a tile is in a list more than once.
func twice(tiles []tile) bool {
	for i, x := range tiles {
		if has(tiles[:i], x) {
			return true
		}
	}
	return false
}

// apartTold is the test's own way to tell all layouts that take a table apart into a hand, in order.
func apartTold(s string, hand []tile) []string {
	var all []string
	for _, layout := range layoutsOf(s) {
		tiles := tilesTold(s, layout)
		if len(tiles) == len(hand) && len(without(hand, tiles)) == 0 {
			all = append(all, layout)
		}
	}
	return all
}

// sureTold is the test's own way to tell the pairs that layouts have in common: it counts how many of them have each.
func sureTold(layouts []string) [][]int {
	counts := map[[2]int]int{}
	for _, layout := range layouts {
		for _, p := range pairsTold(layout) {
			counts[[2]int{p[0], p[1]}]++
		}
	}
	var sure [][]int
	for p, count := range counts {
		if count == len(layouts) {
			sure = append(sure, []int{p[0], p[1]})
		}
	}
	slices.SortFunc(sure, slices.Compare)
	return sure
}

// placesTold is the test's own way to tell the places of a tile: it tries all pairs of cells.
func placesTold(s string, x tile) [][]int {
	width, _ := formOf(s)
	cells := digits(s)
	var places [][]int
	for a := range cells {
		for b := a + 1; b < len(cells); b++ {
			beside := a/width == b/width && b == a+1
			below := a%width == b%width && b == a+width
			if (beside || below) && tileOf(int(cells[a]-'0'), int(cells[b]-'0')) == x {
				places = append(places, []int{a, b})
			}
		}
	}
	return places
}

var handsMade = map[string][][]tile{}

// handsTold is the test's own way to tell the hands that a table can be taken apart into, each sorted, in the order of the first layouts for them.
func handsTold(s string) [][]tile {
	if made, ok := handsMade[s]; ok {
		return made
	}
	var all [][]tile
	for _, layout := range layoutsOf(s) {
		tiles := tilesTold(s, layout)
		hand := picked(func(x tile) bool { return has(tiles, x) })
		same := func(other []tile) bool { return slices.Equal(other, hand) }
		if !twice(tiles) && !slices.ContainsFunc(all, same) {
			all = append(all, hand)
		}
	}
	handsMade[s] = all
	return all
}

// inColumn writes the cells of a text one below the other.
func inColumn(cells string) string { return strings.Join(strings.Split(cells, ""), "/") }

// drawnTable returns a table of a form with digits up to most, made by a seed, and the seed for the next one.
func drawnTable(width, height, most, seed int) (string, int) {
	var rows []string
	for range height {
		row := ""
		for range width {
			seed = (seed*163 + 229) % 10007
			row += string([]byte{'0' + byte(seed%(most+1))})
		}
		rows = append(rows, row)
	}
	return strings.Join(rows, "/"), seed
}

// forms returns the numbers of columns and of rows of all tables.
func forms() [][2]int {
	var list [][2]int
	for width := 1; width <= 30; width++ {
		for height := 1; width*height <= 30; height++ {
			if width*height%2 == 0 {
				list = append(list, [2]int{width, height})
			}
		}
	}
	return list
}

// tables returns ordinary tables and the extreme ones: those of two cells, those of 30, and some of all other forms.
func tables() []string {
	list := []string{
		"00", "01", "10", "99", "0/0", "0/1", "9/8", "9/9",
		"00/00", "01/10", "01/20", "01/23", "10/02", "001/112", "000/000", "012/210", "012/012",
		"0123", "0/1/2/3", "0110", "0/0/1/1", "0011/2233", "00/11/22", "99/98/88",
		"0123456789", "9/8/7/6/5/4/3/2/1/0", "0011223344/5566778899",
		"001122334455667788990123456789", inColumn("001122334455667788990224466881"),
		table100, table101, table987, table999, "012345/123456/234567/345678/456789",
	}
	seed := 17
	for _, form := range forms() {
		for _, most := range []int{2, 9} {
			var s string
			s, seed = drawnTable(form[0], form[1], most, seed)
			list = append(list, s)
		}
	}
	return list
}

// badTables returns texts that are no tables.
func badTables() []string {
	list := []string{
		"", "0", "9", "000", "0/0/0", "000/000/000", "12345",
		"/", "//", "/00", "00/", "/0/0", "0/0/", "00//00", "0//0", "/00/00", "00/00/",
		"00/0", "0/00", "00/000", "000/0", "00/00/0000", "01/2/3", "0000/00",
		"0a", "a0", "ew", "s/n", "0:", ":0", "0.", ".0", " 00", "00 ", "0 ", "00\n", "\n00", "0\x00", "0\xff", "\xff\xff", "-0", "-1", "+1", "0,", "٣", "0\\0", "00|00", "-", "0-", "0/:", "./0", "00/0a", "a0/00",
		"00/00\n", "00/00 ", " 0/00",
	}
	for _, form := range [][2]int{{31, 1}, {1, 31}, {32, 1}, {1, 32}, {16, 2}, {2, 16}, {8, 4}, {4, 8}, {6, 6}, {30, 2}, {2, 30}, {5, 5}, {3, 9}, {29, 1}, {1, 29}, {100, 100}} {
		s, _ := drawnTable(form[0], form[1], 9, 3)
		list = append(list, s)
	}
	for _, s := range []string{"001/112", table100, table999} {
		list = append(list, s+"/", "/"+s, s+"0", s+"/0", s[1:], s[:len(s)-1], s+"\n", s+"\x00", strings.Replace(s, "/", "//", 1), strings.Replace(s, "/", "|", 1))
	}
	return append(list, table100+"/"+table100, inColumn("0123456789012345678901234567890"), inColumn("01234567890123456789012345678901"))
}

// badLayouts returns texts that are no layouts of any table.
func badLayouts() []string {
	return []string{
		"", "/", "//", "0", "00", "0/0", "001/112", table999, "e1", "0w", "s/0", "e", "s", "n", "w", "ee", "ww", "we", "sn", "ns", "en", "sw", "se", "ss", "nn", "ew/", "/ew", "ew//ew", "EW", "S/N", "ew ", " ew", "ew\n", "e\x00", "e\xff",
		"e/w", "n/s", "s/s", "n/n", "w/e", "s/w", "e/n", "s/n/", "/s/n", "s//n", "s", "s/n/s",
		"ews", "ew/e", "ew/ew/e", "ews/ew", "ews/wen", "ews/ews", "ewn/ewn", "ewn/ews", "ews/ewx", "ews/ew1", "sss/nns", "sss/sss", "nnn/sss", "wew/ewe", "ewe/wew", "ewe/ewn", "eww/eew", "eew/eww",
		"se/wn", "sw/en", "sw/ne", "ws/en", "es/nw", "ee/ww", "ss/ss", "nn/nn", "nn/ss", "we/we", "ns/ns", "wn/se",
		strings.Repeat("ew", 16), strings.Repeat("e", 30), strings.Repeat("s/n/", 15), strings.Repeat("s/n/", 15) + "s/n",
		strings.Repeat("s", 16) + "/" + strings.Repeat("n", 16), "ew/" + strings.Repeat("ew/", 14) + "ew", "ewewew/ewewew/ewewew/ewewew/ewewew/ewewew",
	}
}

// handsFor returns hands to take a table apart into: those for which that can be done, and others that have a tile more, less or another, or have nothing to do with it.
func handsFor(s string) [][]tile {
	list := [][]tile{nil, fullHand(), {tl(0, 1)}}
	size := len(digits(s)) / 2
	hand, _ := drawn(fullHand(), size, len(s)+int(s[0]))
	list = append(list, hand)
	told := handsTold(s)
	if len(told) > 3 {
		told = slices.Concat(told[:2], told[len(told)-1:])
	}
	for _, hand := range told {
		rest := without(fullHand(), hand)
		list = append(list, hand, reversed(hand), hand[1:], hand[:len(hand)-1], append(slices.Clone(hand), rest[0]), append(slices.Clone(hand[1:]), rest[len(rest)-1]))
	}
	return list
}

// badForms returns numbers of columns and of rows that no table may have.
func badForms() [][2]int {
	list := [][2]int{{31, 1}, {1, 31}, {32, 1}, {1, 32}, {16, 2}, {2, 16}, {8, 4}, {4, 8}, {6, 6}, {11, 3}, {3, 11}, {0, 0}, {-1, -1}, {-2, -15}, {-5, -6}, {1 << 32, 1 << 32}, {1 << 62, 4}, {4, 1 << 62}, {1 << 33, 1 << 31}, {math.MaxInt, math.MaxInt}, {math.MinInt, math.MinInt}, {math.MaxInt, 2}, {2, math.MaxInt}}
	for n := 1; n <= 31; n++ {
		list = append(list, [2]int{n, 0}, [2]int{0, n}, [2]int{n, -1}, [2]int{-n, n}, [2]int{-n, -1})
	}
	for _, n := range []int{math.MinInt, -256, -1, 0, 31, 256, math.MaxInt} {
		list = append(list, [2]int{n, 1}, [2]int{1, n}, [2]int{n, 2}, [2]int{2, n}, [2]int{n, n})
	}
	return list
}

func wantTexts(t *testing.T, what string, got []string, ok bool, want []string) {
	t.Helper()
	if !ok || !slices.Equal(got, want) {
		t.Errorf("%s: got %q, %v, want %q", what, got, ok, want)
	}
}
