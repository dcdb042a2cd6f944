package tests

import (
	"math"
	"regexp"
	"slices"
	"strconv"
	"strings"
	"testing"

	"loop.example/g01216/impl"
)

type desk = impl.Desk

// dk writes a desk, its hand as a text, also one that is none.
func dk(hand string, top int) desk { return desk{Hand: handOf(hand), Top: top} }

func cloneDesk(d desk) desk { return desk{Hand: slices.Clone(d.Hand), Top: d.Top} }

func equalDesks(a, b desk) bool { return slices.Equal(a.Hand, b.Hand) && a.Top == b.Top }

func noDesk(d desk) bool { return equalDesks(d, desk{}) }

func wantDesk(t *testing.T, what string, got desk, ok bool, want desk) {
	t.Helper()
	if !ok || !equalDesks(got, want) {
		t.Errorf("%s: got %v, %v, want %v", what, got, ok, want)
	}
}

// wantAnswer checks the reply to a line and the desk behind it.
func wantAnswer(t *testing.T, d desk, line string, behind desk, reply string) {
	t.Helper()
	got, text, ok := impl.DeskLine(d, line)
	if !ok || text != reply || !equalDesks(got, behind) {
		t.Errorf("DeskLine(%v, %q): got %v, %q, %v, want %v, %q", d, line, got, text, ok, behind, reply)
	}
}

// isDesk is the test's own way to tell whether a value is a desk.
func isDesk(d desk) bool {
	sorted := picked(func(x tile) bool { return has(d.Hand, x) && x.High <= d.Top })
	return d.Top >= 0 && d.Top <= 9 && slices.Equal(d.Hand, sorted)
}

// lineForms are the lines of the document's table: capitals stand for numbers (N, E, W), HandTexts (H) and any texts (S).
var lineForms = strings.Split("hand H|top N|set|add H|drop H|rest|deal E N|show|pips|doubles|odd|whole|ring|chains|count|apart S|make S|tilings W N|best H", "|")

var numberWord = regexp.MustCompile(`^(0|[1-9][0-9]{0,5})\z`)
var handWord = regexp.MustCompile(`^(-|[0-9][0-9](,[0-9][0-9])*)\z`)

// isWord is the test's own way to tell whether a word is one that a form asks for.
func isWord(asked, word string) bool {
	switch asked {
	case "N", "E", "W":
		return numberWord.MatchString(word)
	case "H":
		return handWord.MatchString(word) && !twice(handOf(word)) && !slices.ContainsFunc(handOf(word), func(x tile) bool { return x.Low > x.High })
	case "S":
		return true
	}
	return word == asked
}

// understood is the test's own way to tell whether a line is one of the table.
func understood(line string) bool {
	return slices.ContainsFunc(lineForms, func(form string) bool {
		return slices.EqualFunc(strings.Split(form, " "), strings.Split(line, " "), isWord)
	})
}

// dealtTold returns the first hand that is dealt, or nothing that makes a desk if there is none.
func dealtTold(top, each, seed int) []tile {
	if 2*each > len(setOf(top)) || seed > 9999 {
		return []tile{tl(-1, -1)}
	}
	first, _ := dealTold(top, each, seed)
	return first
}

// effectTold is the test's own way to tell the hand and the top behind words with an effect; they may make no desk.
func effectTold(d desk, words []string) (desk, bool) {
	words = append(words, "-", "-")
	is := func(x tile) bool { return has(d.Hand, x) }
	switch first, _ := strconv.Atoi(words[1]); words[0] {
	case "hand":
		return desk{Hand: slices.SortedFunc(slices.Values(handOf(words[1])), compareTold), Top: d.Top}, true
	case "top":
		return desk{Hand: d.Hand, Top: first}, true
	case "set":
		return desk{Hand: setOf(d.Top), Top: d.Top}, true
	case "add":
		return desk{Hand: picked(func(x tile) bool { return is(x) || has(handOf(words[1]), x) }), Top: d.Top}, true
	case "drop":
		return desk{Hand: picked(func(x tile) bool { return is(x) && !has(handOf(words[1]), x) }), Top: d.Top}, true
	case "rest":
		return desk{Hand: picked(func(x tile) bool { return x.High <= d.Top && !is(x) }), Top: d.Top}, true
	case "deal":
		second, _ := strconv.Atoi(words[2])
		return desk{Hand: dealtTold(d.Top, first, second), Top: d.Top}, true
	}
	return desk{}, false
}

func compareTold(a, b tile) int { return 10*a.Low + a.High - 10*b.Low - b.High }

// listTold is the test's own way to write the list in a reply.
func listTold(list []int, ok bool) (string, bool) {
	text := ""
	for _, number := range list {
		text += "," + strconv.Itoa(number)
	}
	if ok && text == "" {
		return "-", true
	}
	return strings.TrimPrefix(text, ","), ok
}

func numberTold(number int, ok bool) (string, bool) { return strconv.Itoa(number), ok }

// calledReply is what the call returns that words without an effect name.
func calledReply(hand []tile, words []string) (string, bool) {
	words = append(words, "-", "-")
	switch words[0] {
	case "show":
		return impl.HandText(hand)
	case "pips":
		return numberTold(impl.PipsOf(hand))
	case "doubles":
		return listTold(impl.DoublesOf(hand))
	case "odd":
		return listTold(impl.OddNumbers(hand))
	case "whole":
		return listTold(impl.FirstWhole(hand))
	case "ring":
		return listTold(impl.FirstRing(hand))
	case "chains":
		return numberTold(impl.LeastChains(hand))
	case "count":
		return numberTold(impl.CountWhole(hand))
	case "apart":
		return impl.FirstApart(words[1], hand)
	case "make":
		return impl.MakeTable(words[1], hand)
	case "tilings":
		w, _ := strconv.Atoi(words[1])
		h, _ := strconv.Atoi(words[2])
		return numberTold(impl.CountTilings(w, h))
	case "best":
		g, ok := impl.GameOf(hand, handOf(words[1]))
		if !ok {
			return "", false
		}
		return numberTold(impl.BestPoints(g))
	}
	return "", false
}

// lineTold is the test's own way to tell the desk behind a line and its reply.
func lineTold(d desk, line string) (desk, string) {
	if !understood(line) {
		return d, "what"
	}
	words := strings.Split(line, " ")
	if behind, is := effectTold(d, words); is {
		if !isDesk(behind) {
			return d, "no"
		}
		text, _ := impl.HandText(behind.Hand)
		return behind, text
	}
	reply, ok := calledReply(d.Hand, words)
	if !ok {
		return d, "no"
	}
	return d, reply
}

// scriptTold is the test's own way to tell the replies, the desk behind a script, and the numbers of the lines that failed.
func scriptTold(lines []string) ([]string, desk, []int) {
	d := dk("00,01,11", 6)
	var replies []string
	var failed []int
	for i, line := range lines {
		var reply string
		d, reply = lineTold(d, line)
		replies = append(replies, reply)
		if reply == "no" || reply == "what" {
			failed = append(failed, i+1)
		}
	}
	return replies, d, failed
}

// script ends each line.
func script(lines []string) string {
	text := ""
	for _, line := range lines {
		text += line + "\n"
	}
	return text
}

// toldDesks are the cases that the document and the issue name.
func toldDesks() []desk {
	return []desk{
		dk("00,01,11", 6), dk("00,01,11", 1), dk("-", 6), dk("-", 0), dk("-", 9), {Hand: []tile{}, Top: 3}, dk("00", 0), dk("99", 9), dk("09", 9), dk("66", 6), dk("06,16", 6),
		dk("00,01,02,11,12,22", 2), dk("00,11,12", 6), dk("00,01,11,12,22", 6), dk("01,12,13", 3), dk("01,02,12", 2), dk("01,02,12", 5), dk("01,12,33,45", 8), dk("00,22", 2), dk("12,22", 4),
		{Hand: fullHand(), Top: 9}, {Hand: fullHand()[:54], Top: 9}, {Hand: setOf(6), Top: 6}, {Hand: setOf(6), Top: 7}, {Hand: setOf(4), Top: 4}, {Hand: fullTwelve(), Top: 4}, {Hand: starTwelve(), Top: 9},
	}
}

// desks are the told ones and drawn ones, with a Top at their greatest number and above it.
func desks() []desk {
	list := toldDesks()
	seed := 11
	for size := 1; size <= 13; size++ {
		for top := 1; top <= 9; top++ {
			var hand []tile
			hand, seed = drawn(setOf(top), size, seed)
			greatest := 0
			for _, x := range hand {
				greatest = max(greatest, x.High)
			}
			slices.SortFunc(hand, compareTold)
			list = append(list, desk{Hand: hand, Top: greatest}, desk{Hand: hand, Top: 9})
		}
	}
	return list
}

// badDesks are values that are no desks.
func badDesks() []desk {
	list := []desk{
		dk("01,00", 6), dk("00,11,01", 6), dk("12,02", 9), dk("11,01", 1), {Hand: reversed(fullHand()), Top: 9}, {Hand: append(fullHand()[1:], tl(0, 0)), Top: 9},
		dk("00,00", 6), dk("01,01", 6), dk("00,01,01,11", 6), dk("00,01,00", 6), dk("10", 6), dk("00,10", 6), dk("10,11", 9), dk("21", 2),
		dk("07", 6), dk("77", 6), dk("00,01,11,17", 6), dk("00,01", 0), dk("01", 0), dk("99", 8), dk("09", 8), dk("09,11", 5), {Hand: setOf(6), Top: 5}, {Hand: fullHand(), Top: 8},
		dk("00,01,11", -1), dk("00,01,11", 10), dk("-", -1), dk("-", 10), dk("00", -1), dk("99", 10), {Hand: fullHand(), Top: 10}, {Hand: append(fullHand(), tl(9, 9)), Top: 9}, {Hand: append(fullHand(), tl(9, 10)), Top: 10},
		{Hand: make([]tile, 1<<20), Top: 6}, {Hand: make([]tile, 2), Top: 6},
	}
	for _, hand := range badHands() {
		list = append(list, desk{Hand: hand, Top: 9}, desk{Hand: hand, Top: 6}, desk{Hand: hand, Top: math.MaxInt})
	}
	for _, top := range append([]int{-2, 11, 255, 1 << 32, 1<<32 + 6, -1 << 32}, badNumbers...) {
		list = append(list, dk("00,01,11", top), dk("-", top), dk("-", top))
	}
	return list
}

// consoleWords are words of all kinds, and others.
func consoleWords() []string {
	full, _ := impl.HandText(fullHand())
	back, _ := impl.HandText(reversed(fullHand()))
	return []string{
		"", "-", "00", "01", "11", "12,22", "22,12", "66", "06,16", "67", "77", "99", "09", "00,01,11", "11,00,01", "10", "21", "01,10", "01,01", "22,33,22", "01,", ",01", "01,,11", ",", "--", "-,01", "1", "0a", "a0", "01;11", "01.11", full, back, full + ",00",
		"0", "2", "3", "6", "7", "9", "10", "14", "15", "28", "55", "9999", "10000", "999999", "1000000", "9999999", "18446744073709551616", "-1", "-0", "+1", "+0", "007", "01", "00", "1.0", "1e3", "0x1", "1_0", "x", "٣",
		"000111", "001/011", "001/112", "11", "0/0", "001/11", "0011", "ewewew", "ews/ewn", "sew/new", "ew", "s/n", "we", "EW", "/", "what", "no", "\t", "\r", "\x00", "\xff", "ß",
	}
}

// otherNames are first words that are not in the table.
func otherNames() []string {
	list := []string{"", "fly", "Hand", "what", "no", "-", "01", "hands", "show\t", "show\r", "\x00"}
	for _, form := range lineForms {
		name, _, _ := strings.Cut(form, " ")
		list = append(list, strings.ToUpper(name), name[:len(name)-1], name+"x")
	}
	return list
}

// consoleLines are all names with no word and with one, and with two where these are asked for.
func consoleLines() []string {
	var list []string
	for _, name := range otherNames() {
		list = append(list, name, name+" ", name+" -", name+" 01", name+" 5 5", name+" 001/011")
	}
	for _, form := range lineForms {
		name, _, _ := strings.Cut(form, " ")
		list = append(list, name, " "+name, name+"  ", name+" 1 2 3")
		for _, word := range consoleWords() {
			list = append(list, name+" "+word)
			if name != "deal" && name != "tilings" {
				list = append(list, name+" "+word+" ", name+"  "+word, " "+name+" "+word)
				continue
			}
			for _, second := range consoleWords() {
				list = append(list, name+" "+word+" "+second)
			}
		}
	}
	return list
}

// drawnScripts are lists of at most 50 lines that are mostly understood, and whose texts have at most 3000 bytes.
func drawnScripts(seed, many int) [][]string {
	var scripts [][]string
	var lines []string
	next := func(most int) int {
		seed = (seed*163 + 229) % 10007
		return seed % most
	}
	hands := []string{"-", "00", "01,12", "33,23,34", "02,22", "66,06", "67", "15,35,14", "44,45,55,04", "78", "09,99", "12,13,11", "25,24", "10", "5"}
	numbers := []string{"0", "1", "2", "3", "4", "5", "6", "7", "9", "17", "9999", "10000", "01"}
	texts := []string{"ew", "s/n", "ewew", "ews/ewn", "es/wn", "ewewew", "01", "0/0", "0112", "00/01", "001/112", "", "x"}
	for len(scripts) < many {
		var words []string
		for _, asked := range strings.Split(lineForms[next(len(lineForms))], " ") {
			switch asked {
			case "H":
				asked = hands[next(len(hands))]
			case "N", "E", "W":
				asked = numbers[next(len(numbers))]
			case "S":
				asked = texts[next(len(texts))]
			}
			words = append(words, asked)
		}
		lines = append(lines, strings.Join(words, " "))
		if len(lines) == 50 || next(40) == 0 {
			scripts, lines = append(scripts, lines), nil
		}
	}
	return scripts
}

// badScripts are texts that are no scripts.
func badScripts() []string {
	return []string{
		"show", " ", "-", "\nshow", "show\nshow", "show\npips\nx", "show\n ", "show\r", "show\n\r", "\n\n ", "show\\n", "show\x00", "show\n\x00", "show\u2028", "show\r\nshow\r",
		strings.Repeat("\n", 51), strings.Repeat("show\n", 51), strings.Repeat("x\n", 52), strings.Repeat("\n", 50) + "x", strings.Repeat("show\n", 50) + "show", strings.Repeat("show\n", 100), strings.Repeat("\n", 3000), strings.Repeat("\n", 3001),
		strings.Repeat("x", 3000) + "\n", strings.Repeat("x", 3000), strings.Repeat("x", 2999), strings.Repeat(strings.Repeat("x", 59)+"\n", 49) + strings.Repeat("x", 60) + "\n", strings.Repeat("show"+strings.Repeat(" ", 56)+"\n", 50), strings.Repeat(" ", 5000) + "\n",
		strings.Repeat("x", 1<<20) + "\n", strings.Repeat("\n", 1<<20), strings.Repeat("show\n", 1<<16),
	}
}

// badLines are texts that are no lines.
func badLines() []string {
	return []string{
		"\n", "show\n", "\nshow", "show\npips", "hand 01\n", "hand\n01", "hand -\n", "apart \n", "apart 01\n", "make e\nw", "top 6\n", "\n\n", "show\r\n", "fly\n", "x\ny",
		strings.Repeat("x", 3001), strings.Repeat(" ", 3001), "apart " + strings.Repeat("0", 2995), "show" + strings.Repeat(" ", 2997), strings.Repeat("x", 2999) + "\n", strings.Repeat("x", 3000) + "\n", strings.Repeat("x", 1<<20), "hand " + strings.Repeat("01,", 1<<16) + "02", "top " + strings.Repeat("0", 1<<16) + "1",
	}
}
