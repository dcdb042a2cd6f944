package tests

import (
	"slices"
	"strconv"
	"strings"
	"testing"

	"loop.example/g01216/impl"
)

// Promise 10: scripts do what the calls do that they name.

// replyCase is a line and the reply to it.
type replyCase struct{ line, reply string }

// wantReplies checks lines, each on the same desk; those with an effect have the HandText as their reply.
func wantReplies(t *testing.T, d desk, list []replyCase) {
	t.Helper()
	for _, c := range list {
		behind := d
		name, word, _ := strings.Cut(c.line, " ")
		if c.reply != "no" && c.reply != "what" && slices.Contains([]string{"hand", "set", "add", "drop", "rest", "deal"}, name) {
			behind = dk(c.reply, d.Top)
		}
		if c.reply != "no" && c.reply != "what" && name == "top" {
			behind.Top = numbersOf(word)[0]
		}
		wantAnswer(t, d, c.line, behind, c.reply)
	}
}

func TestPromise10Example(t *testing.T) {
	lines := []string{"whole", "add 12,22", "odd", "count", "drop 01,22", "apart 001/112", "tilings 3 2", "hand 77", "ring", "fly"}
	replies, ok := impl.RunScript(script(lines))
	wantTexts(t, "RunScript", replies, ok, []string{"0,0,1,1", "00,01,11,12,22", "0,2", "2", "00,11,12", "ews/ewn", "3", "no", "no", "what"})
	d, ok := impl.DeskAfter(script(lines))
	wantDesk(t, "DeskAfter", d, ok, dk("00,11,12", 6))
	failed, ok := impl.FailedLines(script(lines))
	wantNumbers(t, "FailedLines", failed, ok, []int{8, 9, 10})
}

func TestPromise10IsDesk(t *testing.T) {
	wantDesk(t, "FirstDesk", impl.FirstDesk(), true, dk("00,01,11", 6))
	for _, d := range append(desks(), impl.FirstDesk()) {
		if !impl.IsDesk(d) || !isDesk(d) {
			t.Error("a desk is none:", d)
		}
	}
	for _, d := range badDesks() {
		if impl.IsDesk(d) || isDesk(d) {
			t.Error("no desk is one:", d.Top, len(d.Hand), d.Hand[:min(len(d.Hand), 5)])
		}
	}
	for top := -2; top <= 12; top++ {
		for greatest := range 10 {
			hand := []tile{tl(0, 0), tl(greatest/2+1, max(greatest, greatest/2+1))}
			d := desk{Hand: hand, Top: top}
			if impl.IsDesk(d) != isDesk(d) || isDesk(d) != (top <= 9 && top >= max(greatest, greatest/2+1)) {
				t.Error("IsDesk of", d)
			}
		}
	}
	if impl.MaxScript != 3000 || impl.MaxLines != 50 {
		t.Error("the limits are", impl.MaxScript, impl.MaxLines)
	}
}

func TestPromise10Effects(t *testing.T) {
	set6 := "00,01,02,03,04,05,06,11,12,13,14,15,16,22,23,24,25,26,33,34,35,36,44,45,46,55,56,66"
	wantReplies(t, dk("00,01,11", 6), []replyCase{
		{"hand 12", "12"}, {"hand 22,12,02", "02,12,22"}, {"hand -", "-"}, {"hand 66", "66"}, {"hand 66,06", "06,66"}, {"hand 67", "no"}, {"hand 07", "no"}, {"hand 00,77", "no"}, {"hand 77,00", "no"}, {"hand 99", "no"}, {"hand 00,01,11", "00,01,11"}, {"hand " + set6, set6},
		{"top 1", "00,01,11"}, {"top 6", "00,01,11"}, {"top 7", "00,01,11"}, {"top 9", "00,01,11"}, {"top 0", "no"}, {"top 10", "no"}, {"top 11", "no"}, {"top 999999", "no"}, {"top 1000000", "what"},
		{"set", set6}, {"rest", strings.ReplaceAll(strings.ReplaceAll(set6, "00,01,", ""), "11,", "")},
		{"add 12", "00,01,11,12"}, {"add 02,22", "00,01,02,11,22"}, {"add 22,02", "00,01,02,11,22"}, {"add 01", "00,01,11"}, {"add 01,66", "00,01,11,66"}, {"add -", "00,01,11"}, {"add 67", "no"}, {"add 77", "no"}, {"add 12,07", "no"}, {"add " + set6, set6},
		{"drop 01", "00,11"}, {"drop 11,00", "01"}, {"drop 22", "00,01,11"}, {"drop 01,22", "00,11"}, {"drop -", "00,01,11"}, {"drop 11,01,00", "-"}, {"drop 77", "00,01,11"}, {"drop 77,01", "00,11"}, {"drop 67", "00,01,11"}, {"drop " + set6, "-"},
		{"deal 0 0", "-"}, {"deal 0 9999", "-"}, {"deal 15 0", "no"}, {"deal 28 0", "no"}, {"deal 999999 0", "no"}, {"deal 1 10000", "no"}, {"deal 0 10000", "no"}, {"deal 3 999999", "no"},
	})
	// With the seed 0 the numbers are 229, 7535, 7580, ..: the index 5 of 28 tiles, 2 of 27 for the other hand, 14 of 26.
	wantReplies(t, dk("00", 6), []replyCase{{"deal 1 0", "05"}, {"deal 2 0", "05,25"}})
	wantReplies(t, dk("00,01,02,11,12,22", 2), []replyCase{
		{"rest", "-"}, {"set", "00,01,02,11,12,22"}, {"top 2", "00,01,02,11,12,22"}, {"top 1", "no"}, {"top 0", "no"}, {"top 3", "00,01,02,11,12,22"}, {"hand 03", "no"}, {"hand 22", "22"}, {"add 33", "no"}, {"add 23", "no"}, {"drop 33", "00,01,02,11,12,22"}, {"drop 02,33,12", "00,01,11,22"},
		{"deal 2 9999", "11,12"}, {"deal 4 0", "no"}, {"deal 3 10000", "no"},
	})
	wantReplies(t, dk("-", 0), []replyCase{{"set", "00"}, {"rest", "00"}, {"hand 00", "00"}, {"hand 01", "no"}, {"hand -", "-"}, {"add 00", "00"}, {"add 01", "no"}, {"add -", "-"}, {"drop 00", "-"}, {"drop 99", "-"}, {"deal 0 5", "-"}, {"deal 1 5", "no"}, {"top 0", "-"}, {"top 5", "-"}, {"top 9", "-"}, {"top 10", "no"}})
	wantReplies(t, dk("00", 0), []replyCase{{"rest", "-"}, {"drop 00", "-"}, {"top 0", "00"}, {"set", "00"}, {"hand 00", "00"}})
	full, _ := impl.HandText(fullHand())
	back, _ := impl.HandText(reversed(fullHand()))
	wantReplies(t, dk("99", 9), []replyCase{{"set", full}, {"hand " + full, full}, {"hand " + back, full}, {"add " + back, full}, {"rest", strings.TrimSuffix(full, ",99")}, {"top 8", "no"}, {"top 9", "99"}, {"top 10", "no"}, {"drop " + full, "-"}, {"deal 28 3", "no"}, {"hand " + full + ",00", "what"}})
}

// TestPromise10Deal: the first one of both hands, with as many tiles as the set has at most.
func TestPromise10Deal(t *testing.T) {
	for top := range 10 {
		for each := range len(setOf(top)) + 2 {
			for _, seed := range []int{0, 1, 77, 9998, 9999} {
				d := desk{Hand: []tile{tl(0, 0)}, Top: top}
				line := "deal " + strconv.Itoa(each) + " " + strconv.Itoa(seed)
				first, _, ok := impl.DealHands(top, each, seed)
				if ok != (2*each <= len(setOf(top))) {
					t.Error("DealHands of", top, each, ok)
				}
				if !ok {
					wantAnswer(t, d, line, d, "no")
					continue
				}
				text, _ := impl.HandText(first)
				wantAnswer(t, d, line, desk{Hand: dealtTold(top, each, seed), Top: top}, text)
			}
		}
	}
}

func TestPromise10Replies(t *testing.T) {
	wantReplies(t, dk("00,01,11", 6), []replyCase{
		{"show", "00,01,11"}, {"pips", "3"}, {"doubles", "0,1"}, {"odd", "0,1"}, {"whole", "0,0,1,1"}, {"ring", "no"}, {"chains", "1"}, {"count", "2"},
		{"apart 000111", "ewewew"}, {"apart 0/0/0/1/1/1", "s/n/s/n/s/n"}, {"apart 001/011", "ews/ewn"}, {"apart 000112", "no"}, {"apart 01", "no"}, {"apart 0011", "no"}, {"apart ", "no"}, {"apart x", "no"}, {"apart -", "no"}, {"apart 001/01", "no"}, {"apart /", "no"}, {"apart ews/ewn", "no"}, {"apart 00,01,11", "no"}, {"apart \t", "no"}, {"apart \x00\xff", "no"},
		{"make ewewew", "000111"}, {"make ews/ewn", "000/111"}, {"make sss/nnn", "001/011"}, {"make s/n/s/n/s/n", "0/0/0/1/1/1"}, {"make ew", "no"}, {"make ewewewew", "no"}, {"make ", "no"}, {"make wewewe", "no"}, {"make x", "no"}, {"make EWEWEW", "no"}, {"make 000111", "no"}, {"make -", "no"},
		{"tilings 3 2", "3"}, {"tilings 2 3", "3"}, {"tilings 1 1", "0"}, {"tilings 3 3", "0"}, {"tilings 30 1", "1"}, {"tilings 1 30", "1"}, {"tilings 6 5", "1183"}, {"tilings 31 1", "no"}, {"tilings 0 2", "no"}, {"tilings 2 0", "no"}, {"tilings 0 0", "no"}, {"tilings 999999 999999", "no"}, {"tilings 16 2", "no"},
		{"best 22", "4"}, {"best -", "-3"}, {"best 00", "no"}, {"best 12,11", "no"}, {"best 22,33,44,55,66", "40"}, {"best 66,55,44,33,22", "40"}, {"best 22,33,44,55,66,77", "no"}, {"best 77", "14"}, {"best 99,88", "34"},
	})
	wantReplies(t, dk("-", 6), []replyCase{
		{"show", "-"}, {"pips", "0"}, {"doubles", "-"}, {"odd", "-"}, {"whole", "0"}, {"ring", "0"}, {"chains", "0"}, {"count", "10"}, {"apart 00", "no"}, {"apart ", "no"}, {"make ew", "no"}, {"make ", "no"}, {"tilings 2 2", "2"}, {"best -", "0"}, {"best 12", "3"}, {"best 99,89", "35"}, {"rest", textOfSet(6)},
	})
	wantReplies(t, dk("01,02,12", 2), []replyCase{{"doubles", "-"}, {"odd", "-"}, {"whole", "0,1,2,0"}, {"ring", "0,1,2,0"}, {"chains", "1"}, {"count", "6"}, {"pips", "6"}})
	wantReplies(t, dk("01,12,13", 3), []replyCase{{"odd", "0,1,2,3"}, {"whole", "no"}, {"ring", "no"}, {"chains", "2"}, {"count", "0"}, {"doubles", "-"}})
	wantReplies(t, dk("00,22", 2), []replyCase{{"odd", "-"}, {"doubles", "0,2"}, {"whole", "no"}, {"ring", "no"}, {"chains", "2"}, {"count", "0"}})
	wantReplies(t, dk("01,12", 6), []replyCase{{"best 22,00", "4"}, {"best 00,22", "4"}, {"whole", "0,1,2"}, {"ring", "no"}, {"make ew/ew", "01/12"}, {"make es/wn", "no"}, {"make ewew", "0112"}, {"apart 0112", "ewew"}, {"apart 0121", "ewew"}})
	wantReplies(t, dk("22", 6), []replyCase{{"best 00", "0"}, {"best 11,12", "5"}, {"best -", "-4"}, {"whole", "2,2"}, {"ring", "2,2"}, {"count", "1"}})
	wantReplies(t, dk("66,99", 9), []replyCase{{"best 00", "-12"}, {"best 00,01", "-11"}, {"best -", "-30"}})
	wantReplies(t, desk{Hand: setOf(4), Top: 4}, []replyCase{{"count", "no"}, {"best -", "no"}, {"best 55", "no"}, {"chains", "1"}, {"pips", "60"}, {"doubles", "0,1,2,3,4"}, {"odd", "-"}})
	wantReplies(t, desk{Hand: fullHand(), Top: 9}, []replyCase{{"count", "no"}, {"whole", "no"}, {"ring", "no"}, {"chains", "5"}, {"pips", "495"}, {"odd", "0,1,2,3,4,5,6,7,8,9"}, {"rest", "-"}, {"make ew", "no"}})
	wantReplies(t, desk{Hand: fullTwelve(), Top: 4}, []replyCase{{"count", "12672"}})
}

func textOfSet(n int) string {
	text, _ := impl.HandText(setOf(n))
	return text
}

// TestPromise10What: lines that are not those of the table.
func TestPromise10What(t *testing.T) {
	for _, d := range toldDesks() {
		for _, line := range []string{
			"", " ", "  ", "fly", "what", "no", "-", "01", "7", "show ", " show", "  show", "show  ", "show show", "show -", "set ", " set", "set 6", "rest ", "rest 6", "rest -", "pips 1", "pips ", "doubles ", "odd 1", "whole 0", "whole ", "ring ", "chains ", "count 1",
			"hand", "hand ", "hand  01", "hand 01 ", " hand 01", "hand  ", "hand 01 02", "hand 01,02 -", "hand 10", "hand 01,10", "hand 01,01", "hand 00,00", "hand 1", "hand 012", "hand 0a", "hand 01,", "hand ,01", "hand 01,,02", "hand --", "hand -,01", "hand 01;02", "hand x", "hand 01\t", "hand 01\r", "hand\t01", "hand 77,77", "hand 10,77",
			"add", "add ", "add  01", "add 01 ", "add 10", "add 01,01", "add 1", "add 01 02", "drop", "drop ", "drop  01", "drop 01 ", "drop 10", "drop 01,01", "drop x", "best", "best ", "best  22", "best 22 ", "best 10", "best 22,22", "best 22 33", "best x",
			"top", "top ", "top  1", "top 1 ", "top 1 2", "top 01", "top 06", "top 00", "top +6", "top -1", "top -0", "top 6.0", "top x", "top 0x6", "top 1000000", "top 9999999", "top 18446744073709551622", "top 6\t", "top ٦", "top 1_0", "top -",
			"deal", "deal ", "deal 1", "deal 1 ", "deal  1", "deal  1 2", "deal 1  2", "deal 1 2 ", "deal 1 2 3", "deal 01 2", "deal 1 02", "deal +1 2", "deal 1 -2", "deal x 2", "deal 1 x", "deal 1000000 0", "deal 0 1000000", "deal 99 01", "deal 99 1000000", "deal  ",
			"tilings", "tilings ", "tilings 3", "tilings 3 ", "tilings  2", "tilings  3 2", "tilings 3  2", "tilings 3 2 ", "tilings 3 2 1", "tilings 03 2", "tilings 3 02", "tilings -3 2", "tilings 3 +2", "tilings x 2", "tilings 3 x", "tilings 1000000 1", "tilings 1 1000000", "tilings 0 x", "tilings 99 00", "tilings 3,2", "tilings 3x2",
			"apart", "apart 01 ", "apart  01", "apart 01 01", "apart  ", " apart 01", "make", "make ew ", "make  ew", "make ew 01", "make  ", " make ew",
			"SHOW", "Show", "HAND 01", "Hand 01", "hAnd 01", "TOP 6", "Top 6", "SET", "ADD 01", "DROP 01", "REST", "DEAL 1 2", "PIPS", "DOUBLES", "ODD", "WHOLE", "RING", "CHAINS", "COUNT", "APART 01", "MAKE ew", "TILINGS 3 2", "BEST 22",
			"sho", "shows", "sets", "hand01", "hand-", "hand,01", "hand:01", "top6", "show,pips", "show;", "show\r", "\tshow", "show\x00", "\xff", "é", "showpips", "hand H", "top N", "deal E N", "tilings W N", "best H", "add H", "drop H", "chain", "double",
		} {
			wantAnswer(t, d, line, d, "what")
		}
		wantAnswer(t, d, strings.Repeat("x", 3000), d, "what")
		wantAnswer(t, d, strings.Repeat(" ", 3000), d, "what")
		wantAnswer(t, d, "show"+strings.Repeat(" ", 2996), d, "what")
		wantAnswer(t, d, "top "+strings.Repeat("0", 2996), d, "what")
		wantAnswer(t, d, "hand "+strings.Repeat("00,", 998)+"0", d, "what")
		wantAnswer(t, d, "apart "+strings.Repeat("0", 2994), d, "no")
		wantAnswer(t, d, "make "+strings.Repeat("ew", 1497)+"x", d, "no")
	}
}

// TestPromise10Numbers: the numbers 0..999999 are numbers, whatever comes of them.
func TestPromise10Numbers(t *testing.T) {
	d := dk("-", 3)
	for _, c := range []struct{ number, top, deal, tilings string }{
		{"0", "-", "-", "no"}, {"1", "-", "-", "0"}, {"9", "-", "-", "0"}, {"10", "no", "-", "1"}, {"30", "no", "-", "1"}, {"31", "no", "-", "no"}, {"9999", "no", "-", "no"}, {"10000", "no", "no", "no"}, {"100000", "no", "no", "no"}, {"999999", "no", "no", "no"},
		{"1000000", "what", "what", "what"}, {"00", "what", "what", "what"}, {"000001", "what", "what", "what"}, {"0999999", "what", "what", "what"}, {"+0", "what", "what", "what"}, {"-0", "what", "what", "what"}, {"-1", "what", "what", "what"}, {"+9", "what", "what", "what"},
		{"", "what", "what", "what"}, {"9223372036854775807", "what", "what", "what"}, {"9223372036854775808", "what", "what", "what"}, {"18446744073709551617", "what", "what", "what"}, {"99999999999999999999999999", "what", "what", "what"},
	} {
		_, reply, ok := impl.DeskLine(d, "top "+c.number)
		wantText(t, "top "+c.number, reply, ok, c.top)
		_, reply, ok = impl.DeskLine(d, "deal 0 "+c.number)
		wantText(t, "deal 0 "+c.number, reply, ok, c.deal)
		_, reply, ok = impl.DeskLine(d, "tilings 1 "+c.number)
		wantText(t, "tilings 1 "+c.number, reply, ok, c.tilings)
		_, reply, ok = impl.DeskLine(d, "tilings "+c.number+" 1")
		wantText(t, "tilings "+c.number+" 1", reply, ok, c.tilings)
	}
	for number := range 40 {
		each := strconv.Itoa(number)
		want := "no"
		if number <= 5 {
			first, _ := dealTold(3, number, 4)
			want, _ = impl.HandText(first)
		}
		_, reply, ok := impl.DeskLine(d, "deal "+each+" 4")
		wantText(t, "deal "+each+" 4", reply, ok, want)
	}
}

// TestPromise10AllLines: lines do what the calls do that they name, on each desk.
func TestPromise10AllLines(t *testing.T) {
	effects, replies, noes, whats := 0, 0, 0, 0
	list := desks()
	for j, line := range consoleLines() {
		is := understood(line)
		for i, d := range list {
			// One desk takes all lines, each other one some of them, so that the test does not last too long.
			if i > 0 && (i+j)%61 != 0 && (!is || (i+j)%5 != 0) {
				continue
			}
			behind, reply := lineTold(d, line)
			wantAnswer(t, d, line, behind, reply)
			switch {
			case reply == "no":
				noes++
			case reply == "what":
				whats++
			case !equalDesks(d, behind):
				effects++
			default:
				replies++
			}
		}
	}
	if effects < 1000 || replies < 1000 || noes < 1000 || whats < 1000 {
		t.Error("too few lines of a kind:", effects, replies, noes, whats)
	}
}

// TestPromise10EachByte: each byte put into a line or in place of one of its bytes is no other thing than the document says.
func TestPromise10EachByte(t *testing.T) {
	d := dk("01,12", 6)
	for _, good := range []string{"hand 01,12", "top 6", "deal 1 7", "show", "apart 0112", "make ewew", "tilings 3 2", "best 22"} {
		for at := range len(good) + 1 {
			for letter := range 256 {
				if letter == '\n' {
					continue
				}
				inserted := good[:at] + string([]byte{byte(letter)}) + good[at:]
				for _, line := range []string{inserted, inserted[:at+1] + good[min(at+1, len(good)):]} {
					behind, reply := lineTold(d, line)
					wantAnswer(t, d, line, behind, reply)
				}
			}
		}
	}
}

func wantScript(t *testing.T, lines []string) {
	t.Helper()
	want, behind, failed := scriptTold(lines)
	replies, ok := impl.RunScript(script(lines))
	wantTexts(t, "RunScript", replies, ok, want)
	d, ok := impl.DeskAfter(script(lines))
	wantDesk(t, "DeskAfter", d, ok, behind)
	numbers, ok := impl.FailedLines(script(lines))
	wantNumbers(t, "FailedLines", numbers, ok, failed)
}

func TestPromise10Scripts(t *testing.T) {
	replied, failed := 0, 0
	for _, lines := range drawnScripts(5, 150) {
		if len(script(lines)) > 3000 {
			t.Error("a script that is too long for the test:", len(script(lines)))
		}
		wantScript(t, lines)
		_, _, numbers := scriptTold(lines)
		replied, failed = replied+len(lines)-len(numbers), failed+len(numbers)
	}
	if replied < 1000 || failed < 300 {
		t.Error("too few lines of a kind:", replied, failed)
	}
}

// TestPromise10LineByLine: a script is its lines, each on the desk behind the one before.
func TestPromise10LineByLine(t *testing.T) {
	for _, lines := range drawnScripts(77, 40) {
		replies, _ := impl.RunScript(script(lines))
		d := impl.FirstDesk()
		for i, line := range lines {
			var reply string
			var ok bool
			d, reply, ok = impl.DeskLine(d, line)
			wantText(t, "DeskLine of a script", reply, ok, replies[i])
			so, ok := impl.DeskAfter(script(lines[:i+1]))
			wantDesk(t, "DeskAfter so many lines", so, ok, d)
		}
	}
}

// TestPromise10Limits: scripts of no lines and of just MaxLines lines, and those of just MaxScript bytes.
func TestPromise10Limits(t *testing.T) {
	wide := func(line string, size int) string { return line + strings.Repeat("x", size-len(line)) }
	for _, lines := range [][]string{
		nil, {""}, {"", ""}, {"show"}, {"fly"}, {"hand -"}, {"hand 67"}, {"", "show", "", "top 9", ""}, {" "}, {"show\r"}, {"\x00"},
		slices.Repeat([]string{"show"}, 49), slices.Repeat([]string{"show"}, 50), slices.Repeat([]string{""}, 50), slices.Repeat([]string{"rest"}, 50), append(slices.Repeat([]string{"fly"}, 49), "top 7"),
		{wide("", 2999)}, {wide("apart ", 2999)}, {wide("show", 2998)}, {"show", wide("", 2994)}, {wide("", 2992), "hand -"}, slices.Repeat([]string{wide("", 59)}, 50), append(slices.Repeat([]string{wide("make ", 60)}, 49), "set"),
	} {
		wantScript(t, lines)
	}
	for _, c := range []struct {
		text string
		ok   bool
	}{
		{"", true}, {"\n", true}, {"show\n", true}, {"show", false}, {"show\npips\n", true}, {"show\npips", false}, {strings.Repeat("\n", 50), true}, {strings.Repeat("\n", 51), false}, {strings.Repeat("show\n", 50), true}, {strings.Repeat("show\n", 50) + "x", false}, {strings.Repeat("show\n", 51), false},
		{strings.Repeat("x", 2999) + "\n", true}, {strings.Repeat("x", 3000) + "\n", false}, {strings.Repeat("x", 3000), false}, {strings.Repeat(strings.Repeat("x", 59)+"\n", 50), true}, {strings.Repeat(strings.Repeat("x", 59)+"\n", 49) + strings.Repeat("x", 60) + "\n", false},
	} {
		replies, ok := impl.RunScript(c.text)
		if ok != c.ok || ok && len(replies) != strings.Count(c.text, "\n") || !ok && len(replies) > 0 {
			t.Error("RunScript of", len(c.text), "bytes:", replies, ok)
		}
	}
	// A line may have as many bytes as a script, so one more than in any script.
	wantAnswer(t, dk("-", 4), strings.Repeat("x", 3000), dk("-", 4), "what")
	wantAnswer(t, dk("-", 4), "make "+strings.Repeat("x", 2995), dk("-", 4), "no")
}

// TestPromise10Refused: no and what change nothing, whatever comes before and behind.
func TestPromise10Refused(t *testing.T) {
	lines := []string{"top 3", "hand 23,12", "top 2", "hand 44", "hand 11,11", "add 34", "add 3", "deal 6 1", "deal 3 10000", "deal x 1", "top 10", "TOP 9", "drop", "set 3", "show", "apart 1223", "apart 9999", "make ewew", "make we", "best 00,03", "best 12", "best -", "", "doubles", "whole", "ring"}
	want := []string{"00,01,11", "12,23", "no", "no", "what", "no", "what", "no", "no", "what", "no", "what", "what", "what", "12,23", "ewew", "no", "1223", "no", "3", "no", "-8", "what", "-", "1,2,3", "no"}
	replies, ok := impl.RunScript(script(lines))
	wantTexts(t, "RunScript", replies, ok, want)
	failed, ok := impl.FailedLines(script(lines))
	wantNumbers(t, "FailedLines", failed, ok, []int{3, 4, 5, 6, 7, 8, 9, 10, 11, 12, 13, 14, 17, 19, 21, 23, 26})
	d, ok := impl.DeskAfter(script(lines))
	wantDesk(t, "DeskAfter", d, ok, dk("12,23", 3))
	failed, ok = impl.FailedLines("show\npips\n")
	wantNumbers(t, "FailedLines of none", failed, ok, nil)
	failed, ok = impl.FailedLines("")
	wantNumbers(t, "FailedLines of the empty script", failed, ok, nil)
	d, ok = impl.DeskAfter("")
	wantDesk(t, "DeskAfter the empty script", d, ok, dk("00,01,11", 6))
}
