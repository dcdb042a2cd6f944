package tests

import (
	"slices"
	"strconv"
	"strings"
	"testing"

	"loop.example/g01216/impl"
)

// Promise 11 as far as chapter 10 goes: every function accepts all arguments without panicking and modifies none of them.

// someLines has a line of each form, with an effect or a reply, and lines with no and what.
func someLines() []string {
	return []string{
		"hand 12,00", "hand -", "hand 99", "top 6", "top 9", "top 0", "top 10", "set", "add 02,22", "add -", "add 77", "drop 01", "drop -", "drop 99", "rest", "deal 1 77", "deal 0 0", "deal 15 0",
		"show", "pips", "doubles", "odd", "whole", "ring", "chains", "count", "apart 000111", "apart 01", "apart ", "make ewewew", "make ew", "tilings 3 2", "tilings 0 0", "best 22", "best -", "best 00", "", " ", "fly", "show ", "hand 10", "top 06", "SHOW",
	}
}

func TestPromise11BadDesksFail(t *testing.T) {
	for _, d := range badDesks() {
		for _, line := range slices.Concat(someLines(), badLines()[:10]) {
			behind, reply, ok := impl.DeskLine(d, line)
			wantNothing(t, "DeskLine on no desk", noDesk(behind) && reply == "", ok)
		}
	}
}

func TestPromise11BadLinesFail(t *testing.T) {
	for _, line := range badLines() {
		for _, d := range append(toldDesks(), badDesks()[:20]...) {
			behind, reply, ok := impl.DeskLine(d, line)
			wantNothing(t, "DeskLine of "+strconv.Quote(line[:min(len(line), 40)]), noDesk(behind) && reply == "", ok)
		}
	}
	for _, line := range append(someLines(), "deal 1 2", "hand 01,02,11") {
		for at := range len(line) + 1 {
			behind, reply, ok := impl.DeskLine(dk("00,01,11", 6), line[:at]+"\n"+line[at:])
			wantNothing(t, "DeskLine with a newline", noDesk(behind) && reply == "", ok)
		}
	}
}

func TestPromise11BadScriptsFail(t *testing.T) {
	for _, text := range badScripts() {
		what := strconv.Quote(text[:min(len(text), 40)])
		replies, ok := impl.RunScript(text)
		wantNothing(t, "RunScript of "+what, len(replies) == 0, ok)
		d, ok := impl.DeskAfter(text)
		wantNothing(t, "DeskAfter "+what, noDesk(d), ok)
		numbers, ok := impl.FailedLines(text)
		wantNothing(t, "FailedLines of "+what, len(numbers) == 0, ok)
	}
}

// TestPromise11AllShortScripts: texts of few letters are scripts exactly if they are empty or end with a newline.
func TestPromise11AllShortScripts(t *testing.T) {
	texts := []string{""}
	for range 6 {
		var longer []string
		for _, text := range texts {
			want := text == "" || text[len(text)-1] == '\n'
			replies, ok := impl.RunScript(text)
			if ok != want || ok && len(replies) != strings.Count(text, "\n") || !ok && len(replies) > 0 {
				t.Errorf("RunScript(%q): got %q, %v", text, replies, ok)
			}
			numbers, ok := impl.FailedLines(text)
			if ok != want || len(numbers) != len(replies) {
				t.Errorf("FailedLines(%q): got %v, %v", text, numbers, ok)
			}
			d, ok := impl.DeskAfter(text)
			if ok != want || ok && !equalDesks(d, dk("00,01,11", 6)) || !ok && !noDesk(d) {
				t.Errorf("DeskAfter(%q): got %v, %v", text, d, ok)
			}
			for _, letter := range []byte("\n s-\r") {
				longer = append(longer, text+string([]byte{letter}))
			}
		}
		texts = longer
	}
}

func TestPromise11DesksStay(t *testing.T) {
	lines := append(someLines(), badLines()[:10]...)
	for _, list := range append(toldDesks(), badDesks()...) {
		for _, behind := range []tile{tl(-1, -1), tl(1, 1), tl(6, 6)} {
			hand, whole := roomy(list.Hand, behind)
			before := slices.Clone(whole)
			d := desk{Hand: hand, Top: list.Top}
			impl.IsDesk(d)
			for _, line := range lines {
				impl.DeskLine(d, line)
				if !slices.Equal(whole, before) {
					t.Fatalf("%q has modified its desk %v", line, list)
				}
			}
		}
	}
}

// TestPromise11RoomBehindDesks: what lies behind a hand is no part of it.
func TestPromise11RoomBehindDesks(t *testing.T) {
	hand := handOf("00,01,11,12,77")
	d := desk{Hand: hand[:3], Top: 6}
	for line, want := range map[string]string{"show": "00,01,11", "top 1": "00,01,11", "pips": "3", "drop 12": "00,01,11", "add 22": "00,01,11,22", "count": "2", "top 0": "no", "fly": "what", "best 12": "-1"} {
		_, reply, ok := impl.DeskLine(d, line)
		wantText(t, line, reply, ok, want)
	}
	if !impl.IsDesk(d) || impl.IsDesk(desk{Hand: hand, Top: 6}) {
		t.Error("IsDesk looks at what lies behind a hand")
	}
	wantTiles(t, "a hand with what lies behind it", hand, true, handOf("00,01,11,12,77"))
}

// TestPromise11DeskResultsAreNew: writing into a result, up to its capacity, changes neither an argument nor a later result.
func TestPromise11DeskResultsAreNew(t *testing.T) {
	for _, line := range append(someLines(), "top 1", "top 7", "drop 99", "add 11") {
		hand, whole := roomy(handOf("00,01,11"), tl(1, 2))
		before := slices.Clone(whole)
		d := desk{Hand: hand, Top: 6}
		behind, reply, ok := impl.DeskLine(d, line)
		kept := cloneDesk(behind)
		overwriteTiles(behind.Hand)
		if !ok || !slices.Equal(whole, before) {
			t.Errorf("%q hands out the memory of its desk", line)
		}
		again, same, ok := impl.DeskLine(d, line)
		wantDesk(t, line+" again", again, ok, kept)
		wantText(t, line+" again", same, ok, reply)
	}
	for _, text := range []string{"", "show\n", "top 9\n", "fly\n", "set\n", "rest\nring\n"} {
		first, ok := impl.DeskAfter(text)
		kept := cloneDesk(first)
		overwriteTiles(first.Hand)
		again, _ := impl.DeskAfter(text)
		wantDesk(t, "DeskAfter again", again, ok, kept)
	}
	overwriteTiles(impl.FirstDesk().Hand)
	wantDesk(t, "FirstDesk again", impl.FirstDesk(), true, dk("00,01,11", 6))
	text := "show\nfly\nring\nset\n"
	replies, _ := impl.RunScript(text)
	kept := slices.Clone(replies)
	clear(replies[:cap(replies)])
	again, ok := impl.RunScript(text)
	wantTexts(t, "RunScript again", again, ok, kept)
	failed, _ := impl.FailedLines(text)
	overwriteNumbers(failed)
	failed, ok = impl.FailedLines(text)
	wantNumbers(t, "FailedLines again", failed, ok, []int{2, 3})
}

// TestPromise11ConsoleKeepsNothing: no call leaves anything behind for the next one, also if many go on at the same time.
func TestPromise11ConsoleKeepsNothing(t *testing.T) {
	scripts := drawnScripts(9, 20)
	var want [][]string
	for _, lines := range scripts {
		replies, _, _ := scriptTold(lines)
		want = append(want, replies)
	}
	done := make(chan bool)
	for range 8 {
		go func() {
			same := true
			for range 3 {
				for i, lines := range scripts {
					replies, ok := impl.RunScript(script(lines))
					same = same && ok && slices.Equal(replies, want[i])
				}
			}
			done <- same
		}()
	}
	for range 8 {
		if !<-done {
			t.Error("a script comes to something else the second time")
		}
	}
	wantDesk(t, "FirstDesk behind scripts", impl.FirstDesk(), true, dk("00,01,11", 6))
}
