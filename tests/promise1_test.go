package tests

import (
	"slices"
	"strconv"
	"strings"
	"testing"

	"loop.example/g01216/impl"
)

// Promise 1: hands are joined and cut as sets, and texts are read back.

func TestPromise1Example(t *testing.T) {
	set, ok := impl.SetOf(2)
	wantTiles(t, "set of 2", set, ok, []tile{tl(0, 0), tl(0, 1), tl(0, 2), tl(1, 1), tl(1, 2), tl(2, 2)})
	text, ok := impl.HandText(set)
	if text != "00,01,02,11,12,22" || !ok {
		t.Error("text of the set of 2", text, ok)
	}
	n, ok := impl.PipsOf(set)
	wantNumber(t, "pips of the set of 2", n, ok, 12)
	hand := []tile{tl(1, 2), tl(2, 2)}
	n, ok = impl.TimesOf(hand, 2)
	wantNumber(t, "times of 2", n, ok, 3)
	n, ok = impl.TimesOf(hand, 1)
	wantNumber(t, "times of 1", n, ok, 1)
	n, ok = impl.RankOf(tl(1, 1))
	wantNumber(t, "rank of 11", n, ok, 10)
	missing, ok := impl.MissingFrom([]tile{tl(0, 1)}, 1)
	wantTiles(t, "missing from the set of 1", missing, ok, []tile{tl(0, 0), tl(1, 1)})
}

func TestPromise1IsTile(t *testing.T) {
	numbers := append([]int{0, 1, 2, 3, 4, 5, 6, 7, 8, 9}, badNumbers...)
	for _, low := range numbers {
		for _, high := range numbers {
			want := 0 <= low && low <= high && high <= 9
			if impl.IsTile(tl(low, high)) != want {
				t.Error("IsTile", low, high, !want)
			}
		}
	}
}

func TestPromise1TileOf(t *testing.T) {
	for a := 0; a <= 9; a++ {
		for b := 0; b <= 9; b++ {
			got, ok := impl.TileOf(a, b)
			if got != tl(min(a, b), max(a, b)) || !ok {
				t.Error("TileOf", a, b, got, ok)
			}
		}
		for _, bad := range badNumbers {
			got, ok := impl.TileOf(a, bad)
			wantNothing(t, "TileOf with a bad number", got == tile{}, ok)
			got, ok = impl.TileOf(bad, a)
			wantNothing(t, "TileOf with a bad number", got == tile{}, ok)
		}
	}
}

func TestPromise1IsHand(t *testing.T) {
	for _, hand := range hands() {
		if !impl.IsHand(hand) {
			t.Error("a hand is none:", hand)
		}
	}
	for _, hand := range badHands() {
		if impl.IsHand(hand) {
			t.Error("no hand is one:", hand)
		}
	}
}

func TestPromise1Sets(t *testing.T) {
	for n := 0; n <= 9; n++ {
		want := picked(func(x tile) bool { return x.High <= n })
		set, ok := impl.SetOf(n)
		wantTiles(t, "SetOf", set, ok, want)
		many, ok := impl.CountSet(n)
		wantNumber(t, "CountSet", many, ok, len(want))
		many, ok = impl.PipsOf(set)
		wantNumber(t, "pips of a set", many, ok, n*len(want))
	}
	for _, bad := range badNumbers {
		set, ok := impl.SetOf(bad)
		wantNothing(t, "SetOf", len(set) == 0, ok)
		many, ok := impl.CountSet(bad)
		wantNothing(t, "CountSet", many == 0, ok)
	}
	if impl.MaxPips != 9 || impl.MaxTiles != 55 {
		t.Error("the limits are", impl.MaxPips, impl.MaxTiles)
	}
}

func TestPromise1Ranks(t *testing.T) {
	for want, x := range fullHand() {
		rank, ok := impl.RankOf(x)
		wantNumber(t, "RankOf", rank, ok, want)
		back, ok := impl.TileOfRank(want)
		if back != x || !ok {
			t.Error("TileOfRank", want, back, ok)
		}
	}
	for _, bad := range []int{-1 << 63, -55, -1, 55, 56, 100, 1<<63 - 1} {
		x, ok := impl.TileOfRank(bad)
		wantNothing(t, "TileOfRank", x == tile{}, ok)
	}
	for _, bad := range append(badNumbers, 0) {
		rank, ok := impl.RankOf(tl(1, bad))
		wantNothing(t, "RankOf", rank == 0, ok)
	}
}

func TestPromise1OneHand(t *testing.T) {
	for _, hand := range hands() {
		sorted, ok := impl.SortHand(hand)
		wantTiles(t, "SortHand", sorted, ok, picked(func(x tile) bool { return has(hand, x) }))
		pips := 0
		var doubles, numbers []int
		for number := 0; number <= 9; number++ {
			times := 0
			for _, x := range hand {
				if x.Low == number {
					times++
				}
				if x.High == number {
					times++
				}
			}
			pips += times * number
			got, ok := impl.TimesOf(hand, number)
			wantNumber(t, "TimesOf", got, ok, times)
			if times > 0 {
				numbers = append(numbers, number)
			}
			if has(hand, tl(number, number)) {
				doubles = append(doubles, number)
			}
			with, ok := impl.WithNumber(hand, number)
			wantTiles(t, "WithNumber", with, ok, picked(func(x tile) bool {
				return has(hand, x) && (x.Low == number || x.High == number)
			}))
		}
		sum, ok := impl.PipsOf(hand)
		wantNumber(t, "PipsOf", sum, ok, pips)
		list, ok := impl.DoublesOf(hand)
		wantNumbers(t, "DoublesOf", list, ok, doubles)
		list, ok = impl.NumbersOf(hand)
		wantNumbers(t, "NumbersOf", list, ok, numbers)
	}
}

func TestPromise1FullAndEmpty(t *testing.T) {
	pips, ok := impl.PipsOf(fullHand())
	wantNumber(t, "pips of all tiles", pips, ok, 495)
	times, ok := impl.TimesOf(fullHand(), 9)
	wantNumber(t, "times of 9 in all tiles", times, ok, 11)
	times, ok = impl.TimesOf(nil, 0)
	wantNumber(t, "times of 0 in no tiles", times, ok, 0)
	pips, ok = impl.PipsOf(nil)
	wantNumber(t, "pips of no tiles", pips, ok, 0)
	list, ok := impl.NumbersOf(nil)
	wantNumbers(t, "numbers of no tiles", list, ok, nil)
	list, ok = impl.DoublesOf([]tile{tl(0, 1)})
	wantNumbers(t, "doubles of 01", list, ok, nil)
}

func TestPromise1TwoHands(t *testing.T) {
	for _, a := range hands() {
		for _, b := range hands() {
			got, ok := impl.JoinHands(a, b)
			wantTiles(t, "JoinHands", got, ok, picked(func(x tile) bool { return has(a, x) || has(b, x) }))
			got, ok = impl.BothHands(a, b)
			wantTiles(t, "BothHands", got, ok, picked(func(x tile) bool { return has(a, x) && has(b, x) }))
			got, ok = impl.LessHand(a, b)
			wantTiles(t, "LessHand", got, ok, picked(func(x tile) bool { return has(a, x) && !has(b, x) }))
		}
	}
}

func TestPromise1MissingFrom(t *testing.T) {
	for _, hand := range hands() {
		for n := 0; n <= 9; n++ {
			inSet := !slices.ContainsFunc(hand, func(x tile) bool { return x.High > n })
			got, ok := impl.MissingFrom(hand, n)
			if !inSet {
				wantNothing(t, "MissingFrom a smaller set", len(got) == 0, ok)
				continue
			}
			wantTiles(t, "MissingFrom", got, ok, picked(func(x tile) bool { return x.High <= n && !has(hand, x) }))
		}
	}
	got, ok := impl.MissingFrom([]tile{tl(0, 2)}, 1)
	wantNothing(t, "MissingFrom with a tile too many", len(got) == 0, ok)
}

func TestPromise1RenameHand(t *testing.T) {
	for _, names := range goodNames() {
		back := make([]int, 10)
		for i, name := range names {
			back[name] = i
		}
		for _, hand := range hands() {
			want := picked(func(x tile) bool {
				low, high := back[x.Low], back[x.High]
				return has(hand, tl(min(low, high), max(low, high)))
			})
			got, ok := impl.RenameHand(hand, names)
			wantTiles(t, "RenameHand", got, ok, want)
			again, ok := impl.RenameHand(got, back)
			sorted, _ := impl.SortHand(hand)
			wantTiles(t, "RenameHand and back", again, ok, sorted)
		}
	}
}

func TestPromise1TextsAreReadBack(t *testing.T) {
	for _, hand := range hands() {
		var words []string
		for _, x := range hand {
			words = append(words, string([]byte{'0' + byte(x.Low), '0' + byte(x.High)}))
		}
		want := strings.Join(words, ",")
		if len(hand) == 0 {
			want = "-"
		}
		text, ok := impl.HandText(hand)
		if text != want || !ok {
			t.Errorf("HandText: got %q, %v, want %q", text, ok, want)
		}
		back, ok := impl.ParseHand(text)
		wantTiles(t, "ParseHand", back, ok, hand)
	}
}

func TestPromise1BadTexts(t *testing.T) {
	full, _ := impl.HandText(fullHand())
	bad := []string{
		"", " ", ",", "--", "-,", ",-", "00,-", "-,00", "- ", " -", "−",
		"0", "000", "0,0", "0001", "00 01", "00;01", "00,", ",00", "00,,01", "00, 01", " 00", "00 ", "00\n", "00\x00",
		"10", "01,10", "98", "00,00", "01,12,01",
		"0:", "::", "/0", "//", "0/", "0a", "a0", "-1", "+1", "0-", "\xff\xff", "0\xff", "٠٠",
		full + ",", full + ",00", full + "," + full, "00," + full, strings.Repeat("00,", 54) + "00",
		strings.Repeat(",", 200), strings.Repeat("0", 164), strings.Repeat("-", 1<<16),
	}
	for _, text := range bad {
		hand, ok := impl.ParseHand(text)
		wantNothing(t, "ParseHand of "+strconv.Quote(text[:min(len(text), 20)]), len(hand) == 0, ok)
	}
	if len(full) != 164 {
		t.Error("the longest text has length", len(full))
	}
}

func TestPromise1AllTextsOfTwoBytes(t *testing.T) {
	for a := range 256 {
		for b := range 256 {
			text := string([]byte{byte(a), byte(b)})
			want := '0' <= a && a <= b && b <= '9'
			hand, ok := impl.ParseHand(text)
			if ok != want || want && !slices.Equal(hand, []tile{tl(a-'0', b-'0')}) || !want && len(hand) > 0 {
				t.Errorf("ParseHand(%q): got %v, %v", text, hand, ok)
			}
		}
	}
}
