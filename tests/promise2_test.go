package tests

import (
	"math"
	"slices"
	"strconv"
	"strings"
	"testing"

	"loop.example/g01216/impl"
)

// Promise 2: chains have their tiles and are turned, spun and joined, and all of a hand are told.

func TestPromise2Example(t *testing.T) {
	tiles, ok := impl.TilesOfChain([]int{0, 1, 1, 2})
	wantTiles(t, "tiles of 0, 1, 1, 2", tiles, ok, []tile{tl(0, 1), tl(1, 1), tl(1, 2)})
	ring := []tile{tl(0, 1), tl(0, 2), tl(1, 2)}
	all, ok := impl.AllChains(ring)
	wantLists(t, "chains of 01,02,12", all, ok, [][]int{
		{0, 1, 2, 0}, {0, 2, 1, 0}, {1, 0, 2, 1}, {1, 2, 0, 1}, {2, 0, 1, 2}, {2, 1, 0, 2},
	})
	groups, ok := impl.GroupsOf(append(ring, tl(3, 3)))
	wantLists(t, "groups with 33", groups, ok, [][]int{{0, 1, 2}, {3}})
	star := []tile{tl(0, 1), tl(0, 2), tl(0, 3)}
	longest, ok := impl.LongestChain(star)
	wantNumbers(t, "longest of 01,02,03", longest, ok, []int{1, 0, 2})
	counts, ok := impl.CountByTiles(star)
	wantNumbers(t, "counts of 01,02,03", counts, ok, []int{6, 6, 0})
}

func TestPromise2IsChain(t *testing.T) {
	for _, chain := range chains() {
		if !impl.IsChain(chain) {
			t.Error("a chain is none:", chain)
		}
	}
	for _, chain := range badChains() {
		if impl.IsChain(chain) {
			t.Error("no chain is one:", chain)
		}
	}
	lists := [][]int{nil}
	for range 5 {
		var longer [][]int
		for _, list := range lists {
			if impl.IsChain(list) != isChain(list) {
				t.Error("IsChain", list, !isChain(list))
			}
			for _, number := range []int{-1, 0, 1, 5, 9, 10} {
				longer = append(longer, append(slices.Clone(list), number))
			}
		}
		lists = longer
	}
}

func TestPromise2TilesAndEnds(t *testing.T) {
	for _, chain := range chains() {
		tiles, ok := impl.TilesOfChain(chain)
		wantTiles(t, "TilesOfChain", tiles, ok, tilesOf(chain))
		front, back, ok := impl.EndsOfChain(chain)
		if front != chain[0] || back != chain[len(chain)-1] || !ok {
			t.Error("EndsOfChain", chain, front, back, ok)
		}
		ring, ok := impl.IsRing(chain)
		if ring != isRing(chain) || !ok {
			t.Error("IsRing", chain, ring, ok)
		}
	}
	tiles, ok := impl.TilesOfChain([]int{4})
	wantTiles(t, "tiles of one number", tiles, ok, nil)
	tiles, ok = impl.TilesOfChain([]int{9, 2, 2, 0})
	wantTiles(t, "tiles of 9, 2, 2, 0", tiles, ok, []tile{tl(2, 9), tl(2, 2), tl(0, 2)})
	if len(longChain()) != 52 || len(longRing()) != 46 {
		t.Error("the greatest chains have", len(longChain()), len(longRing()))
	}
}

func TestPromise2Rings(t *testing.T) {
	for _, c := range []struct {
		chain []int
		ring  bool
	}{{[]int{0}, false}, {[]int{1, 1}, true}, {[]int{0, 1}, false}, {[]int{0, 1, 2, 0}, true},
		{[]int{0, 1, 1, 0}, false}, {[]int{0, 1, 2, 0, 3}, false}, {[]int{0, 0, 1}, false}, {longRing(), true}} {
		ring, ok := impl.IsRing(c.chain)
		if c.ring != (ring && ok) || ok != isChain(c.chain) {
			t.Error("IsRing", c.chain, ring, ok)
		}
	}
}

func TestPromise2TurnChain(t *testing.T) {
	for _, chain := range chains() {
		want := slices.Clone(chain)
		slices.Reverse(want)
		turned, ok := impl.TurnChain(chain)
		wantNumbers(t, "TurnChain", turned, ok, want)
		tiles, ok := impl.TilesOfChain(turned)
		wantTiles(t, "tiles turned", tiles, ok, reversed(tilesOf(chain)))
		back, ok := impl.TurnChain(turned)
		wantNumbers(t, "TurnChain twice", back, ok, chain)
	}
}

func TestPromise2SpinRing(t *testing.T) {
	for _, chain := range chains() {
		many := len(chain) - 1
		for k := range many {
			spun, ok := impl.SpinRing(chain, k)
			if !isRing(chain) {
				wantNothing(t, "SpinRing of no ring", len(spun) == 0, ok)
				continue
			}
			wantNumbers(t, "SpinRing", spun, ok, append(slices.Clone(chain[k:many]), chain[:k+1]...))
			tiles, ok := impl.TilesOfChain(spun)
			wantTiles(t, "tiles spun", tiles, ok, append(tilesOf(chain)[k:], tilesOf(chain)[:k]...))
			back, ok := impl.SpinRing(spun, (many-k)%many)
			wantNumbers(t, "SpinRing and back", back, ok, chain)
		}
		for _, k := range []int{math.MinInt, -many, -1, many, many + 1, 2*many + 60, math.MaxInt} {
			spun, ok := impl.SpinRing(chain, k)
			wantNothing(t, "SpinRing with the index "+strconv.Itoa(k), len(spun) == 0, ok)
		}
	}
	spun, ok := impl.SpinRing([]int{0, 1, 1, 2, 0}, 2)
	wantNumbers(t, "0, 1, 1, 2, 0 spun by 2", spun, ok, []int{1, 2, 0, 1, 1})
	spun, ok = impl.SpinRing([]int{3}, 0)
	wantNothing(t, "one number spun", len(spun) == 0, ok)
}

func TestPromise2JoinChains(t *testing.T) {
	for _, a := range chains() {
		for _, b := range chains() {
			want := append(slices.Clone(a), b[1:]...)
			joined, ok := impl.JoinChains(a, b)
			if a[len(a)-1] != b[0] || !isChain(want) {
				wantNothing(t, "JoinChains", len(joined) == 0, ok)
				continue
			}
			wantNumbers(t, "JoinChains", joined, ok, want)
			tiles, ok := impl.TilesOfChain(joined)
			wantTiles(t, "tiles joined", tiles, ok, append(tilesOf(a), tilesOf(b)...))
		}
	}
	joined, ok := impl.JoinChains([]int{0, 1}, []int{1, 1, 2})
	wantNumbers(t, "0, 1 and 1, 1, 2", joined, ok, []int{0, 1, 1, 2})
	joined, ok = impl.JoinChains([]int{3}, []int{3})
	wantNumbers(t, "3 and 3", joined, ok, []int{3})
	for _, pair := range [][2][]int{
		{{0, 1}, {0, 2}}, {{0, 1}, {2, 3}}, {{0, 1}, {2, 1}}, {{0, 1}, {1, 0}}, {{1, 1}, {1, 1}}, {{0, 1, 2}, {2, 3, 1, 0}}, {{0}, {1}},
	} {
		joined, ok = impl.JoinChains(pair[0], pair[1])
		wantNothing(t, "chains that cannot be joined", len(joined) == 0, ok)
	}
}

func TestPromise2LayTile(t *testing.T) {
	for _, chain := range chains() {
		for _, x := range fullHand() {
			for _, front := range []bool{true, false} {
				var want []int
				for _, other := range []int{x.Low, x.High} {
					longer := append(slices.Clone(chain), other)
					if front {
						longer = append([]int{other}, chain...)
					}
					if isChain(longer) && has(tilesOf(longer), x) && !has(tilesOf(chain), x) {
						want = longer
					}
				}
				laid, ok := impl.LayTile(chain, x, front)
				if want == nil {
					wantNothing(t, "LayTile", len(laid) == 0, ok)
					continue
				}
				wantNumbers(t, "LayTile", laid, ok, want)
			}
		}
		for _, bad := range []tile{tl(2, 1), tl(chain[0], -1), tl(-1, chain[0]), tl(chain[0], 10), tl(10, chain[0]), tl(9, 0), tl(math.MaxInt, math.MaxInt)} {
			for _, front := range []bool{true, false} {
				laid, ok := impl.LayTile(chain, bad, front)
				wantNothing(t, "LayTile of no tile", len(laid) == 0, ok)
			}
		}
	}
}

func TestPromise2LayTileTold(t *testing.T) {
	chain := []int{0, 1, 2}
	laid, ok := impl.LayTile(chain, tl(0, 2), true)
	wantNumbers(t, "02 in front", laid, ok, []int{2, 0, 1, 2})
	laid, ok = impl.LayTile(chain, tl(0, 2), false)
	wantNumbers(t, "02 behind", laid, ok, []int{0, 1, 2, 0})
	laid, ok = impl.LayTile(chain, tl(2, 2), false)
	wantNumbers(t, "22 behind", laid, ok, []int{0, 1, 2, 2})
	laid, ok = impl.LayTile([]int{7}, tl(3, 7), true)
	wantNumbers(t, "37 in front of 7", laid, ok, []int{3, 7})
	for _, x := range []tile{tl(2, 3), tl(0, 1), tl(1, 1), tl(2, 0)} {
		laid, ok = impl.LayTile(chain, x, true)
		wantNothing(t, "a tile that does not fit in front", len(laid) == 0, ok)
	}
}

func TestPromise2FittingTiles(t *testing.T) {
	for _, chain := range chains() {
		front, back := chain[0], chain[len(chain)-1]
		for _, hand := range hands() {
			got, ok := impl.FittingTiles(chain, hand)
			wantTiles(t, "FittingTiles", got, ok, picked(func(x tile) bool {
				fits := x.Low == front || x.High == front || x.Low == back || x.High == back
				return fits && has(hand, x) && !has(tilesOf(chain), x)
			}))
		}
	}
	got, ok := impl.FittingTiles([]int{0, 1, 2}, []tile{tl(2, 5), tl(1, 3), tl(1, 2), tl(2, 2), tl(0, 4)})
	wantTiles(t, "fitting 0, 1, 2", got, ok, []tile{tl(0, 4), tl(2, 2), tl(2, 5)})
}

func TestPromise2PutDoubles(t *testing.T) {
	for _, chain := range chains() {
		for _, hand := range hands() {
			var want []int
			for i, number := range chain {
				double := tl(number, number)
				if !slices.Contains(chain[:i], number) && has(hand, double) && !has(tilesOf(chain), double) {
					want = append(want, number)
				}
				want = append(want, number)
			}
			put, ok := impl.PutDoubles(chain, hand)
			wantNumbers(t, "PutDoubles", put, ok, want)
			if !isChain(put) {
				t.Error("PutDoubles has made no chain:", put)
			}
		}
	}
	all := fullHand()
	put, ok := impl.PutDoubles([]int{2, 1, 1, 0, 2}, all)
	wantNumbers(t, "doubles put into 2, 1, 1, 0, 2", put, ok, []int{2, 2, 1, 1, 0, 0, 2})
	put, ok = impl.PutDoubles([]int{6}, all)
	wantNumbers(t, "doubles put into 6", put, ok, []int{6, 6})
	put, ok = impl.PutDoubles([]int{6}, []tile{tl(5, 5), tl(6, 7)})
	wantNumbers(t, "no double put into 6", put, ok, []int{6})
}

func TestPromise2DropDoubles(t *testing.T) {
	for _, chain := range chains() {
		var want []int
		for i, number := range chain {
			if i == 0 || chain[i-1] != number {
				want = append(want, number)
			}
		}
		dropped, ok := impl.DropDoubles(chain)
		wantNumbers(t, "DropDoubles", dropped, ok, want)
		put, _ := impl.PutDoubles(dropped, fullHand())
		again, ok := impl.DropDoubles(put)
		wantNumbers(t, "doubles put and dropped", again, ok, want)
	}
	dropped, ok := impl.DropDoubles([]int{4, 4})
	wantNumbers(t, "4, 4 without doubles", dropped, ok, []int{4})
}

func TestPromise2GroupsOf(t *testing.T) {
	for _, hand := range append(hands(), smallHands()...) {
		var near [10][10]bool
		for _, x := range hand {
			near[x.Low][x.High], near[x.High][x.Low] = true, true
			near[x.Low][x.Low], near[x.High][x.High] = true, true
		}
		for via := range near {
			for a := range near {
				for b := range near {
					near[a][b] = near[a][b] || near[a][via] && near[via][b]
				}
			}
		}
		var want [][]int
		for a, row := range near {
			var group []int
			for b := range row {
				if row[b] {
					group = append(group, b)
				}
			}
			if len(group) > 0 && group[0] == a {
				want = append(want, group)
			}
		}
		got, ok := impl.GroupsOf(hand)
		wantLists(t, "GroupsOf", got, ok, want)
	}
	got, ok := impl.GroupsOf([]tile{tl(8, 9), tl(3, 7), tl(0, 9), tl(1, 1), tl(2, 7), tl(2, 4)})
	wantLists(t, "groups told", got, ok, [][]int{{0, 8, 9}, {1}, {2, 3, 4, 7}})
	got, ok = impl.GroupsOf(nil)
	wantLists(t, "groups of no tiles", got, ok, nil)
	got, ok = impl.GroupsOf(fullHand())
	wantLists(t, "groups of all tiles", got, ok, [][]int{{0, 1, 2, 3, 4, 5, 6, 7, 8, 9}})
}

func TestPromise2ChainsOfHands(t *testing.T) {
	for _, hand := range smallHands() {
		byTiles := chainsByTiles(hand)
		var all [][]int
		var counts []int
		longest := []int{0}
		for _, list := range byTiles {
			all = list
			counts = append(counts, len(list))
			if len(list) > 0 {
				longest = list[0]
			}
		}
		gotAll, ok := impl.AllChains(hand)
		wantLists(t, "AllChains", gotAll, ok, all)
		gotCounts, ok := impl.CountByTiles(hand)
		wantNumbers(t, "CountByTiles", gotCounts, ok, counts)
		gotLongest, ok := impl.LongestChain(hand)
		wantNumbers(t, "LongestChain", gotLongest, ok, longest)
		for _, chain := range gotAll {
			tiles, ok := impl.TilesOfChain(chain)
			sorted, _ := impl.SortHand(tiles)
			wantTiles(t, "tiles of a chain of all", sorted, ok, picked(func(x tile) bool { return has(hand, x) }))
		}
	}
}

func TestPromise2ChainsOfNoTiles(t *testing.T) {
	all, ok := impl.AllChains(nil)
	wantLists(t, "chains of no tiles", all, ok, nil)
	counts, ok := impl.CountByTiles(nil)
	wantNumbers(t, "counts of no tiles", counts, ok, nil)
	longest, ok := impl.LongestChain(nil)
	wantNumbers(t, "longest of no tiles", longest, ok, []int{0})
}

func TestPromise2ChainsOfPiecesApart(t *testing.T) {
	apart := []tile{tl(7, 8), tl(3, 3), tl(5, 6), tl(6, 8)}
	all, ok := impl.AllChains(apart)
	wantLists(t, "chains of tiles apart", all, ok, nil)
	counts, ok := impl.CountByTiles(apart)
	wantNumbers(t, "counts of tiles apart", counts, ok, []int{7, 4, 2, 0})
	longest, ok := impl.LongestChain(apart)
	wantNumbers(t, "longest of tiles apart", longest, ok, []int{5, 6, 8, 7})
	doubles := []tile{tl(5, 5), tl(3, 3)}
	counts, ok = impl.CountByTiles(doubles)
	wantNumbers(t, "counts of two doubles", counts, ok, []int{2, 0})
	longest, ok = impl.LongestChain(doubles)
	wantNumbers(t, "longest of two doubles", longest, ok, []int{3, 3})
}

func TestPromise2Limits(t *testing.T) {
	if impl.MaxChained != 8 || impl.MaxChains != 300 {
		t.Error("the limits are", impl.MaxChained, impl.MaxChains)
	}
	all, ok := impl.AllChains(manyChains())
	if len(all) != 192 || !ok {
		t.Error("most chains of 8 tiles", len(all), ok)
	}
	for _, hand := range [][]tile{fullHand(), fullHand()[:9], append(manyChains(), tl(5, 6)), reversed(fullHand()[40:])} {
		all, ok := impl.AllChains(hand)
		wantNothing(t, "AllChains of too many tiles", len(all) == 0, ok)
		counts, ok := impl.CountByTiles(hand)
		wantNothing(t, "CountByTiles of too many tiles", len(counts) == 0, ok)
		longest, ok := impl.LongestChain(hand)
		wantNothing(t, "LongestChain of too many tiles", len(longest) == 0, ok)
	}
}

func TestPromise2TextsAreReadBack(t *testing.T) {
	for _, chain := range chains() {
		want := ""
		for _, number := range chain {
			want += strconv.Itoa(number)
		}
		text, ok := impl.ChainText(chain)
		if text != want || !ok {
			t.Errorf("ChainText: got %q, %v, want %q", text, ok, want)
		}
		back, ok := impl.ParseChain(text)
		wantNumbers(t, "ParseChain", back, ok, chain)
	}
}

func TestPromise2BadTexts(t *testing.T) {
	long, _ := impl.ChainText(longChain())
	bad := []string{
		"", "-", " ", "0 ", " 0", "0 1", "0,1", "01,12", "0\n", "\n", "0\x00", "a", "0a", ".", "0.1", "-1", "+1", "/", ":", "0/", "0:",
		"\xff", "0\xff", "٠", "010", "000", "111", "01201", "0121",
		long + "9", long + "\n", long + long, strings.Repeat("0", 57), strings.Repeat("0123456789", 1<<14),
	}
	for _, text := range bad {
		chain, ok := impl.ParseChain(text)
		wantNothing(t, "ParseChain of "+strconv.Quote(text[:min(len(text), 20)]), len(chain) == 0, ok)
	}
}

func TestPromise2AllTextsOfTwoBytes(t *testing.T) {
	for a := range 256 {
		for b := range 256 {
			text := string([]byte{byte(a), byte(b)})
			want := '0' <= a && a <= '9' && '0' <= b && b <= '9'
			chain, ok := impl.ParseChain(text)
			if ok != want || want && !slices.Equal(chain, []int{a - '0', b - '0'}) || !want && len(chain) > 0 {
				t.Errorf("ParseChain(%q): got %v, %v", text, chain, ok)
			}
		}
	}
}
