package tests

import (
	"math"
	"slices"
	"testing"

	"loop.example/g01216/impl"
)

// Promise 4: spreads grow at their arms, and points are those of the sums of ends.

func TestPromise4Example(t *testing.T) {
	plays := []play{pl(5, 5, 0), pl(5, 6, 1)}
	arms, ok := impl.ArmsOf(plays)
	wantArms(t, "arms of two plays", arms, ok, []impl.Arm{{End: 5, Double: true}, {End: 6}})
	sum, ok := impl.SumOfEnds(plays)
	wantNumber(t, "sum of ends of two plays", sum, ok, 16)
	plays = append(plays, pl(0, 5, 0))
	arms, ok = impl.ArmsOf(plays)
	wantArms(t, "arms of three plays", arms, ok, []impl.Arm{{End: 0}, {End: 6}, {End: 5, Side: true}, {End: 5, Side: true}})
	sum, ok = impl.SumOfEnds(plays)
	wantNumber(t, "sum of ends of three plays", sum, ok, 6)
	spinner, ok := impl.SpinnerOf(plays)
	wantNumber(t, "spinner", spinner, ok, 5)
	line, ok := impl.LineOf([]int{2, 1, 4})
	wantPlays(t, "line of 2, 1, 4", line, ok, []play{pl(1, 2, 0), pl(1, 4, 0)})
	text, ok := impl.SpreadText(line)
	wantText(t, "text of the line", text, ok, "12@0,14@0")
}

func TestPromise4NoTiles(t *testing.T) {
	for _, plays := range [][]play{nil, {}} {
		if !impl.IsSpread(plays) {
			t.Error("no plays are no spread")
		}
		arms, ok := impl.ArmsOf(plays)
		wantArms(t, "ArmsOf", arms, ok, nil)
		tiles, ok := impl.LaidTiles(plays)
		wantTiles(t, "LaidTiles", tiles, ok, nil)
		spinner, ok := impl.SpinnerOf(plays)
		wantNothing(t, "SpinnerOf", spinner == 0, ok)
		numbers, ok := impl.OpenNumbers(plays)
		wantNumbers(t, "OpenNumbers", numbers, ok, nil)
		for _, f := range []func([]play) (int, bool){impl.SumOfEnds, impl.FivesOf, impl.AllFives} {
			number, ok := f(plays)
			wantNumber(t, "a number", number, ok, 0)
		}
		all, ok := impl.PlaysFor(plays, []tile{tl(5, 6), tl(0, 9), tl(5, 5)})
		wantPlays(t, "PlaysFor", all, ok, []play{pl(0, 9, 0), pl(5, 5, 0), pl(5, 6, 0)})
		can, ok := impl.CanPlay(plays, []tile{tl(5, 6)})
		wantBool(t, "CanPlay", can, ok, true)
		can, ok = impl.CanPlay(plays, nil)
		wantBool(t, "CanPlay without tiles", can, ok, false)
		added, ok := impl.AddPlay(plays, pl(5, 6, 0))
		wantPlays(t, "AddPlay", added, ok, []play{pl(5, 6, 0)})
		added, ok = impl.AddPlay(plays, pl(5, 6, 1))
		wantNothing(t, "AddPlay at the arm 1", len(added) == 0, ok)
		back, ok := impl.TakeBack(plays, 0)
		wantPlays(t, "TakeBack", back, ok, nil)
		back, ok = impl.TakeBack(plays, 1)
		wantNothing(t, "TakeBack of a play", len(back) == 0, ok)
		renamed, ok := impl.RenameSpread(plays, goodNames()[1])
		wantPlays(t, "RenameSpread", renamed, ok, nil)
		text, ok := impl.SpreadText(plays)
		wantText(t, "SpreadText", text, ok, "-")
	}
}

// TestPromise4Told: spreads play by play, with arms and sums of ends told.
func TestPromise4Told(t *testing.T) {
	for _, c := range []struct {
		text, arms  string
		sum, points int
	}{
		{"05@0", "0 5", 5, 5},
		{"12@0", "1 2", 3, 0},
		{"55@0", "5d 5d", 10, 10},
		{"33@0", "3d 3d", 6, 0},
		{"00@0", "0d 0d", 0, 0},
		{"55@0,56@1", "5d 6", 16, 0},
		{"55@0,56@0", "6 5d", 16, 0},
		{"55@0,05@1", "5d 0", 10, 10},
		{"55@0,56@1,66@1", "5d 6d", 22, 0},
		{"55@0,56@1,67@1", "5d 7", 17, 0},
		{"55@0,56@1,05@0", "0 6 5s 5s", 6, 0},
		{"55@0,05@0,56@1", "0 6 5s 5s", 6, 0},
		{"55@0,56@1,66@1,05@0", "0 6d 5s 5s", 12, 0},
		{"55@0,56@1,05@0,15@2", "0 6 1 5s", 7, 0},
		{"55@0,56@1,05@0,45@3", "0 6 5s 4", 10, 10},
		{"55@0,56@1,05@0,15@2,11@2", "0 6 1d 5s", 8, 0},
		{"55@0,56@1,05@0,15@2,35@3", "0 6 1 3", 10, 10},
		{"55@0,56@1,05@0,15@2,35@3,13@2", "0 6 3 3", 12, 0},
		{"25@0,55@1", "2 5d", 12, 0},
		{"25@0,55@1,24@0", "4 5d", 14, 0},
		{"25@0,55@1,59@1", "2 9 5s 5s", 11, 0},
		{"25@0,55@1,59@1,35@3", "2 9 5s 3", 14, 0},
		{"25@0,55@1,59@1,35@3,45@2", "2 9 4 3", 18, 0},
		{"25@0,22@0", "2d 5", 9, 0},
		{"25@0,22@0,55@1", "2d 5d", 14, 0},
		{"25@0,22@0,55@1,59@1", "2d 9", 13, 0},
		{"25@0,22@0,55@1,59@1,24@0", "4 9 2s 2s", 13, 0},
		{"25@0,22@0,24@0,55@1", "4 5d 2s 2s", 14, 0},
		{"25@0,55@1,59@1,99@1", "2 9d 5s 5s", 20, 20},
		{"00@0,01@1,02@0", "2 1 0s 0s", 3, 0},
		{"12@0,02@1,01@0", "0 0", 0, 0},
	} {
		plays := spread(c.text)
		if !impl.IsSpread(plays) {
			t.Error("no spread:", c.text)
		}
		arms, ok := impl.ArmsOf(plays)
		wantText(t, "arms of "+c.text, armsText(arms), ok, c.arms)
		sum, ok := impl.SumOfEnds(plays)
		wantNumber(t, "sum of ends of "+c.text, sum, ok, c.sum)
		points, ok := impl.FivesOf(plays)
		wantNumber(t, "points of "+c.text, points, ok, c.points)
		text, ok := impl.SpreadText(plays)
		wantText(t, "SpreadText", text, ok, c.text)
	}
}

// TestPromise4Spreads holds everything that is told of a spread against the test's own ways.
func TestPromise4Spreads(t *testing.T) {
	for _, plays := range spreads() {
		wantToldOf(t, plays)
	}
}

func wantToldOf(t *testing.T, plays []play) {
	t.Helper()
	if !impl.IsSpread(plays) {
		t.Fatal("no spread:", plays)
	}
	arms, ok := impl.ArmsOf(plays)
	wantArms(t, "ArmsOf", arms, ok, armsOf(plays))
	tiles, ok := impl.LaidTiles(plays)
	wantTiles(t, "LaidTiles", tiles, ok, tilesLaid(plays))
	spinner, ok := impl.SpinnerOf(plays)
	if at := spinnerAt(plays); at < 0 {
		wantNothing(t, "SpinnerOf", spinner == 0, ok)
	} else {
		wantNumber(t, "SpinnerOf", spinner, ok, plays[at].Tile.Low)
	}
	var open []int
	for number := range 10 {
		if slices.ContainsFunc(arms, func(arm impl.Arm) bool { return arm.End == number }) {
			open = append(open, number)
		}
	}
	numbers, ok := impl.OpenNumbers(plays)
	wantNumbers(t, "OpenNumbers", numbers, ok, open)
	sum, ok := impl.SumOfEnds(plays)
	wantNumber(t, "SumOfEnds", sum, ok, sumOf(plays))
	points, ok := impl.FivesOf(plays)
	wantNumber(t, "FivesOf", points, ok, pointsOf(plays))
	fives, ok := impl.AllFives(plays)
	wantNumber(t, "AllFives", fives, ok, fivesFrom(plays, 0))
}

// TestPromise4AllSpreads takes every spread of the set of 2, each grown from the one before it, and all plays at each.
func TestPromise4AllSpreads(t *testing.T) {
	set := setOf(2)
	var grow func(plays []play)
	grow = func(plays []play) {
		wantToldOf(t, plays)
		all, ok := impl.PlaysFor(plays, reversed(set))
		wantPlays(t, "PlaysFor", all, ok, playsOn(plays, set))
		for _, x := range set {
			for arm := -1; arm <= 4; arm++ {
				p := play{Tile: x, Arm: arm}
				added, ok := impl.AddPlay(plays, p)
				if !touches(plays, p) {
					wantNothing(t, "AddPlay", len(added) == 0, ok)
					continue
				}
				wantPlays(t, "AddPlay", added, ok, more(plays, p))
			}
		}
		for _, p := range all {
			if !t.Failed() {
				grow(more(plays, p))
			}
		}
	}
	grow(nil)
}

// TestPromise4AllShortLists takes every list of up to three plays with the tiles of the set of 1 and one more, spread or not.
func TestPromise4AllShortLists(t *testing.T) {
	var every []play
	for _, x := range append(setOf(1), tl(1, 2), tl(1, 0)) {
		for arm := -1; arm <= 4; arm++ {
			every = append(every, play{Tile: x, Arm: arm})
		}
	}
	lists := [][]play{nil}
	for range 3 {
		var longer [][]play
		for _, plays := range lists {
			for _, p := range every {
				next := more(plays, p)
				if impl.IsSpread(next) != isSpread(next) {
					t.Error("IsSpread of", next, "is not", isSpread(next))
				}
				longer = append(longer, next)
			}
		}
		lists = longer
	}
}

func TestPromise4IsSpread(t *testing.T) {
	for _, plays := range badSpreads() {
		if isSpread(plays) || impl.IsSpread(plays) {
			t.Error("a spread:", plays)
		}
	}
}

func TestPromise4OpenNumbers(t *testing.T) {
	for text, want := range map[string][]int{
		"05@0":                     {0, 5},
		"05@0,05@1":                nil,
		"55@0":                     {5},
		"55@0,56@0":                {5, 6},
		"55@0,56@1,05@0":           {0, 5, 6},
		"55@0,56@1,05@0,15@2,35@3": {0, 1, 3, 6},
		"12@0,23@1,13@1":           {1},
		"29@0,09@1":                {0, 2},
	} {
		numbers, ok := impl.OpenNumbers(spread(text))
		if want == nil {
			wantNothing(t, "OpenNumbers of "+text, len(numbers) == 0, ok)
			continue
		}
		wantNumbers(t, "OpenNumbers of "+text, numbers, ok, want)
	}
}

func TestPromise4AllFives(t *testing.T) {
	for text, want := range map[string]int{
		"55@0":                     10,
		"55@0,05@0":                20,
		"55@0,56@1,05@0":           10,
		"55@0,56@1,05@0,45@3":      20,
		"12@0":                     0,
		"05@0,55@1,56@1":           15,
		"25@0,55@1,59@1,99@1,05@2": 40,
	} {
		fives, ok := impl.AllFives(spread(text))
		wantNumber(t, "AllFives of "+text, fives, ok, want)
	}
}

func TestPromise4PlaysFor(t *testing.T) {
	for _, plays := range spreads() {
		for _, hand := range append(hands(), tilesLaid(plays)) {
			want := playsOn(plays, hand)
			all, ok := impl.PlaysFor(plays, hand)
			wantPlays(t, "PlaysFor", all, ok, want)
			can, ok := impl.CanPlay(plays, hand)
			wantBool(t, "CanPlay", can, ok, len(want) > 0)
		}
	}
	for _, c := range []struct{ text, hand, want string }{
		{"55@0", "05", "05@0,05@1"},
		{"55@0,56@1,05@0", "03,05,15,66", "03@0,15@2,15@3,66@1"},
		{"55@0,56@1,05@0", "56", "-"},
		{"55@0,56@1,05@0", "12,78", "-"},
		{"55@0,56@1,05@0", "-", "-"},
		{"12@0,23@1,13@1", "15,11,01", "01@0,01@1,11@0,11@1,15@0,15@1"},
		{"26@0", "26,22,66,02", "02@0,22@0,66@1"},
	} {
		hand, _ := impl.ParseHand(c.hand)
		all, ok := impl.PlaysFor(spread(c.text), hand)
		wantPlays(t, "PlaysFor "+c.text, all, ok, spread(c.want))
		can, ok := impl.CanPlay(spread(c.text), hand)
		wantBool(t, "CanPlay "+c.text, can, ok, c.want != "-")
	}
}

func TestPromise4AddAndTakeBack(t *testing.T) {
	for _, plays := range spreads() {
		grownAgain := []play(nil)
		for i, p := range plays {
			added, ok := impl.AddPlay(plays[:i], p)
			wantPlays(t, "AddPlay", added, ok, plays[:i+1])
			grownAgain = added
			back, ok := impl.TakeBack(plays, i)
			wantPlays(t, "TakeBack", back, ok, plays[:len(plays)-i])
		}
		if !slices.Equal(grownAgain, plays) {
			t.Error("grown again:", grownAgain, "in place of", plays)
		}
		back, ok := impl.TakeBack(plays, len(plays))
		wantPlays(t, "TakeBack of all plays", back, ok, nil)
		for _, n := range []int{-1, math.MinInt, len(plays) + 1, len(plays) + 2, 100, math.MaxInt} {
			back, ok := impl.TakeBack(plays, n)
			wantNothing(t, "TakeBack of a bad number", len(back) == 0, ok)
		}
		for _, x := range append(fullHand(), tl(1, 0), tl(0, 10), tl(-1, 5), tl(5, -1)) {
			for _, arm := range []int{math.MinInt, -1, 0, 1, 2, 3, 4, math.MaxInt} {
				p := play{Tile: x, Arm: arm}
				added, ok := impl.AddPlay(plays, p)
				if len(plays) < 28 && touches(plays, p) {
					wantPlays(t, "AddPlay", added, ok, more(plays, p))
				} else {
					wantNothing(t, "AddPlay of a bad play", len(added) == 0, ok)
				}
			}
		}
	}
}

func TestPromise4BestPlay(t *testing.T) {
	for _, plays := range spreads() {
		for _, hand := range append(hands(), orderedHands()...) {
			all := playsOn(plays, hand)
			p, points, ok := impl.BestPlay(plays, hand)
			if len(all) == 0 {
				wantNothing(t, "BestPlay", p == play{} && points == 0, ok)
				continue
			}
			best := all[0]
			for _, other := range all {
				if pointsOf(more(plays, other)) > pointsOf(more(plays, best)) {
					best = other
				}
			}
			wantNumber(t, "points of BestPlay", points, ok, pointsOf(more(plays, best)))
			wantPlays(t, "BestPlay", []play{p}, ok, []play{best})
		}
	}
	for _, c := range []struct {
		text, hand, want string
		points           int
	}{
		{"-", "55,46,05", "46@0", 10},
		{"-", "55,12", "55@0", 10},
		{"-", "34,13,12", "12@0", 0},
		{"-", "00", "00@0", 0},
		{"55@0", "05,56", "05@0", 10},
		{"55@0,56@1", "05,15,45,66", "45@0", 10},
		{"55@0,56@1", "66,15,05", "05@0", 0},
		{"55@0,56@1,05@0", "45,15,66", "45@2", 10},
	} {
		hand, _ := impl.ParseHand(c.hand)
		p, points, ok := impl.BestPlay(spread(c.text), hand)
		wantNumber(t, "points of BestPlay "+c.text, points, ok, c.points)
		wantPlays(t, "BestPlay "+c.text, []play{p}, ok, spread(c.want))
	}
	for _, c := range []struct{ text, hand string }{{"-", "-"}, {"55@0", "-"}, {"55@0", "55"}, {"55@0", "12,66"}} {
		hand, _ := impl.ParseHand(c.hand)
		p, points, ok := impl.BestPlay(spread(c.text), hand)
		wantNothing(t, "BestPlay of none", p == play{} && points == 0, ok)
	}
}

func TestPromise4MostFives(t *testing.T) {
	for _, plays := range spreads() {
		for _, hand := range orderedHands() {
			want, wantPoints := mostOf(plays, hand)
			list, points, ok := impl.MostFives(plays, hand)
			wantPlays(t, "MostFives", list, ok, want)
			wantNumber(t, "points of MostFives", points, ok, wantPoints)
			together, ok := impl.AllFives(slices.Concat(plays, list))
			wantNumber(t, "AllFives with MostFives", together, ok, fivesFrom(plays, 0)+points)
			again, _, ok := impl.MostFives(plays, reversed(hand))
			wantPlays(t, "MostFives of another order", again, ok, list)
		}
	}
	for _, c := range []struct {
		text, hand, want string
		points           int
	}{
		{"-", "-", "-", 0},
		{"-", "12", "-", 0},
		{"-", "00,12", "-", 0},
		{"-", "05,55", "55@0,05@0", 20},
		{"-", "46,19", "19@0", 10},
		{"-", "19,46,12", "19@0", 10},
		{"-", "05,12", "05@0", 5},
		{"55@0", "05", "05@0", 10},
		{"55@0,05@0", "56,66,78", "-", 0},
		{"55@0,56@1,05@0", "12,78", "-", 0},
	} {
		hand, _ := impl.ParseHand(c.hand)
		list, points, ok := impl.MostFives(spread(c.text), hand)
		wantPlays(t, "MostFives "+c.text+" "+c.hand, list, ok, spread(c.want))
		wantNumber(t, "points of MostFives "+c.text+" "+c.hand, points, ok, c.points)
	}
}

func TestPromise4LineOf(t *testing.T) {
	for _, chain := range chains() {
		line, ok := impl.LineOf(chain)
		if len(chain) == 1 || len(chain) > 29 {
			wantNothing(t, "LineOf", len(line) == 0, ok)
			continue
		}
		// A first double lies at both arms: the play at the arm 0 is the first one of the two.
		arm := 0
		if chain[0] < chain[1] {
			arm = 1
		}
		want := []play{{Tile: tileOf(chain[0], chain[1])}}
		for i := 2; i < len(chain); i++ {
			want = append(want, play{Tile: tileOf(chain[i-1], chain[i]), Arm: arm})
		}
		wantPlays(t, "LineOf", line, ok, want)
		if !isSpread(line) || armAt(line[:1], arm).End != chain[1] || armAt(line, arm).End != chain[len(chain)-1] {
			t.Error("the line of", chain, "is", line)
		}
	}
	for _, c := range []struct {
		chain []int
		want  string
	}{
		{[]int{0, 1}, "01@0"},
		{[]int{1, 0}, "01@0"},
		{[]int{3, 3}, "33@0"},
		{[]int{1, 2, 4}, "12@0,24@1"},
		{[]int{4, 2, 1}, "24@0,12@0"},
		{[]int{2, 5, 5, 3}, "25@0,55@1,35@1"},
		{[]int{5, 5, 6, 0}, "55@0,56@0,06@0"},
		{[]int{6, 5, 5, 6, 6, 0}, "56@0,55@0,56@0"},
		{[]int{9, 0, 0, 5, 1}, "09@0,00@0,05@0,15@0"},
	} {
		line, ok := impl.LineOf(c.chain)
		if !isChain(c.chain) {
			wantNothing(t, "LineOf of no chain", len(line) == 0, ok)
			continue
		}
		wantPlays(t, "LineOf told", line, ok, spread(c.want))
	}
	for _, chain := range badChains() {
		line, ok := impl.LineOf(chain)
		wantNothing(t, "LineOf of no chain", len(line) == 0, ok)
	}
}

func TestPromise4RenameSpread(t *testing.T) {
	names := goodNames()
	for _, c := range []struct {
		text, want string
		names      []int
	}{
		{"25@0", "47@0", names[1]},
		{"25@0,55@1", "47@0,44@0", names[1]},
		{"25@0,55@1,59@1,35@2,05@3", "47@0,44@0,04@0,46@2,49@3", names[1]},
		{"25@0,24@0,56@1", "47@0,57@1,34@0", names[1]},
		{"55@0,56@1,05@0,15@2", "44@0,34@1,49@0,48@2", names[1]},
		{"25@0,55@1", "36@0,66@1", names[2]},
		{"29@0,12@0", "03@0,23@1", names[2]},
	} {
		renamed, ok := impl.RenameSpread(spread(c.text), c.names)
		wantPlays(t, "RenameSpread of "+c.text, renamed, ok, spread(c.want))
	}
	for _, plays := range spreads() {
		for _, names := range goodNames() {
			renamed, ok := impl.RenameSpread(plays, names)
			if len(plays) == 0 {
				wantPlays(t, "RenameSpread of no plays", renamed, ok, nil)
				continue
			}
			wantRenamed(t, plays, names, renamed, ok)
			back := make([]int, 10)
			for i, name := range names {
				back[name] = i
			}
			again, ok := impl.RenameSpread(renamed, back)
			wantPlays(t, "RenameSpread back", again, ok, plays)
		}
	}
}

// wantRenamed checks a renamed spread by its tiles and by the ends of its arms.
func wantRenamed(t *testing.T, plays []play, names []int, renamed []play, ok bool) {
	t.Helper()
	if !ok || !isSpread(renamed) || len(renamed) != len(plays) {
		t.Fatal("renamed to no spread:", renamed, ok)
	}
	for i, x := range tilesLaid(plays) {
		if renamed[i].Tile != tileOf(names[x.Low], names[x.High]) {
			t.Error("the tile", x, "is renamed", renamed[i].Tile)
		}
	}
	want := armsOf(plays)
	for i := range want {
		want[i].End = names[want[i].End]
	}
	if first := plays[0].Tile; names[first.Low] > names[first.High] {
		want[0], want[1] = want[1], want[0]
	}
	wantArms(t, "arms renamed", armsOf(renamed), ok, want)
}

func TestPromise4MostTiles(t *testing.T) {
	if impl.MaxLaid != 28 || impl.MaxOrdered != 5 {
		t.Error("MaxLaid and MaxOrdered are", impl.MaxLaid, impl.MaxOrdered)
	}
	for _, plays := range longSpreads() {
		wantToldOf(t, plays)
		all, ok := impl.PlaysFor(plays, fullHand())
		wantPlays(t, "PlaysFor 28 plays", all, ok, nil)
		can, ok := impl.CanPlay(plays, fullHand())
		wantBool(t, "CanPlay at 28 plays", can, ok, false)
		last := tooMany(plays)[28]
		added, ok := impl.AddPlay(plays, last)
		wantNothing(t, "AddPlay to 28 plays", len(added) == 0, ok)
		added, ok = impl.AddPlay(plays[:27], plays[27])
		wantPlays(t, "AddPlay to 27 plays", added, ok, plays)
		p, points, ok := impl.BestPlay(plays, fullHand())
		wantNothing(t, "BestPlay at 28 plays", p == play{} && points == 0, ok)
		list, points, ok := impl.MostFives(plays, []tile{last.Tile})
		wantPlays(t, "MostFives at 28 plays", list, ok, nil)
		wantNumber(t, "points of MostFives at 28 plays", points, ok, 0)
		for left := range 4 {
			rest := append(tilesLaid(plays[28-left:]), last.Tile)
			want, wantPoints := mostOf(plays[:28-left], rest)
			list, points, ok = impl.MostFives(plays[:28-left], rest)
			wantPlays(t, "MostFives up to 28 plays", list, ok, want)
			wantNumber(t, "points of MostFives up to 28 plays", points, ok, wantPoints)
		}
	}
	line, ok := impl.LineOf(longRing()[:29])
	if len(line) != 28 || !ok || !impl.IsSpread(line) {
		t.Error("the line of 28 tiles:", line, ok)
	}
	line, ok = impl.LineOf(longRing()[:30])
	wantNothing(t, "LineOf of 29 tiles", len(line) == 0, ok)
}

func TestPromise4MostOrdered(t *testing.T) {
	six := []tile{tl(5, 5), tl(0, 5), tl(1, 5), tl(2, 5), tl(3, 5), tl(4, 5)}
	for _, plays := range [][]play{nil, spread("56@0"), spread("05@0,15@1")} {
		want, wantPoints := mostOf(plays, six[:5])
		list, points, ok := impl.MostFives(plays, six[:5])
		wantPlays(t, "MostFives of 5 tiles", list, ok, want)
		wantNumber(t, "points of MostFives of 5 tiles", points, ok, wantPoints)
		for _, hand := range [][]tile{six, fullHand(), {tl(0, 0), tl(1, 1), tl(2, 2), tl(3, 3), tl(7, 7), tl(8, 8)}} {
			list, points, ok := impl.MostFives(plays, hand)
			wantNothing(t, "MostFives of more tiles", len(list) == 0 && points == 0, ok)
		}
	}
}
