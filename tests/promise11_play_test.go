package tests

import (
	"math"
	"slices"
	"strings"
	"testing"

	"loop.example/g01216/impl"
)

// Promise 11 as far as chapter 7 goes: every function accepts all arguments without panicking and modifies none of them.

// gameCall is a call of a function that takes a game; it tells whether the results but the last one are zero, and the last one.
type gameCall struct {
	name string
	call func(g game) (bool, bool)
}

func textsCall(name string, f func(g game) ([]string, bool)) gameCall {
	return gameCall{name, func(g game) (bool, bool) {
		got, ok := f(g)
		return len(got) == 0, ok
	}}
}

func countCall(name string, f func(g game) (int, bool)) gameCall {
	return gameCall{name, func(g game) (bool, bool) {
		got, ok := f(g)
		return got == 0, ok
	}}
}

func boolCall(name string, f func(g game) (bool, bool)) gameCall {
	return gameCall{name, func(g game) (bool, bool) {
		got, ok := f(g)
		return !got, ok
	}}
}

func nextCall(name string, f func(g game) (game, bool)) gameCall {
	return gameCall{name, func(g game) (bool, bool) {
		got, ok := f(g)
		return noGame(got), ok
	}}
}

// everyGameCalls are calls of chapter 7 that succeed for every game.
func everyGameCalls() []gameCall {
	return []gameCall{
		textsCall("MovesOn", impl.MovesOn),
		textsCall("HeavyLine", impl.HeavyLine),
		boolCall("IsOver", impl.IsOver),
		nextCall("SwapGame", impl.SwapGame),
		nextCall("PlayMoves", func(g game) (game, bool) { return impl.PlayMoves(g, nil) }),
	}
}

// searchedCalls are all calls of chapter 7 that look at all games.
func searchedCalls() []gameCall {
	return []gameCall{
		countCall("BestPoints", impl.BestPoints),
		textsCall("BestMoves", impl.BestMoves),
		textsCall("BestLine", impl.BestLine),
		countCall("CountGames", impl.CountGames),
		countCall("LongestGame", impl.LongestGame),
	}
}

// gameCalls are calls of all functions of chapter 7 that take a game.
func gameCalls() []gameCall {
	calls := slices.Concat(everyGameCalls(), searchedCalls(), []gameCall{
		countCall("PointsOf", impl.PointsOf),
		boolCall("CanSweep", impl.CanSweep),
		nextCall("PlayMoves of several", func(g game) (game, bool) { return impl.PlayMoves(g, []string{"01l", "-", "12r"}) }),
	})
	for _, move := range []string{"-", "01l", "12l", "12r", "22l", "02r", "10l", ""} {
		calls = append(calls, nextCall("MakeMove "+move, func(g game) (game, bool) { return impl.MakeMove(g, move) }))
		calls = append(calls, nextCall("PlayMoves "+move, func(g game) (game, bool) { return impl.PlayMoves(g, []string{move}) }))
	}
	return calls
}

func TestPromise11BadGamesFail(t *testing.T) {
	for _, c := range gameCalls() {
		for _, g := range badGames() {
			zero, ok := c.call(g)
			wantNothing(t, c.name, zero, ok)
		}
	}
	for _, c := range everyGameCalls() {
		for _, g := range games() {
			if _, ok := c.call(g); !ok {
				t.Error(c.name, "fails for the game", g)
			}
		}
	}
	// A game that fails leaves nothing behind, also where its result would be true or no 0.
	for _, c := range gameCalls() {
		for _, g := range games() {
			if zero, ok := c.call(g); !ok && !zero {
				t.Error(c.name, "fails with a result for the game", g)
			}
		}
	}
}

func TestPromise11BadHandsOfGamesFail(t *testing.T) {
	for _, bad := range badHands() {
		for _, other := range [][]tile{nil, handOf("34"), bad} {
			g, ok := impl.GameOf(bad, other)
			wantNothing(t, "GameOf a bad first hand", noGame(g), ok)
			g, ok = impl.GameOf(other, bad)
			wantNothing(t, "GameOf a bad second hand", noGame(g), ok)
		}
	}
}

func TestPromise11BadNumbersOfDealsFail(t *testing.T) {
	fails := func(n, each, seed int) {
		t.Helper()
		first, second, ok := impl.DealHands(n, each, seed)
		wantNothing(t, "DealHands", len(first)+len(second) == 0, ok)
	}
	for _, n := range badNumbers {
		for _, each := range []int{0, 1, 7, n} {
			fails(n, each, 0)
			fails(n, each, n)
		}
	}
	for n := range 10 {
		half := len(setOf(n)) / 2
		for _, each := range []int{math.MinInt, math.MinInt + 1, -1 << 62, -1, half + 1, half + 2, 2 * half, 28, 55, 56, 1 << 31, 1<<62 - 1, 1 << 62, 1<<62 + 1, 1<<62 + 3, math.MaxInt} {
			if each > half || each < 0 {
				fails(n, each, 0)
				fails(n, each, 9999)
			}
		}
		for _, seed := range []int{math.MinInt, -10007, -1, 10000, 10006, 10007, 1 << 32, math.MaxInt} {
			fails(n, 0, seed)
			fails(n, half, seed)
		}
	}
}

func TestPromise11BadMovesFail(t *testing.T) {
	for _, g := range games() {
		for _, move := range badMoves() {
			next, ok := impl.MakeMove(g, move)
			wantNothing(t, "MakeMove", noGame(next), ok)
			next, ok = impl.PlayMoves(g, []string{move})
			wantNothing(t, "PlayMoves", noGame(next), ok)
		}
	}
	// All texts of up to three bytes, one of which lays a tile.
	g := gm("01,12,15", "99", "23", 0, 0)
	letters := "0123459lr-Ll,\x00\xff"
	texts := []string{""}
	for range 4 {
		var longer []string
		for _, text := range texts {
			next, ok := impl.MakeMove(g, text)
			if ok != (text == "12l") || !ok && !noGame(next) {
				t.Errorf("MakeMove %q: got %v, %v", text, next, ok)
			}
			for _, letter := range []byte(letters) {
				longer = append(longer, text+string([]byte{letter}))
			}
		}
		texts = longer
	}
}

func TestPromise11GamesStay(t *testing.T) {
	for _, list := range slices.Concat(toldGames(), rowGames()[:60], drawnGames(5)[:100], greatGames(), badGames()) {
		for _, behind := range []tile{tl(7, -7), tl(5, 5)} {
			g := list
			var first, second []tile
			var row []int
			g.First, first = roomy(list.First, behind)
			g.Second, second = roomy(list.Second, behind)
			g.Row, row = roomy(list.Row, behind.Low)
			firstBefore, secondBefore, rowBefore := slices.Clone(first), slices.Clone(second), slices.Clone(row)
			impl.IsGame(g)
			impl.GameOf(g.First, g.Second)
			for _, c := range gameCalls() {
				c.call(g)
				if !slices.Equal(first, firstBefore) || !slices.Equal(second, secondBefore) || !slices.Equal(row, rowBefore) {
					t.Fatal(c.name, "has modified its game", list)
				}
			}
		}
	}
	moves, whole := roomy([]string{"01l", "00l", "12r"}, "22r")
	before := slices.Clone(whole)
	end, ok := impl.PlayMoves(gm("01,12", "22,00", "", 0, 0), moves)
	wantGame(t, "PlayMoves", end, ok, gm("-", "22", "0012", 1, 0))
	if !slices.Equal(whole, before) {
		t.Error("PlayMoves has modified its moves")
	}
}

// TestPromise11RoomBehindGames: what lies behind a list is no part of it.
func TestPromise11RoomBehindGames(t *testing.T) {
	all := handOf("01,12,22,00,45,33")
	g, ok := impl.GameOf(all[:2], all[2:4])
	wantGame(t, "GameOf", g, ok, gm("01,12", "22,00", "", 0, 0))
	row := []int{2, 3, 3, 4, 5}
	moves, ok := impl.MovesOn(game{First: all[:2], Second: all[2:4], Row: row[:2]})
	wantTexts(t, "MovesOn", moves, ok, []string{"12l"})
	next, ok := impl.MakeMove(game{First: all[2:3], Second: all[3:4], Row: row[:2]}, "22l")
	wantGame(t, "MakeMove", next, ok, gm("-", "00", "223", 1, 0))
	sweep, ok := impl.CanSweep(game{First: all[1:3], Second: all[3:4], Row: row[:2]})
	wantBool(t, "CanSweep", sweep, ok, true)
	points, ok := impl.BestPoints(game{First: all[:0], Second: all[:2], Row: row[:2]})
	wantNumber(t, "BestPoints", points, ok, 4)
	count, ok := impl.CountGames(game{First: fullHand()[:4], Second: fullHand()[4:8]})
	if !ok || count == 0 {
		t.Error("CountGames of 8 tiles with more behind them", count, ok)
	}
}

func overwriteTiles(list []tile) {
	list = list[:cap(list)]
	for i := range list {
		list[i] = tl(-1, -1)
	}
}

func overwriteGame(g game) {
	overwriteTiles(g.First)
	overwriteTiles(g.Second)
	overwriteNumbers(g.Row)
}

// TestPromise11GameResultsAreNew: writing into a result, up to its capacity, changes neither an argument nor a later result.
func TestPromise11GameResultsAreNew(t *testing.T) {
	calls := map[string]func(g game) (game, bool){
		"GameOf":            func(g game) (game, bool) { return impl.GameOf(g.First, g.Second) },
		"MakeMove left":     func(g game) (game, bool) { return impl.MakeMove(g, "12l") },
		"MakeMove right":    func(g game) (game, bool) { return impl.MakeMove(g, "45r") },
		"a pass":            func(g game) (game, bool) { g.Turn = 1; return impl.MakeMove(g, "-") },
		"PlayMoves of none": func(g game) (game, bool) { return impl.PlayMoves(g, nil) },
		"PlayMoves":         func(g game) (game, bool) { return impl.PlayMoves(g, []string{"12l", "-", "11l"}) },
		"SwapGame":          impl.SwapGame,
	}
	for name, f := range calls {
		// Both hands lie in one memory, with room behind them.
		whole := handOf("12,11,45,99,88,66,66")
		row, wholeRow := roomy([]int{2, 3, 4}, 5)
		g := game{First: whole[:3], Second: whole[3:5], Row: row}
		before, beforeRow := slices.Clone(whole), slices.Clone(wholeRow)
		first, ok := f(g)
		kept := cloneGame(first)
		wantGame(t, name, first, ok, kept)
		_ = append(first.First, tl(-1, -1))
		_ = append(first.Second, tl(-1, -1))
		_ = append(first.Row, -1)
		wantGame(t, name+" appended to", first, ok, kept)
		overwriteTiles(first.First)
		wantTiles(t, name+", Second beside First", first.Second, ok, kept.Second)
		overwriteGame(first)
		if !slices.Equal(whole, before) || !slices.Equal(wholeRow, beforeRow) {
			t.Error(name, "hands out the memory of its game")
		}
		again, ok := f(g)
		wantGame(t, name+" again", again, ok, kept)
	}
	for range 2 {
		first, second, ok := impl.DealHands(2, 3, 5)
		wantFirst, wantSecond := dealTold(2, 3, 5)
		wantTiles(t, "DealHands", first, ok, wantFirst)
		overwriteTiles(first)
		wantTiles(t, "DealHands beside a hand written into", second, ok, wantSecond)
		overwriteTiles(second)
	}
}

func TestPromise11HugeGames(t *testing.T) {
	tiles, row := make([]tile, 1<<20), make([]int, 1<<20)
	for i := range row {
		row[i] = i % 10
	}
	huge := []game{{First: tiles}, {Second: tiles}, {First: tiles, Second: tiles, Row: row}, {Row: row}, {First: handOf("01"), Second: handOf("12"), Row: row[:1<<16]}}
	for _, g := range huge {
		if impl.IsGame(g) {
			t.Error("a huge game")
		}
		for _, c := range gameCalls() {
			zero, ok := c.call(g)
			wantNothing(t, c.name, zero, ok)
		}
		made, ok := impl.GameOf(g.First, tiles)
		wantNothing(t, "GameOf huge hands", noGame(made), ok)
	}
	g := gm("01,12", "22,00", "", 0, 0)
	next, ok := impl.MakeMove(g, strings.Repeat("01l", 1<<20))
	wantNothing(t, "MakeMove of a huge text", noGame(next), ok)
	next, ok = impl.PlayMoves(g, make([]string, 1<<20))
	wantNothing(t, "PlayMoves of many moves", noGame(next), ok)
	next, ok = impl.PlayMoves(g, slices.Repeat([]string{"-"}, 1<<20))
	wantNothing(t, "PlayMoves of many passes", noGame(next), ok)
}
