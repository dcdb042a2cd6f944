package tests

import (
	"slices"
	"testing"

	"loop.example/g01216/impl"
)

// Promise 7: best moves keep the best points, and games are counted by their moves.

func TestPromise7Example(t *testing.T) {
	g, ok := impl.GameOf(handOf("01,12"), handOf("22,00"))
	wantGame(t, "GameOf", g, ok, gm("01,12", "22,00", "", 0, 0))
	best, ok := impl.BestPoints(g)
	wantNumber(t, "BestPoints", best, ok, 4)
	g, ok = impl.MakeMove(g, "01l")
	wantGame(t, "01l", g, ok, gm("12", "22,00", "01", 1, 0))
	g, ok = impl.MakeMove(g, "00l")
	wantGame(t, "00l", g, ok, gm("12", "22", "001", 0, 0))
	over, ok := impl.IsOver(g)
	wantBool(t, "IsOver", over, ok, false)
	g, ok = impl.MakeMove(g, "12r")
	wantGame(t, "12r", g, ok, gm("-", "22", "0012", 1, 0))
	over, ok = impl.IsOver(g)
	wantBool(t, "IsOver", over, ok, true)
	points, ok := impl.PointsOf(g)
	wantNumber(t, "PointsOf", points, ok, 4)
}

func TestPromise7Limits(t *testing.T) {
	if impl.MaxHeld != 8 {
		t.Error("MaxHeld is", impl.MaxHeld)
	}
}

func TestPromise7IsGame(t *testing.T) {
	for _, g := range games() {
		if !isGame(g) || !impl.IsGame(g) {
			t.Error("no game:", g)
		}
	}
	for _, g := range badGames() {
		if isGame(g) || impl.IsGame(g) {
			t.Error("a game:", g)
		}
	}
	for _, c := range []struct {
		row string
		is  bool
	}{{"", true}, {"0", false}, {"3", false}, {"00", true}, {"03", true}, {"30", true}, {"0334", true}, {"12", false}, {"21", false}, {"0213", false}, {"343", false}, {"333", false}} {
		if g := gm("12,02", "11,22", c.row, 0, 0); impl.IsGame(g) != (c.is) {
			t.Error("a game with the Row", c.row, "is", impl.IsGame(g))
		}
	}
}

func TestPromise7GameOf(t *testing.T) {
	lists := slices.Concat(hands(), badHands(), smallHands())
	lists = append(lists, fullHand()[:27], fullHand()[27:], fullHand()[1:])
	for _, first := range lists {
		for _, second := range lists {
			want := game{First: first, Second: second}
			g, ok := impl.GameOf(first, second)
			if isGame(want) {
				wantGame(t, "GameOf", g, ok, want)
			} else {
				wantNothing(t, "GameOf", noGame(g), ok)
			}
		}
	}
	g, ok := impl.GameOf(nil, nil)
	wantGame(t, "GameOf no tiles", g, ok, game{})
	g, ok = impl.GameOf(handOf("22,01,12"), handOf("99,00"))
	wantGame(t, "GameOf keeps the order of hands", g, ok, gm("22,01,12", "99,00", "", 0, 0))
	g, ok = impl.GameOf(handOf("22,01"), handOf("99,22"))
	wantNothing(t, "GameOf hands that share a tile", noGame(g), ok)
}

func TestPromise7MovesTold(t *testing.T) {
	for _, c := range []struct {
		g     game
		moves []string
	}{
		{gm("22,01,11", "33", "", 0, 0), []string{"01l", "11l", "22l"}},
		{gm("33", "12,02", "", 1, 0), []string{"02l", "12l"}},
		{gm("03,12,22,45", "66", "10", 0, 0), []string{"03r", "12l"}},
		{gm("12,01", "66", "203", 0, 0), []string{"12l"}},
		{gm("12", "66", "1342", 0, 0), []string{"12l", "12r"}},
		{gm("22,11", "66", "1342", 0, 0), []string{"11l", "22r"}},
		{gm("13,11", "66", "1021", 0, 0), []string{"11l", "11r", "13l", "13r"}},
		{gm("66", "13,11", "1021", 1, 1), []string{"11l", "11r", "13l", "13r"}},
		{gm("66", "13,11", "1021", 0, 1), []string{"-"}},
		{gm("01", "66", "11", 0, 0), []string{"01l", "01r"}},
		{gm("99", "88", "12", 1, 0), []string{"-"}},
		{gm("99", "88", "12", 0, 1), []string{"-"}},
		{gm("12", "88", "23", 0, 2), nil},
		{gm("12", "-", "23", 0, 0), nil},
		{gm("-", "12", "23", 1, 0), nil},
		{gm("-", "-", "", 0, 0), nil},
	} {
		moves, ok := impl.MovesOn(c.g)
		wantTexts(t, "MovesOn", moves, ok, c.moves)
	}
}

func TestPromise7MadeTold(t *testing.T) {
	for _, c := range []struct {
		g    game
		move string
		want game
	}{
		{gm("22,12,01", "33", "", 0, 0), "12l", gm("22,01", "33", "12", 1, 0)},
		{gm("33", "22,12,01", "", 1, 0), "22l", gm("33", "12,01", "22", 0, 0)},
		{gm("33,05,12", "07", "23", 0, 1), "12l", gm("33,05", "07", "123", 1, 0)},
		{gm("33,05,12", "07", "5632", 0, 0), "12r", gm("33,05", "07", "56321", 1, 0)},
		{gm("33,05,12", "07", "5632", 0, 0), "05l", gm("33,12", "07", "05632", 1, 0)},
		{gm("12", "07", "1342", 0, 0), "12l", gm("-", "07", "21342", 1, 0)},
		{gm("12", "07", "1342", 0, 0), "12r", gm("-", "07", "13421", 1, 0)},
		{gm("07", "11,25", "1342", 1, 1), "11l", gm("07", "25", "11342", 0, 0)},
		{gm("07", "22,25", "1342", 1, 1), "22r", gm("07", "25", "13422", 0, 0)},
		{gm("99", "88", "12", 0, 0), "-", gm("99", "88", "12", 1, 1)},
		{gm("99", "88", "12", 1, 1), "-", gm("99", "88", "12", 0, 2)},
		{gm("99", "18", "12", 0, 0), "-", gm("99", "18", "12", 1, 1)},
		{gm("99,77", "18,66", "12", 1, 1), "18l", gm("99,77", "66", "812", 0, 0)},
	} {
		g, ok := impl.MakeMove(c.g, c.move)
		wantGame(t, "MakeMove "+c.move, g, ok, c.want)
	}
}

// TestPromise7Moves makes all moves of all games, and tries all others.
func TestPromise7Moves(t *testing.T) {
	none, lays := append(badMoves(), everyMove()...), 0
	for _, g := range games() {
		want := movesTold(g)
		moves, ok := impl.MovesOn(g)
		wantTexts(t, "MovesOn", moves, ok, want)
		for _, move := range none {
			next, ok := impl.MakeMove(g, move)
			if !slices.Contains(want, move) {
				wantNothing(t, "MakeMove "+move, noGame(next), ok)
				continue
			}
			lays++
			wantGame(t, "MakeMove "+move, next, ok, behindTold(g, move))
			if !impl.IsGame(next) {
				t.Error("no game behind", move, next)
			}
		}
	}
	if lays < 1000 {
		t.Error("too few moves:", lays)
	}
}

func TestPromise7NoMoveTold(t *testing.T) {
	for _, c := range []struct {
		g    game
		move string
	}{
		{gm("12", "33", "", 0, 0), "12r"}, {gm("12", "33", "", 0, 0), "21l"}, {gm("12", "33", "", 0, 0), "-"}, {gm("12", "33", "", 0, 0), "33l"}, {gm("12", "33", "", 0, 0), "12"},
		{gm("12,88", "33,24", "01", 0, 0), "12l"}, {gm("12,88", "33,24", "02", 1, 0), "24l"}, {gm("12,88", "33,24", "01", 0, 0), "21r"}, {gm("12,88", "33,24", "01", 0, 0), "88r"},
		{gm("12,88", "33,24", "01", 0, 0), "-"}, {gm("12,88", "33,24", "01", 1, 0), "33l"}, {gm("12,88", "33,24", "01", 1, 0), "12r"}, {gm("12,88", "33,24", "01", 1, 0), "01l"},
		{gm("12,88", "33,24", "01", 0, 2), "12r"}, {gm("12,88", "-", "01", 0, 0), "12r"}, {gm("-", "12,88", "01", 1, 0), "12r"}, {gm("12", "33", "45", 0, 2), "-"}, {gm("-", "-", "", 0, 0), "-"},
	} {
		g, ok := impl.MakeMove(c.g, c.move)
		wantNothing(t, "MakeMove "+c.move, noGame(g), ok)
		g, ok = impl.PlayMoves(c.g, []string{c.move})
		wantNothing(t, "PlayMoves "+c.move, noGame(g), ok)
	}
}

func TestPromise7PlayMoves(t *testing.T) {
	for _, g := range games() {
		now, made := g, []string(nil)
		behind, ok := impl.PlayMoves(g, nil)
		wantGame(t, "PlayMoves of no move", behind, ok, g)
		for !overTold(now) {
			moves := movesTold(now)
			move := moves[len(made)%len(moves)]
			now, made = behindTold(now, move), append(made, move)
			behind, ok = impl.PlayMoves(g, made)
			wantGame(t, "PlayMoves", behind, ok, now)
		}
		for i := range made {
			for _, move := range []string{"", "01", made[i] + " ", "99r", "-"} {
				wrong := slices.Clone(made)
				wrong[i] = move
				if move == made[i] || slices.Contains(movesTold(playedTold(g, made[:i])), move) {
					continue
				}
				behind, ok = impl.PlayMoves(g, wrong)
				wantNothing(t, "PlayMoves with a wrong move", noGame(behind), ok)
			}
		}
		for _, move := range []string{"-", "00l", ""} {
			behind, ok = impl.PlayMoves(g, append(slices.Clone(made), move))
			wantNothing(t, "PlayMoves behind an end", noGame(behind), ok)
		}
	}
}

func TestPromise7ManyMoves(t *testing.T) {
	g, moves := longGame(), longMoves()
	for size := range len(moves) + 1 {
		behind, ok := impl.PlayMoves(g, moves[:size])
		wantGame(t, "PlayMoves", behind, ok, playedTold(g, moves[:size]))
	}
	end, _ := impl.PlayMoves(g, moves)
	points, ok := impl.PointsOf(end)
	wantNumber(t, "PointsOf", points, ok, -10)
	// No game has so many moves that the limit decides.
	for _, size := range []int{93, 99, 100, 101, 102, 200} {
		more := slices.Clone(moves)
		for len(more) < size {
			more = append(more, "-")
		}
		behind, ok := impl.PlayMoves(g, more)
		wantNothing(t, "PlayMoves with too many moves", noGame(behind), ok)
		behind, ok = impl.PlayMoves(gm("99", "88", "12", 0, 0), more[len(more)-size:])
		wantNothing(t, "PlayMoves with too many moves", noGame(behind), ok)
		behind, ok = impl.PlayMoves(gm("99", "88", "12", 0, 0), slices.Repeat([]string{"-"}, size))
		wantNothing(t, "PlayMoves with too many passes", noGame(behind), ok)
	}
	two, ok := impl.PlayMoves(gm("99", "88", "12", 0, 0), []string{"-", "-"})
	wantGame(t, "PlayMoves with two passes", two, ok, gm("99", "88", "12", 0, 2))
}

func TestPromise7OverAndPoints(t *testing.T) {
	below := 0
	for _, g := range games() {
		over, ok := impl.IsOver(g)
		wantBool(t, "IsOver", over, ok, overTold(g))
		points, ok := impl.PointsOf(g)
		if !overTold(g) {
			wantNothing(t, "PointsOf a game that is not over", points == 0, ok)
			continue
		}
		wantNumber(t, "PointsOf", points, ok, pointsTold(g))
		if points < 0 {
			below++
		}
	}
	if below == 0 {
		t.Error("no points below 0")
	}
	for _, c := range []struct {
		g      game
		points int
	}{
		{gm("-", "-", "", 0, 0), 0}, {gm("-", "01,99", "", 0, 0), 19}, {gm("01,99", "-", "12", 1, 0), -19}, {gm("99", "88", "12", 0, 2), -2}, {gm("88", "99,00", "12", 1, 2), 2},
		{gm("12", "23", "", 0, 2), 2}, {game{First: fullHand()}, -495}, {game{Second: fullHand(), Turn: 1}, 495},
	} {
		points, ok := impl.PointsOf(c.g)
		wantNumber(t, "PointsOf", points, ok, c.points)
	}
	for _, g := range []game{gm("99", "88", "12", 0, 1), gm("99", "88", "12", 1, 0), gm("99", "88", "", 0, 1)} {
		points, ok := impl.PointsOf(g)
		wantNothing(t, "PointsOf a game that is not over", points == 0, ok)
	}
}

// TestPromise7AllGames tells best play, and how many games there are, from the list of all of them.
func TestPromise7AllGames(t *testing.T) {
	several, long := 0, 0
	for _, g := range heldGames() {
		all := allPlayed(g)
		points, moves := bestTold(all, g.Turn)
		best, ok := impl.BestPoints(g)
		wantNumber(t, "BestPoints", best, ok, points)
		got, ok := impl.BestMoves(g)
		wantTexts(t, "BestMoves", got, ok, moves)
		count, ok := impl.CountGames(g)
		wantNumber(t, "CountGames", count, ok, len(all))
		longest := slices.MaxFunc(all, func(a, b played) int { return len(a.moves) - len(b.moves) })
		length, ok := impl.LongestGame(g)
		wantNumber(t, "LongestGame", length, ok, len(longest.moves))
		if len(moves) > 1 && len(moves) < len(movesTold(g)) {
			several++
		}
		if len(longest.moves) > len(g.First)+len(g.Second) {
			long++
		}
	}
	if several < 20 || long < 20 {
		t.Error("too few games with several best moves, or too few with passes:", several, long)
	}
}

func TestPromise7Lines(t *testing.T) {
	for _, g := range heldGames() {
		line, ok := impl.BestLine(g)
		wantTexts(t, "BestLine", line, ok, bestLineTold(g))
	}
	for _, g := range games() {
		line, ok := impl.HeavyLine(g)
		wantTexts(t, "HeavyLine", line, ok, heavyLineTold(g))
		end, ok := impl.PlayMoves(g, line)
		over, _ := impl.IsOver(end)
		wantBool(t, "the end of HeavyLine", over, ok, true)
	}
}

// TestPromise7BestMovesKeep: each best move keeps the best points, each other one loses some, and games are those behind all moves.
func TestPromise7BestMovesKeep(t *testing.T) {
	for _, g := range heldGames() {
		if overTold(g) {
			continue
		}
		best, _ := impl.BestPoints(g)
		moves, _ := impl.BestMoves(g)
		games, length := 0, 0
		for _, move := range movesTold(g) {
			next, _ := impl.MakeMove(g, move)
			points, ok := impl.BestPoints(next)
			if slices.Contains(moves, move) {
				wantNumber(t, "BestPoints behind a best move", points, ok, best)
			} else if g.Turn == 0 && points >= best || g.Turn == 1 && points <= best {
				t.Error("a move as good as the best ones:", move, points, best, g)
			}
			count, _ := impl.CountGames(next)
			longest, _ := impl.LongestGame(next)
			games, length = games+count, max(length, 1+longest)
		}
		count, ok := impl.CountGames(g)
		wantNumber(t, "CountGames by moves", count, ok, games)
		longest, ok := impl.LongestGame(g)
		wantNumber(t, "LongestGame by moves", longest, ok, length)
		line, _ := impl.BestLine(g)
		end, _ := impl.PlayMoves(g, line)
		points, ok := impl.PointsOf(end)
		wantNumber(t, "the points of BestLine", points, ok, best)
	}
}

func TestPromise7PlayTold(t *testing.T) {
	for _, c := range []struct {
		g                  game
		points             int
		moves, best, heavy []string
		count, length      int
	}{
		{gm("01,12", "22,00", "", 0, 0), 4, []string{"01l"}, []string{"01l", "00l", "12r"}, []string{"12l", "22r", "01l"}, 2, 3},
		{gm("-", "-", "", 0, 0), 0, nil, nil, nil, 1, 0},
		{gm("-", "12,99", "", 0, 0), 21, nil, nil, nil, 1, 0},
		{gm("99", "12", "01", 1, 2), -15, nil, nil, nil, 1, 0},
		{gm("99", "88", "12", 0, 0), -2, []string{"-"}, []string{"-", "-"}, []string{"-", "-"}, 1, 2},
		{gm("99", "88", "12", 1, 1), -2, []string{"-"}, []string{"-"}, []string{"-"}, 1, 1},
		{gm("12,03", "88", "", 0, 0), 13, []string{"03l", "12l"}, []string{"03l", "-", "-"}, []string{"03l", "-", "-"}, 2, 3},
		{gm("12", "88", "1342", 0, 0), 16, []string{"12l", "12r"}, []string{"12l"}, []string{"12l"}, 2, 1},
		{gm("88", "12", "1342", 1, 0), -16, []string{"12l", "12r"}, []string{"12l"}, []string{"12l"}, 2, 1},
	} {
		points, ok := impl.BestPoints(c.g)
		wantNumber(t, "BestPoints", points, ok, c.points)
		moves, ok := impl.BestMoves(c.g)
		wantTexts(t, "BestMoves", moves, ok, c.moves)
		best, ok := impl.BestLine(c.g)
		wantTexts(t, "BestLine", best, ok, c.best)
		heavy, ok := impl.HeavyLine(c.g)
		wantTexts(t, "HeavyLine", heavy, ok, c.heavy)
		count, ok := impl.CountGames(c.g)
		wantNumber(t, "CountGames", count, ok, c.count)
		length, ok := impl.LongestGame(c.g)
		wantNumber(t, "LongestGame", length, ok, c.length)
	}
}

func TestPromise7OrderOfHands(t *testing.T) {
	for _, g := range heldGames() {
		back := game{First: reversed(g.First), Second: reversed(g.Second), Row: g.Row, Turn: g.Turn, Passes: g.Passes}
		moves, _ := impl.BestMoves(g)
		again, ok := impl.BestMoves(back)
		wantTexts(t, "BestMoves of hands backwards", again, ok, moves)
		heavy, _ := impl.HeavyLine(g)
		again, ok = impl.HeavyLine(back)
		wantTexts(t, "HeavyLine of hands backwards", again, ok, heavy)
		for _, move := range movesTold(g) {
			next, _ := impl.MakeMove(g, move)
			turned, ok := impl.MakeMove(back, move)
			wantTiles(t, "First keeps its order", turned.First, ok, reversed(next.First))
			wantTiles(t, "Second keeps its order", turned.Second, ok, reversed(next.Second))
		}
	}
}

func TestPromise7MostTiles(t *testing.T) {
	for _, g := range games() {
		tiles := len(g.First) + len(g.Second)
		for _, c := range searchedCalls() {
			if _, ok := c.call(g); ok != (tiles <= 8) {
				t.Error(c.name, "of a game of", tiles, "tiles:", ok)
			}
		}
	}
	all := fullHand()
	for at := range 10 {
		for _, row := range [][]int{nil, {9, 8, 8}} {
			g := game{First: all[:at], Second: all[at:max(at, 8)], Row: row}
			count, ok := impl.CountGames(g)
			if at <= 8 {
				wantNumber(t, "CountGames of 8 tiles", count, ok, len(allPlayed(g)))
			} else {
				wantNothing(t, "CountGames of 9 tiles", count == 0, ok)
			}
		}
	}
}

func TestPromise7SwapGame(t *testing.T) {
	for _, g := range games() {
		swapped, ok := impl.SwapGame(g)
		wantGame(t, "SwapGame", swapped, ok, game{First: g.Second, Second: g.First, Row: g.Row, Turn: 1 - g.Turn, Passes: g.Passes})
		again, ok := impl.SwapGame(swapped)
		wantGame(t, "SwapGame twice", again, ok, g)
		heavy, _ := impl.HeavyLine(g)
		line, ok := impl.HeavyLine(swapped)
		wantTexts(t, "HeavyLine swapped", line, ok, heavy)
		if overTold(g) {
			points, ok := impl.PointsOf(swapped)
			wantNumber(t, "PointsOf swapped", points, ok, -pointsTold(g))
		}
	}
	for _, g := range heldGames() {
		swapped, _ := impl.SwapGame(g)
		best, _ := impl.BestPoints(g)
		points, ok := impl.BestPoints(swapped)
		wantNumber(t, "BestPoints swapped", points, ok, -best)
		moves, _ := impl.BestMoves(g)
		same, ok := impl.BestMoves(swapped)
		wantTexts(t, "BestMoves swapped", same, ok, moves)
		count, _ := impl.CountGames(g)
		number, ok := impl.CountGames(swapped)
		wantNumber(t, "CountGames swapped", number, ok, count)
	}
}

func TestPromise7DealHands(t *testing.T) {
	for n := range 10 {
		half := len(setOf(n)) / 2
		for _, each := range []int{0, 1, 2, 3, half - 1, half} {
			if each < 0 || each > half {
				continue
			}
			for _, seed := range []int{0, 1, 2, 7, 100, 163, 229, 5003, 9998, 9999} {
				first, second, ok := impl.DealHands(n, each, seed)
				wantFirst, wantSecond := dealTold(n, each, seed)
				wantTiles(t, "the first hand of DealHands", first, ok, wantFirst)
				wantTiles(t, "the second hand of DealHands", second, ok, wantSecond)
				if len(first) != each || len(second) != each || !isGame(game{First: first, Second: second}) {
					t.Error("no hands of a game:", first, second)
				}
			}
		}
	}
	for seed := range 10000 {
		first, second, ok := impl.DealHands(6, 7, seed)
		wantFirst, wantSecond := dealTold(6, 7, seed)
		wantTiles(t, "the first hand of DealHands", first, ok, wantFirst)
		wantTiles(t, "the second hand of DealHands", second, ok, wantSecond)
	}
}

func TestPromise7DealTold(t *testing.T) {
	for _, c := range []struct {
		n, each, seed int
		first, second string
	}{
		{1, 1, 0, "01", "11"}, {2, 2, 9999, "11,12", "00,01"}, {0, 0, 0, "-", "-"}, {9, 0, 9999, "-", "-"}, {2, 1, 9999, "12", "00"},
	} {
		first, second, ok := impl.DealHands(c.n, c.each, c.seed)
		wantTiles(t, "the first hand of DealHands", first, ok, handOf(c.first))
		wantTiles(t, "the second hand of DealHands", second, ok, handOf(c.second))
	}
	// All tiles of the set of 2 are dealt, so that both hands together are it.
	for seed := range 10000 {
		first, second, ok := impl.DealHands(2, 3, seed)
		joined, _ := impl.JoinHands(first, second)
		wantTiles(t, "all tiles dealt", joined, ok, setOf(2))
	}
}

func TestPromise7CanSweep(t *testing.T) {
	sweeps := map[bool]int{}
	for _, g := range games() {
		sweep, ok := impl.CanSweep(g)
		if len(ownTold(g)) > 8 {
			wantNothing(t, "CanSweep of more than 8 tiles", !sweep, ok)
			continue
		}
		want := sweepTold(ownTold(g), g.Row)
		wantBool(t, "CanSweep", sweep, ok, want)
		sweeps[want]++
	}
	// All hands of up to 6 tiles of the set of 2, at all rows of one other tile and at none.
	for which := range 1 << 6 {
		var hand []tile
		for i, x := range setOf(2) {
			if which>>i%2 == 1 {
				hand = append(hand, x)
			}
		}
		for _, row := range []string{"", "39", "33", "30", "0331", "0340", "1332", "2342", "93319"} {
			g := game{First: hand, Second: handOf("78"), Row: numbersOf(row)}
			sweep, ok := impl.CanSweep(g)
			want := sweepTold(hand, g.Row)
			wantBool(t, "CanSweep", sweep, ok, want)
			sweeps[want]++
		}
	}
	if sweeps[true] < 100 || sweeps[false] < 100 {
		t.Error("too few hands that sweep, or that do not:", sweeps)
	}
}

func TestPromise7SweepTold(t *testing.T) {
	eight := handOf("01,12,23,34,45,56,67,78")
	for _, c := range []struct {
		g    game
		want bool
	}{
		{gm("-", "01", "", 0, 0), true}, {gm("-", "01", "", 1, 0), true}, {gm("-", "-", "", 1, 2), true}, {gm("-", "01", "23", 0, 0), true},
		{gm("12,01", "99", "", 0, 0), true}, {gm("23,01", "99", "", 0, 0), false}, {gm("99", "23,01", "", 1, 0), false}, {gm("99", "23,01", "12", 1, 0), true},
		{gm("99", "23,01", "12", 0, 0), false}, {gm("01,02,03", "99", "", 0, 0), false}, {gm("01,02,03", "99", "00", 0, 0), false}, {gm("01,23,34", "99", "12", 0, 0), true},
		{gm("33,23,22", "99", "12", 0, 0), true}, {gm("33,22", "99", "12", 0, 0), false},
		// The other hand and the passes tell nothing of it, even if the game is over.
		{gm("01,23", "-", "12", 0, 0), true}, {gm("01,23", "99", "12", 0, 2), true}, {gm("01,99", "-", "12", 0, 1), false},
		{game{First: eight, Second: without(fullHand(), eight)}, true}, {game{First: fullHand()[46:], Second: handOf("00,22"), Turn: 1}, false},
	} {
		sweep, ok := impl.CanSweep(c.g)
		wantBool(t, "CanSweep", sweep, ok, c.want)
	}
	sweep, ok := impl.CanSweep(gm("01,12,23,34,45,56,67,78,89", "99", "", 0, 0))
	wantNothing(t, "CanSweep of 9 tiles", !sweep, ok)
	sweep, ok = impl.CanSweep(gm("99", "01,12,23,34,45,56,67,78,89", "", 1, 0))
	wantNothing(t, "CanSweep of 9 tiles", !sweep, ok)
}
