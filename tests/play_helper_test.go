package tests

import (
	"math"
	"slices"
	"strings"
	"testing"

	"loop.example/g01216/impl"
)

type game = impl.Game

// numbersOf reads digits.
func numbersOf(text string) []int {
	var list []int
	for _, digit := range text {
		list = append(list, int(digit-'0'))
	}
	return list
}

// gm writes a game, its hands as texts and its Row as digits.
func gm(first, second, row string, turn, passes int) game {
	return game{First: handOf(first), Second: handOf(second), Row: numbersOf(row), Turn: turn, Passes: passes}
}

func cloneGame(g game) game {
	g.First, g.Second, g.Row = slices.Clone(g.First), slices.Clone(g.Second), slices.Clone(g.Row)
	return g
}

func equalGames(a, b game) bool {
	return slices.Equal(a.First, b.First) && slices.Equal(a.Second, b.Second) && slices.Equal(a.Row, b.Row) && a.Turn == b.Turn && a.Passes == b.Passes
}

func noGame(g game) bool { return equalGames(g, game{}) }

func wantGame(t *testing.T, what string, got game, ok bool, want game) {
	t.Helper()
	if !ok || !equalGames(got, want) {
		t.Errorf("%s: got %v, %v, want %v", what, got, ok, want)
	}
}

// isGame is the test's own way to tell whether a value is a game.
func isGame(g game) bool {
	all := slices.Concat(g.First, g.Second, tilesOf(g.Row))
	if twice(all) || slices.ContainsFunc(all, func(x tile) bool { return !has(fullHand(), x) }) {
		return false
	}
	return len(g.Row) != 1 && (g.Turn == 0 || g.Turn == 1) && (g.Passes == 0 || g.Passes == 1 || g.Passes == 2)
}

func overTold(g game) bool { return len(g.First)*len(g.Second) == 0 || g.Passes > 1 }

func ownTold(g game) []tile { return [][]tile{g.First, g.Second}[g.Turn] }

func pipsTold(hand []tile) int {
	pips := 0
	for _, x := range hand {
		pips += x.Low + x.High
	}
	return pips
}

func pointsTold(g game) int { return pipsTold(g.Second) - pipsTold(g.First) }

// rowTold is the test's own way to lay a tile at an end: it looks for the number that makes this tile there.
func rowTold(row []int, x tile, end string) ([]int, bool) {
	if len(row) == 0 {
		return []int{x.Low, x.High}, end == "l"
	}
	for number := range 10 {
		if end == "l" && tileOf(number, row[0]) == x {
			return slices.Concat([]int{number}, row), true
		}
		if end == "r" && tileOf(number, row[len(row)-1]) == x {
			return slices.Concat(row, []int{number}), true
		}
	}
	return nil, false
}

func layText(x tile, end string) string {
	return string([]byte{'0' + byte(x.Low), '0' + byte(x.High)}) + end
}

// movesTold is the test's own way to tell the moves of a game: it tries all tiles at both ends.
func movesTold(g game) []string {
	if overTold(g) {
		return nil
	}
	var moves []string
	for _, x := range fullHand() {
		for _, end := range []string{"l", "r"} {
			if _, fits := rowTold(g.Row, x, end); fits && has(ownTold(g), x) {
				moves = append(moves, layText(x, end))
			}
		}
	}
	if len(moves) == 0 {
		return []string{"-"}
	}
	return moves
}

// behindTold is the test's own way to make a move that movesTold tells.
func behindTold(g game, move string) game {
	next := game{First: slices.Clone(g.First), Second: slices.Clone(g.Second), Row: slices.Clone(g.Row), Turn: (g.Turn + 1) % 2, Passes: g.Passes + 1}
	if move == "-" {
		return next
	}
	x := handOf(move[:2])[0]
	next.First, next.Second = without(g.First, []tile{x}), without(g.Second, []tile{x})
	next.Row, _ = rowTold(g.Row, x, move[2:])
	next.Passes = 0
	return next
}

func playedTold(g game, moves []string) game {
	for _, move := range moves {
		g = behindTold(g, move)
	}
	return g
}

// played is a list of moves up to an end, and the points there.
type played struct {
	moves  []string
	points int
}

// allPlayed is the test's own way to look at all games: it lists their moves, in order.
func allPlayed(g game) []played {
	if overTold(g) {
		return []played{{points: pointsTold(g)}}
	}
	var all []played
	for _, move := range movesTold(g) {
		for _, rest := range allPlayed(behindTold(g, move)) {
			all = append(all, played{append([]string{move}, rest.moves...), rest.points})
		}
	}
	return all
}

// bestTold is the test's own way to tell best play, from the list of all games: those that begin with one move are one behind the other there.
func bestTold(all []played, turn int) (int, []string) {
	if len(all[0].moves) == 0 {
		return all[0].points, nil
	}
	best, moves := math.MaxInt, []string(nil)
	if turn == 0 {
		best = math.MinInt
	}
	for len(all) > 0 {
		move := all[0].moves[0]
		var rest []played
		for len(all) > 0 && all[0].moves[0] == move {
			rest = append(rest, played{all[0].moves[1:], all[0].points})
			all = all[1:]
		}
		points, _ := bestTold(rest, 1-turn)
		if turn == 0 && points > best || turn == 1 && points < best {
			best, moves = points, nil
		}
		if points == best {
			moves = append(moves, move)
		}
	}
	return best, moves
}

// bestLineTold is the test's own way to tell the line of best play.
func bestLineTold(g game) []string {
	var line []string
	for !overTold(g) {
		_, moves := bestTold(allPlayed(g), g.Turn)
		line = append(line, moves[0])
		g = behindTold(g, moves[0])
	}
	return line
}

// heavyLineTold is the test's own way to tell the line of the heaviest tiles: of all sums, from the greatest one down, the first move that has it.
func heavyLineTold(g game) []string {
	var line []string
	for !overTold(g) {
		moves := movesTold(g)
		at := -1
		for sum := 18; at < 0 && sum >= 0; sum-- {
			at = slices.IndexFunc(moves, func(move string) bool { return move != "-" && pipsTold(handOf(move[:2])) == sum })
		}
		line = append(line, moves[max(at, 0)])
		g = behindTold(g, line[len(line)-1])
	}
	return line
}

// sweepTold is the test's own way to tell whether all tiles of a hand can be laid at a row: by the odd numbers of those that go to each end.
func sweepTold(hand []tile, row []int) bool {
	if len(row) == 0 {
		return len(hand) == 0 || slices.ContainsFunc([]int{0, 1, 2, 3, 4, 5, 6, 7, 8, 9}, func(start int) bool { return letsFrom(hand, start) })
	}
	for which := range 1 << len(hand) {
		var left, right []tile
		for i, x := range hand {
			if which>>i%2 == 0 {
				left = append(left, x)
			} else {
				right = append(right, x)
			}
		}
		if letsFrom(left, row[0]) && letsFrom(right, row[len(row)-1]) {
			return true
		}
	}
	return false
}

// dealTold is the test's own way to deal hands: all numbers first.
func dealTold(n, each, seed int) ([]tile, []tile) {
	numbers := []int{seed}
	for len(numbers) <= 2*each {
		last := numbers[len(numbers)-1]
		numbers = append(numbers, (163*last+229)%10007)
	}
	left := setOf(n)
	var hands [2][]tile
	for i, number := range numbers[1:] {
		x := left[number%len(left)]
		hands[i%2] = append(hands[i%2], x)
		left = without(left, []tile{x})
	}
	return picked(func(x tile) bool { return has(hands[0], x) }), picked(func(x tile) bool { return has(hands[1], x) })
}

// toldGames are games of at most MaxHeld tiles that are told: ordinary ones, and all that are extreme.
func toldGames() []game {
	return []game{
		gm("01,12", "22,00", "", 0, 0), gm("22,00", "01,12", "", 1, 0), gm("12,01", "00,22", "", 0, 0), gm("01,12", "22,00", "", 1, 0),
		gm("-", "-", "", 0, 0), gm("-", "-", "", 1, 2), gm("-", "-", "01", 0, 1), gm("-", "01,99", "", 0, 0), gm("-", "01,99", "", 1, 0),
		gm("01,99", "-", "", 0, 0), gm("01,99", "-", "12", 1, 0), gm("99", "88", "12", 0, 2), gm("88", "99", "12", 1, 2), gm("12", "23", "", 0, 2),
		gm("99", "88", "12", 0, 0), gm("99", "88", "12", 1, 0), gm("99", "88", "12", 0, 1), gm("99", "88", "12", 1, 1), gm("12", "23", "", 0, 1),
		gm("01,13", "88,29", "12", 0, 1), gm("88,29", "01,13", "12", 0, 1), gm("88,29", "01,13", "12", 0, 0), gm("11,12", "22,02,00", "01", 0, 0),
		gm("03,12,02,00,11", "22,23,01", "", 0, 0), gm("11,01", "03,02,13,23,22,12", "", 1, 0), gm("11", "04,00,34,23,03,02,14", "", 1, 0), gm("03,13,02,11,23,01,33", "44", "", 0, 0),
	}
}

// rowGames are games with rows on which tiles fit at the left end, at the right end, at both and at none, doubles among them.
func rowGames() []game {
	var list []game
	for _, row := range []string{"01", "10", "00", "0120", "0112", "2110", "345", "11", "9876543", "001122"} {
		for _, hands := range [][2]string{
			{"02", "13"}, {"00,11", "22,02"}, {"22", "00"}, {"09,49,13,03", "19,44,99,33"}, {"39", "69"},
			{"14,04,24,34", "16,06,26,36"}, {"88", "77"}, {"23,03,13", "88"}, {"88", "23,03,13"}, {"02,03,05,07,08,13,14", "77"},
		} {
			for turn := range 2 {
				for passes := range 3 {
					if g := gm(hands[0], hands[1], row, turn, passes); isGame(g) {
						list = append(list, g)
					}
				}
			}
		}
	}
	return list
}

// drawnGames are games of at most MaxHeld tiles, made by a seed, each as it begins and behind some moves.
func drawnGames(seed int) []game {
	var list []game
	for most := 1; most <= 6; most++ {
		for size := 1; size <= 8; size++ {
			for _, at := range []int{size / 2, (size + 1) / 2, seed % (size + 1)} {
				all, next := drawn(setOf(most), size, seed)
				at = min(at, len(all))
				g := game{First: all[:at:at], Second: all[at:], Turn: next / 100 % 2}
				list = append(list, g)
				for !overTold(g) {
					moves := movesTold(g)
					next = (next*163 + 229) % 10007
					g = behindTold(g, moves[next%len(moves)])
					list = append(list, g)
				}
				seed = next
			}
		}
	}
	return list
}

// heldGames are games of at most MaxHeld tiles.
func heldGames() []game { return slices.Concat(toldGames(), rowGames(), drawnGames(17)) }

// longGame has the hands of 47 and 1 tiles, and longMoves are its 92 moves: the second player has to pass as long as no number is 9.
func longGame() game {
	return game{First: append(slices.Clone(tilesOf(longRing())), tl(0, 9), tl(1, 9)), Second: []tile{tl(9, 9)}}
}

func longMoves() []string {
	moves := []string{layText(tilesOf(longRing())[0], "l"), "-"}
	for _, x := range tilesOf(longRing())[1:] {
		moves = append(moves, layText(x, "r"), "-")
	}
	return append(moves, "09r", "99r")
}

// greatGames are games of more than MaxHeld tiles.
func greatGames() []game {
	all := fullHand()
	left := without(all, tilesOf(longChain()))
	list := []game{
		{First: all[:5], Second: all[5:9]}, {First: all[:9]}, {Second: reversed(all[46:]), Turn: 1}, {First: all[20:28], Second: all[50:51], Turn: 1},
		{First: all, Turn: 1}, {Second: all}, {First: all[:27], Second: all[27:]}, {First: reversed(all[30:]), Second: reversed(all[:30]), Turn: 1},
		{First: all[:54], Second: all[54:]}, {First: without(all, tilesOf([]int{3, 4, 5})), Row: []int{3, 4, 5}},
		longGame(), {First: left[:2], Second: left[2:], Row: longChain(), Turn: 1}, {Row: longChain(), Turn: 1, Passes: 2},
		{First: setOf(4)[:4], Second: setOf(4)[4:13], Row: []int{3, 4}, Passes: 1}, {First: setOf(4)[:8], Second: setOf(3)[9:10], Row: []int{2, 4, 4}, Passes: 2},
	}
	seed := 3
	for most := 3; most <= 9; most++ {
		first, next := drawn(setOf(most), 3+2*most, seed)
		second, next := drawn(without(setOf(most), first), most, next)
		seed = next
		list = append(list, game{First: first, Second: second, Turn: most % 2})
	}
	return list
}

// games are ordinary games and the extreme ones, also those of too many tiles to look at all games.
func games() []game { return slices.Concat(heldGames(), greatGames()) }

// badGames returns values that are no games.
func badGames() []game {
	good := gm("01,12", "22,00", "13", 0, 0)
	var list []game
	add := func(change func(g *game)) {
		g := cloneGame(good)
		change(&g)
		list = append(list, g)
	}
	for _, bad := range badHands() {
		add(func(g *game) { g.First = bad })
		add(func(g *game) { g.Second = bad })
		add(func(g *game) { g.First, g.Second, g.Row = bad, nil, nil })
		add(func(g *game) { g.First, g.Second, g.Row = nil, bad, nil })
	}
	for _, bad := range badChains() {
		if len(bad) > 0 {
			add(func(g *game) { g.Row = bad })
			add(func(g *game) { g.First, g.Second, g.Row = nil, nil, bad })
		}
	}
	// One number has no tile; the other rows have a tile of a hand, or one twice.
	for _, row := range []string{"0", "9", "01", "10", "012", "21", "3021", "22", "00", "1002", "3221", "131", "3113", "303"} {
		add(func(g *game) { g.Row = numbersOf(row) })
	}
	for _, hands := range [][2]string{{"01", "01"}, {"01,12", "12,00"}, {"05,06,07", "08,09,05"}, {"99", "99"}} {
		list = append(list, gm(hands[0], hands[1], "", 0, 0), gm(hands[0], hands[1], "34", 1, 1))
	}
	list = append(list, game{First: fullHand(), Second: handOf("00")}, game{First: fullHand(), Row: []int{0, 1}}, game{First: fullHand(), Second: fullHand()})
	for _, n := range append([]int{2, 3, -2}, badNumbers...) {
		add(func(g *game) { g.Turn = n })
		add(func(g *game) { g.First, g.Second, g.Row, g.Turn = nil, nil, nil, n })
		if n != 2 {
			add(func(g *game) { g.Passes = n })
			add(func(g *game) { g.First, g.Second, g.Row, g.Passes = nil, nil, nil, n })
		}
	}
	return list
}

// badMoves are texts that are no move of any game.
func badMoves() []string {
	list := []string{
		"", " ", "l", "r", "0", "01", "10", "lr", "--", "- ", " -", "-l", "-r", "01-", "-01", "00,", "01lr", "01ll", "01l,", "01l ", " 01l", "01 l", "0,1l", "l01", "r12",
		"01L", "01R", "01n", "01x", "01\n", "01l\n", "01\x00", "01\xec", "0al", "a0l", "0:l", "/0l", "001l", "1r", "０1l", "01é", strings.Repeat("01l", 1000),
	}
	// The greater number first.
	for low := range 10 {
		for high := range low {
			x := string([]byte{'0' + byte(low), '0' + byte(high)})
			list = append(list, x+"l", x+"r")
		}
	}
	return list
}

// everyMove are the texts of all moves that some game has.
func everyMove() []string {
	list := []string{"-"}
	for _, x := range fullHand() {
		list = append(list, layText(x, "l"), layText(x, "r"))
	}
	return list
}
