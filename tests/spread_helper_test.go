package tests

import (
	"slices"
	"strconv"
	"strings"
	"testing"

	"loop.example/g01216/impl"
)

type play = impl.Play

// pl writes a play as it is told, also one that is none.
func pl(low, high, arm int) play { return play{Tile: tl(low, high), Arm: arm} }

// spread reads plays that are written as in SpreadText, also such that are no spread.
func spread(text string) []play {
	var plays []play
	if text == "-" {
		return nil
	}
	for _, word := range strings.Split(text, ",") {
		plays = append(plays, pl(int(word[0]-'0'), int(word[1]-'0'), int(word[3]-'0')))
	}
	return plays
}

// armsText writes arms as their ends, a double one with d and a side arm with s behind it.
func armsText(arms []impl.Arm) string {
	var words []string
	for _, arm := range arms {
		word := strconv.Itoa(arm.End)
		if arm.Double {
			word += "d"
		}
		if arm.Side {
			word += "s"
		}
		words = append(words, word)
	}
	return strings.Join(words, " ")
}

// laidTo returns the tiles behind the first one that are laid to an arm, in their order.
func laidTo(plays []play, arm int) []tile {
	var tiles []tile
	for i, p := range plays {
		if i > 0 && p.Arm == arm {
			tiles = append(tiles, p.Tile)
		}
	}
	return tiles
}

// spinnerAt is the test's own way to tell which play has laid the spinner, or -1.
func spinnerAt(plays []play) int {
	return slices.IndexFunc(plays, func(p play) bool { return p.Tile.Low == p.Tile.High })
}

// armsMade is the test's own way to tell how many arms a spread has: it asks whether the spinner has tiles at both sides.
func armsMade(plays []play) int {
	at := spinnerAt(plays)
	switch {
	case len(plays) == 0:
		return 0
	case at == 0 && len(laidTo(plays, 0)) > 0 && len(laidTo(plays, 1)) > 0:
		return 4
	case at > 0 && slices.ContainsFunc(plays[at+1:], func(p play) bool { return p.Arm == plays[at].Arm }):
		return 4
	}
	return 2
}

// armAt is the test's own way to tell an arm of a spread: it walks along its tiles.
func armAt(plays []play, arm int) impl.Arm {
	first := plays[0].Tile
	double := first.Low == first.High
	made := impl.Arm{End: first.Low, Double: double}
	if arm == 1 {
		made.End = first.High
	}
	if arm >= 2 {
		made = impl.Arm{End: plays[spinnerAt(plays)].Tile.Low, Side: true}
	}
	for _, x := range laidTo(plays, arm) {
		end := x.Low
		if x.Low == made.End {
			end = x.High
		}
		made = impl.Arm{End: end, Double: x.Low == x.High}
	}
	return made
}

// armsOf is the test's own way to tell all arms of a spread.
func armsOf(plays []play) []impl.Arm {
	var arms []impl.Arm
	for arm := range armsMade(plays) {
		arms = append(arms, armAt(plays, arm))
	}
	return arms
}

// tilesLaid is the test's own way to tell the tiles of a list of plays.
func tilesLaid(plays []play) []tile {
	var tiles []tile
	for _, p := range plays {
		tiles = append(tiles, p.Tile)
	}
	return tiles
}

// touches is the test's own way to tell whether a play can be added to a spread if it may have any number of plays.
func touches(plays []play, p play) bool {
	x := p.Tile
	if x.Low < 0 || x.Low > x.High || x.High > 9 || slices.ContainsFunc(plays, func(laid play) bool { return laid.Tile == x }) {
		return false
	}
	if len(plays) == 0 {
		return p.Arm == 0
	}
	if p.Arm < 0 || p.Arm >= armsMade(plays) {
		return false
	}
	end := armAt(plays, p.Arm).End
	return x.Low == end || x.High == end
}

// isSpread is the test's own way to tell whether a list of plays is a spread.
func isSpread(plays []play) bool {
	if len(plays) > 28 {
		return false
	}
	for i, p := range plays {
		if !touches(plays[:i], p) {
			return false
		}
	}
	return true
}

// sumOf is the test's own way to tell the sum of ends of a spread.
func sumOf(plays []play) int {
	if len(plays) == 1 {
		return plays[0].Tile.Low + plays[0].Tile.High
	}
	sum := 0
	for _, arm := range armsOf(plays) {
		switch {
		case arm.Double:
			sum += 2 * arm.End
		case !arm.Side:
			sum += arm.End
		}
	}
	return sum
}

// pointsOf is the test's own way to tell the points of a spread.
func pointsOf(plays []play) int {
	sum := sumOf(plays)
	if sum%5 == 0 {
		return sum
	}
	return 0
}

// fivesFrom is the test's own way to tell the points behind all plays of a spread from one on.
func fivesFrom(plays []play, from int) int {
	fives := 0
	for i := from; i < len(plays); i++ {
		fives += pointsOf(plays[:i+1])
	}
	return fives
}

// more returns a spread with a play more, in new memory.
func more(plays []play, p play) []play { return append(slices.Clone(plays), p) }

// playsOn is the test's own way to tell the plays that can be added: it tries each tile at each arm that there may be.
func playsOn(plays []play, hand []tile) []play {
	var all []play
	for _, x := range fullHand() {
		for arm := range 5 {
			if has(hand, x) && len(plays) < 28 && touches(plays, play{Tile: x, Arm: arm}) {
				all = append(all, play{Tile: x, Arm: arm})
			}
		}
	}
	return all
}

func comparePlays(a, b play) int {
	return slices.Compare([]int{a.Tile.Low, a.Tile.High, a.Arm}, []int{b.Tile.Low, b.Tile.High, b.Arm})
}

// mostOf is the test's own way to tell the result of MostFives: it makes all lists and looks for the first one of those with the most points.
func mostOf(plays []play, hand []tile) ([]play, int) {
	lists := [][]play{plays}
	for i := 0; i < len(lists); i++ {
		for _, p := range playsOn(lists[i], hand) {
			lists = append(lists, more(lists[i], p))
		}
	}
	best, most := []play(nil), 0
	for _, list := range lists {
		added, fives := list[len(plays):], fivesFrom(list, len(plays))
		if fives > most || fives == most && slices.CompareFunc(added, best, comparePlays) < 0 {
			best, most = added, fives
		}
	}
	return best, most
}

// grown returns a spread of tiles of a hand, made by a seed, of size plays, or fewer if no tile can be laid, and the seed for the next one.
func grown(hand []tile, size int, seed int) ([]play, int) {
	var plays []play
	for len(plays) < size {
		all := playsOn(plays, hand)
		if len(all) == 0 {
			break
		}
		seed = (seed*163 + 229) % 10007
		plays = append(plays, all[seed%len(all)])
	}
	return plays, seed
}

// longSpreads returns spreads of 28 plays at which a tile more would find an arm.
func longSpreads() [][]play {
	var list [][]play
	seed := 23
	for len(list) < 5 {
		var plays []play
		plays, seed = grown(fullHand(), 28, seed)
		if len(plays) == 28 && len(tooMany(plays)) == 29 {
			list = append(list, plays)
		}
	}
	return list
}

// tooMany returns the plays of a spread with one more that finds an arm, if there is one.
func tooMany(plays []play) []play {
	for _, x := range fullHand() {
		for arm := range 4 {
			if p := (play{Tile: x, Arm: arm}); touches(plays, p) {
				return more(plays, p)
			}
		}
	}
	return plays
}

// toldSpreads are spreads with spinners in all places, and others.
func toldSpreads() []string {
	return []string{
		"-", "05@0", "12@0", "09@0", "55@0", "33@0", "00@0", "99@0",
		"55@0,56@1", "55@0,56@0", "55@0,56@1,66@1", "55@0,05@1", "55@0,56@1,67@1",
		"55@0,56@1,05@0", "55@0,56@1,05@0,15@2", "55@0,56@1,05@0,45@3", "55@0,56@1,05@0,15@2,11@2",
		"55@0,56@1,05@0,15@2,35@3", "55@0,56@1,05@0,35@3,15@2,13@2",
		"25@0,55@1", "25@0,55@1,59@1", "25@0,55@1,24@0", "25@0,22@0", "25@0,22@0,24@0,55@1",
		"25@0,22@0,55@1,59@1", "25@0,22@0,55@1,59@1,24@0", "25@0,55@1,59@1,35@2", "25@0,55@1,59@1,35@3,05@2",
		"00@0,01@1,02@0", "00@0,01@1,02@0,03@2,04@3", "01@0,00@0,11@1,12@1,02@0,03@2",
		"12@0,23@1,13@1", "01@0,12@1,02@1,05@0,06@1",
	}
}

// spreads returns ordinary spreads and the extreme ones.
func spreads() [][]play {
	var list [][]play
	for _, text := range toldSpreads() {
		list = append(list, spread(text))
	}
	seed := 31
	for most := 1; most <= 9; most += 2 {
		for _, size := range []int{2, 5, 9, 14, 27} {
			var plays []play
			plays, seed = grown(setOf(most), size, seed)
			list = append(list, plays)
		}
	}
	return append(list, longSpreads()...)
}

// badSpreads returns lists of plays that are no spreads.
func badSpreads() [][]play {
	var list [][]play
	for _, text := range []string{
		"05@1", "55@1", "05@2", "10@0", "05@0,12@0", "05@0,05@0", "05@0,05@1", "05@0,06@1", "05@0,56@0",
		"05@0,50@0", "05@0,65@1", "55@0,55@0", "55@0,55@1", "55@0,56@2", "55@0,56@1,57@2", "55@0,56@1,57@1",
		"55@0,56@0,05@0", "55@0,56@1,66@1,67@1,57@2", "55@0,56@1,05@0,15@4", "55@0,56@1,05@0,16@2", "55@0,56@1,05@0,56@2",
		"55@0,56@1,05@0,15@2,35@2", "25@0,55@1,35@2", "25@0,55@1,24@0,35@2", "25@0,55@1,59@1,35@4", "25@0,22@0,55@1,59@1,35@2",
		"25@0,55@1,25@1", "05@0,56@2", "05@0,56@1,55@1", "56@1,55@0", "12@0,23@1,13@2",
	} {
		list = append(list, spread(text))
	}
	for _, n := range badNumbers {
		list = append(list,
			[]play{pl(0, n, 0)}, []play{pl(n, 9, 0)}, []play{pl(n, n, 0)}, []play{pl(0, 5, n)}, []play{pl(5, 5, n)},
			[]play{pl(0, 5, 0), pl(5, n, 1)}, []play{pl(0, 5, 0), pl(n, 5, 1)}, []play{pl(0, 5, 0), pl(5, 6, n)},
			more(spread("55@0,56@1,05@0"), pl(5, 9, n)), more(spread("25@0,55@1,59@1"), pl(5, 6, n)),
		)
	}
	for _, plays := range longSpreads() {
		list = append(list, tooMany(plays), append(slices.Clone(plays), plays...), append(slices.Clone(plays), pl(0, 10, 0)))
	}
	return append(list, make([]play, 2), make([]play, 28), make([]play, 29))
}

// orderedHands returns hands of at most 5 tiles.
func orderedHands() [][]tile {
	list := [][]tile{
		nil,
		{},
		{tl(1, 2)},
		{tl(0, 5)},
		{tl(5, 5), tl(0, 5)},
		{tl(4, 6), tl(5, 5), tl(0, 5)},
		{tl(5, 6), tl(5, 5), tl(0, 5), tl(4, 5), tl(1, 5)},
		{tl(0, 0), tl(1, 1), tl(2, 2), tl(3, 3), tl(4, 4)},
		{tl(9, 9), tl(1, 9), tl(0, 1), tl(8, 9), tl(0, 8)},
	}
	seed := 13
	for most := 1; most <= 9; most++ {
		for size := 2; size <= 5; size++ {
			var hand []tile
			hand, seed = drawn(setOf(most), size, seed)
			list = append(list, hand)
		}
	}
	return list
}

func wantPlays(t *testing.T, what string, got []play, ok bool, want []play) {
	t.Helper()
	if !ok || !slices.Equal(got, want) {
		t.Errorf("%s: got %v, %v, want %v", what, got, ok, want)
	}
}

func wantArms(t *testing.T, what string, got []impl.Arm, ok bool, want []impl.Arm) {
	t.Helper()
	if !ok || !slices.Equal(got, want) {
		t.Errorf("%s: got %v, %v, want %v", what, got, ok, want)
	}
}

func wantText(t *testing.T, what string, got string, ok bool, want string) {
	t.Helper()
	if !ok || got != want {
		t.Errorf("%s: got %q, %v, want %q", what, got, ok, want)
	}
}
