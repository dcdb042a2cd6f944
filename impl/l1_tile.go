package impl

import (
	"cmp"
	"slices"
	"strconv"
	"strings"
)

const MaxPips = 9
const MaxTiles = 55

type Tile struct {
	Low  int
	High int
}

// noTilesText stands for no tiles, in texts of hands and of spreads.
const noTilesText = "-"

// maxHandText is the length of the HandText of MaxTiles tiles: two digits each, and the commas between them.
const maxHandText = 3*MaxTiles - 1

// IsTile reports whether t, whose numbers may be any, is a tile.
func IsTile(t Tile) bool {
	return isNumber(t.Low) && isNumber(t.High) && t.Low <= t.High
}

// TileOf returns the tile with the numbers a and b, in 0..MaxPips, in either order.
func TileOf(a int, b int) (Tile, bool) {
	if !isNumber(a) || !isNumber(b) {
		return Tile{}, false
	}
	return Tile{Low: min(a, b), High: max(a, b)}, true
}

// IsHand reports whether a list of tiles, whose numbers may be any, is a hand.
func IsHand(hand []Tile) bool {
	if len(hand) > MaxTiles {
		return false
	}
	for _, t := range hand {
		if !IsTile(t) {
			return false
		}
	}
	return len(tilesIn(hand)) == len(hand)
}

// SetOf returns the set of n: all tiles with numbers in 0..n.
func SetOf(n int) ([]Tile, bool) {
	if !isNumber(n) {
		return nil, false
	}
	set := make([]Tile, 0, MaxTiles)
	for low := 0; low <= n; low++ {
		for high := low; high <= n; high++ {
			set = append(set, Tile{Low: low, High: high})
		}
	}
	return set, true
}

// CountSet returns how many tiles the set of n has: (n + 1) (n + 2) / 2.
func CountSet(n int) (int, bool) {
	if !isNumber(n) {
		return 0, false
	}
	return (n + 1) * (n + 2) / 2, true
}

// RankOf returns how many tiles come before a tile.
func RankOf(t Tile) (int, bool) {
	if !IsTile(t) {
		return 0, false
	}
	all, _ := SetOf(MaxPips)
	return slices.Index(all, t), true
}

// TileOfRank returns the tile with a rank, 0 up to 54.
func TileOfRank(rank int) (Tile, bool) {
	if rank < 0 || rank >= MaxTiles {
		return Tile{}, false
	}
	all, _ := SetOf(MaxPips)
	return all[rank], true
}

// SortHand returns the hand sorted.
func SortHand(hand []Tile) ([]Tile, bool) {
	if !IsHand(hand) {
		return nil, false
	}
	return sortedTiles(tilesIn(hand)), true
}

// PipsOf returns the sum of the pips of all tiles.
func PipsOf(hand []Tile) (int, bool) {
	if !IsHand(hand) {
		return 0, false
	}
	pips := 0
	for _, t := range hand {
		pips += t.Low + t.High
	}
	return pips, true
}

// DoublesOf returns the numbers of the doubles, increasing.
func DoublesOf(hand []Tile) ([]int, bool) {
	if !IsHand(hand) {
		return nil, false
	}
	tiles := tilesIn(hand)
	var doubles []int
	for number := range MaxPips + 1 {
		if tiles[Tile{Low: number, High: number}] {
			doubles = append(doubles, number)
		}
	}
	return doubles, true
}

// NumbersOf returns the numbers that are in a hand, increasing.
func NumbersOf(hand []Tile) ([]int, bool) {
	if !IsHand(hand) {
		return nil, false
	}
	var numbers []int
	for number := range MaxPips + 1 {
		if timesIn(hand, number) > 0 {
			numbers = append(numbers, number)
		}
	}
	return numbers, true
}

// TimesOf returns how often a number is in a hand: twice in its double.
func TimesOf(hand []Tile, number int) (int, bool) {
	if !IsHand(hand) || !isNumber(number) {
		return 0, false
	}
	return timesIn(hand, number), true
}

// WithNumber returns the tiles of a hand that have a number.
func WithNumber(hand []Tile, number int) ([]Tile, bool) {
	if !IsHand(hand) || !isNumber(number) {
		return nil, false
	}
	tiles := tilesIn(hand)
	for t := range tiles {
		if t.Low != number && t.High != number {
			delete(tiles, t)
		}
	}
	return sortedTiles(tiles), true
}

// JoinHands returns the tiles that are in one of two hands, or in both.
func JoinHands(a []Tile, b []Tile) ([]Tile, bool) {
	if !IsHand(a) || !IsHand(b) {
		return nil, false
	}
	tiles := tilesIn(a)
	for _, t := range b {
		tiles[t] = true
	}
	return sortedTiles(tiles), true
}

// BothHands returns the tiles that are in both of two hands.
func BothHands(a []Tile, b []Tile) ([]Tile, bool) {
	if !IsHand(a) || !IsHand(b) {
		return nil, false
	}
	tiles, others := tilesIn(a), tilesIn(b)
	for t := range tiles {
		if !others[t] {
			delete(tiles, t)
		}
	}
	return sortedTiles(tiles), true
}

// LessHand returns the tiles of a that are not in b.
func LessHand(a []Tile, b []Tile) ([]Tile, bool) {
	if !IsHand(a) || !IsHand(b) {
		return nil, false
	}
	tiles := tilesIn(a)
	for _, t := range b {
		delete(tiles, t)
	}
	return sortedTiles(tiles), true
}

// MissingFrom returns the tiles of the set of n that are not in a hand. It fails if the hand has a tile that is not in the set.
func MissingFrom(hand []Tile, n int) ([]Tile, bool) {
	if !IsHand(hand) || !isNumber(n) {
		return nil, false
	}
	for _, t := range hand {
		if t.High > n {
			return nil, false
		}
	}
	set, _ := SetOf(n)
	return LessHand(set, hand)
}

// RenameHand returns the hand with each number i replaced by names[i]: names are MaxPips + 1 different numbers in 0..MaxPips.
func RenameHand(hand []Tile, names []int) ([]Tile, bool) {
	if !IsHand(hand) || !areNames(names) {
		return nil, false
	}
	renamed := make([]Tile, len(hand))
	for i, t := range hand {
		renamed[i], _ = TileOf(names[t.Low], names[t.High])
	}
	return SortHand(renamed)
}

// HandText returns for each tile, in the order of the hand, both numbers as digits, the lesser one first, with , between tiles, or - for none.
func HandText(hand []Tile) (string, bool) {
	if !IsHand(hand) {
		return "", false
	}
	if len(hand) == 0 {
		return noTilesText, true
	}
	texts := make([]string, len(hand))
	for i, t := range hand {
		texts[i] = tileText(t)
	}
	return strings.Join(texts, ","), true
}

// ParseHand returns the hand, in the order of the text, with a HandText. It fails if there is none.
func ParseHand(s string) ([]Tile, bool) {
	if s == noTilesText {
		return nil, true
	}
	if len(s) > maxHandText {
		return nil, false
	}
	var hand []Tile
	for _, text := range strings.Split(s, ",") {
		t, ok := parseTile(text)
		if !ok {
			return nil, false
		}
		hand = append(hand, t)
	}
	if !IsHand(hand) {
		return nil, false
	}
	return hand, true
}

// parseTile returns the tile whose two numbers are the digits of a text, the lesser one first.
func parseTile(text string) (Tile, bool) {
	if len(text) != 2 {
		return Tile{}, false
	}
	// A byte that is no digit comes out below 0 or above MaxPips, so IsTile refuses it.
	t := Tile{Low: int(text[0]) - '0', High: int(text[1]) - '0'}
	if !IsTile(t) {
		return Tile{}, false
	}
	return t, true
}

// tileText returns both numbers of a tile as digits, the lesser one first.
func tileText(t Tile) string {
	return strconv.Itoa(t.Low) + strconv.Itoa(t.High)
}

// isNumber reports whether n, which may be any, is in 0..MaxPips.
func isNumber(n int) bool {
	return n >= 0 && n <= MaxPips
}

// areNames reports whether names, which may be any, are MaxPips + 1 different numbers in 0..MaxPips.
func areNames(names []int) bool {
	if len(names) != MaxPips+1 {
		return false
	}
	var used [MaxPips + 1]bool
	for _, name := range names {
		if !isNumber(name) || used[name] {
			return false
		}
		used[name] = true
	}
	return true
}

// timesIn counts how often a number is in a hand.
func timesIn(hand []Tile, number int) int {
	times := 0
	for _, t := range hand {
		if t.Low == number {
			times++
		}
		if t.High == number {
			times++
		}
	}
	return times
}

// tilesIn returns the tiles of a list as a set, in which a tile is there once however often the list has it.
func tilesIn(list []Tile) map[Tile]bool {
	tiles := make(map[Tile]bool, len(list))
	for _, t := range list {
		tiles[t] = true
	}
	return tiles
}

// sortedTiles lists a set of tiles in their order, since a map has none that may be relied on.
func sortedTiles(tiles map[Tile]bool) []Tile {
	list := make([]Tile, 0, len(tiles))
	for t := range tiles {
		list = append(list, t)
	}
	slices.SortFunc(list, compareTiles)
	return list
}

// compareTiles orders tiles by Low, then by High.
func compareTiles(a Tile, b Tile) int {
	return cmp.Or(cmp.Compare(a.Low, b.Low), cmp.Compare(a.High, b.High))
}
