package impl

import "testing"

// No game has as many moves as PlayMoves makes, so its limit is tested here, with lower ones.

func TestPromise7LimitOfMoves(t *testing.T) {
	first, _ := ParseHand("01,12")
	second, _ := ParseHand("22,00")
	g, _ := GameOf(first, second)
	moves := []string{"01l", "00l", "12r"}
	for most := range 5 {
		behind, ok := g.behindMoves(moves, most)
		if ok != (most >= len(moves)) || ok != (len(behind.Row) > 0) {
			t.Error("three moves with a limit of", most, "lead to", behind, ok)
		}
	}
	if maxMoves != 100 {
		t.Error("the limit of PlayMoves is", maxMoves)
	}
}
