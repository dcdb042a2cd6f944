package impl

import "testing"

// No hand that AllChains takes has more than MaxChains chains, so its limit is tested here, with lower ones and with a greater hand.

func TestPromise2LimitOfChains(t *testing.T) {
	hand, _ := ParseHand("00,01,02,03,04,12,13,14")
	all, ok := wholeChains(hand, 192)
	if len(all) != 192 || !ok {
		t.Error("a limit met exactly:", len(all), ok)
	}
	all, ok = wholeChains(hand, 191)
	if len(all) != 0 || ok {
		t.Error("one chain too many:", len(all), ok)
	}
	hand, _ = ParseHand("01,02,03,04,12,13,14,23,24,34")
	all, ok = wholeChains(hand, MaxChains)
	if len(all) != 0 || ok {
		t.Error("more than MaxChains chains:", len(all), ok)
	}
}
