package impl

import "testing"

// No hand that AllWindows takes has more than MaxWindows windows, so its limit is tested here, with lower ones and with greater hands.

func TestPromise6LimitOfWindows(t *testing.T) {
	for _, c := range []struct {
		text  string
		count int
		most  int
		ok    bool
	}{
		{"24,25,26,33,34,35,36,44,45", 58, 58, true},
		{"24,25,26,33,34,35,36,44,45", 58, 57, false},
		{"01,02,03,05,12,13,14,22,23,24,25,33,34,35,44,55", 200, MaxWindows, true},
		{"01,02,03,05,11,12,13,14,15,23,24,25,33,34,44", 201, MaxWindows, false},
		{"01,02,03,05,11,12,13,14,15,23,24,25,33,34,44", 201, 201, true},
		{"00,11,22,33", 0, 0, true},
	} {
		hand, _ := ParseHand(c.text)
		all, ok := fairWindows(hand, c.most)
		if ok != c.ok || ok && len(all) != c.count || !ok && len(all) != 0 {
			t.Error("windows of", c.text, "with a limit of", c.most, "are", len(all), ok)
		}
	}
}
