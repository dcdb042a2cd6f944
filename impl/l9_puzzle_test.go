package impl

import "testing"

// No puzzle has just MaxSolutions solutions, so that limit is met exactly here, with lower ones and with a greater hand.

func TestPromise9LimitOfSolutions(t *testing.T) {
	for _, c := range []struct {
		hand  string
		place int
		count int
		most  int
		ok    bool
	}{
		{"00,01,02,03,04,12,13,14", -1, 192, MaxSolutions, true},
		{"00,01,02,03,04,12,13,14", -1, 192, 192, true},
		{"00,01,02,03,04,12,13,14", -1, 192, 191, false},
		{"00,01,02,03,04,11,12,23,24", -1, 216, 216, true},
		{"00,01,02,03,04,11,12,23,24", -1, 216, 215, false},
		{"00,01,02,03,04,11,12,23,24", -1, 216, MaxSolutions, false},
		{"00,01,02,03,11,12,13,14,22,23,24", 5, 200, MaxSolutions, true},
		{"00,01,02,03,11,12,13,14,22,23,24", 5, 200, 199, false},
		{"00,01,02,03,11,12,13,14,22,23,24", -1, 704, MaxSolutions, false},
		{"55", -1, 1, 1, true},
		{"01", -1, 2, 1, false},
		{"00,11", -1, 0, 1, true},
	} {
		hand, _ := ParseHand(c.hand)
		p := Puzzle{Hand: hand, Chain: make([]int, len(hand)+1)}
		for place := range p.Chain {
			p.Chain[place] = gap
		}
		if c.place >= 0 {
			p.Chain[c.place] = 2
		}
		all, ok := p.solutions(c.most)
		if ok != c.ok || ok && len(all) != c.count || !ok && len(all) != 0 {
			t.Error("solutions of", c.hand, "with a limit of", c.most, "are", len(all), ok)
		}
	}
}
