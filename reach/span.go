package reach

import (
	"cmp"

	"septum/api"
)

// span is a reach at work.
type span struct{ api.Reach }

func (s span) right() bool { return s.From <= s.To }

func (s span) wrong() bool { return !s.right() }

// has needs not ask whether s is right: no address is between ends that stand the wrong way round.
func (s span) has(addr uint32) bool { return s.From <= addr && addr <= s.To }

// both is from the later From to the sooner To. It is right just if s and t are, and meet: ends that stand the wrong way round are only drawn further past each other.
func (s span) both(t span) span {
	return span{api.Reach{From: max(s.From, t.From), To: min(s.To, t.To)}}
}

func (s span) meets(t span) bool { return s.both(t).right() }

// in asks of s alone whether it is right: where both is s, t is then right as well.
func (s span) in(t span) bool { return s.right() && s.both(t) == s }

func (s span) order(t span) int {
	return cmp.Or(cmp.Compare(s.From, t.From), cmp.Compare(s.To, t.To))
}

func (s span) less(t span) bool { return s.order(t) < 0 }

// spans are new memory, so that they may be put in order.
func spans(l []api.Reach) []span {
	row := make([]span, len(l))
	for i, r := range l {
		row[i] = span{r}
	}
	return row
}

// ofTwo says whether something holds of two reaches.
func ofTwo(holds func(a, b span) bool, a, b api.Reach) bool { return holds(span{a}, span{b}) }

// ofNeighbours says whether something holds of any two that stand side by side.
func ofNeighbours(holds func(a, b span) bool, row []span) bool {
	for i := 1; i < len(row); i++ {
		if holds(row[i-1], row[i]) {
			return true
		}
	}
	return false
}
