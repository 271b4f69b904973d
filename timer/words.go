package timer

import "septum/word"

// control is the bits of Ctrl.
type control uint32

const (
	on control = 1 << iota
	calls
	again // it begins again when it hits
)

// controlOf are those bits of a word that mean something.
func controlOf(v uint32) control { return control(v) & (on | calls | again) }

func (c control) has(bit control) bool { return c&bit != 0 }

// words are those of a timer.
type words struct {
	count, limit, hits uint32
	ctrl               control
}

func wordsOf(s State) words {
	return words{count: s.Count, limit: s.Limit, hits: s.Hits, ctrl: controlOf(s.Ctrl)}
}

func (t *Timer) state() State {
	return State{Count: t.count, Limit: t.limit, Ctrl: uint32(t.ctrl), Hits: t.hits}
}

func (t *Timer) tick() {
	if !t.ctrl.has(on) {
		return
	}
	t.count, _ = word.Add(t.count, 1)
	if t.count == t.limit {
		t.hit()
	}
}

func (t *Timer) hit() {
	if more, over := word.Add(t.hits, 1); !over {
		t.hits = more
	}
	if t.ctrl.has(again) {
		t.count = 0
		return
	}
	t.ctrl &^= on
}

func (t *Timer) line() bool { return t.ctrl.has(calls) && t.hits > 0 }
