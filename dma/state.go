package dma

// state is an engine's. One that is busy has words left; one that is not busy holds nothing.
type state struct {
	from, to, left, holds          uint32
	has, busy, denied, done, calls bool
}

func stateOf(s State) state {
	now := state{from: s.From, to: s.To, left: s.Left, denied: s.Denied, done: s.Done, calls: s.Calls}
	now.busy = s.Busy && s.Left > 0
	if now.busy && s.Has {
		now.hold(s.Holds)
	}
	return now
}

func (s *state) told() State {
	return State{
		From: s.from, To: s.to, Left: s.left, Holds: s.holds,
		Has: s.has, Busy: s.busy, Denied: s.denied, Done: s.done, Calls: s.calls,
	}
}

func (s *state) hold(v uint32) { s.holds, s.has = v, true }

func (s *state) drop() { s.holds, s.has = 0, false }

func (s *state) begin() {
	if s.left == 0 {
		s.done = true
		return
	}
	s.busy = true
}

func (s *state) stop() {
	s.drop()
	s.busy = false
}

func (s *state) line() bool { return s.calls && (s.denied || s.done) }
