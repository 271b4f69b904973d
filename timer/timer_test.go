package timer_test

import (
	"encoding/binary"
	"math"
	"testing"

	"septum/timer"
)

const top = math.MaxUint32

// values are words near which something ends: what Ctrl has of bits, bytes, halves, signs, the whole.
var values = []uint32{0, 1, 2, 3, 4, 5, 6, 7, 8, 9, 15, 16, 0x7f, 0x80, 0xff, 0x100, 0x7fff, 0x8000, 0xffff, 0x10000, 0x12345678, 0x7fffffff, 0x80000000, 0x80000007, 0xfffffff8, top - 2, top - 1, top}

// noRegs are numbers that are no register's, some of which are one when they are cut to fewer bits.
var noRegs = []int{math.MinInt, math.MinInt + 3, -1 << 32, 1 - 1<<32, 3 - 1<<32, -1 << 31, -1 << 16, -256, -255, -8, -7, -4, -3, -2, -1, 4, 5, 6, 7, 8, 12, 16, 100, 0x100, 0x101, 0x102, 0x103, 1 << 16, 1<<16 + 2, 1 << 31, 1 << 32, 1<<32 + 1, 1<<32 + 2, 1<<32 + 3, 1 << 62, math.MaxInt - 1, math.MaxInt}

// states have each word at the edges, and no two words alike but where that is meant.
var states = []timer.State{
	{}, {Count: 5, Limit: 9, Ctrl: 7, Hits: 3}, {Count: 1, Limit: 2, Ctrl: 3, Hits: 4}, {Count: 11, Limit: 12, Ctrl: 0, Hits: 13}, {Count: 6, Limit: 6, Ctrl: 1}, {Count: 6, Limit: 5, Ctrl: 5, Hits: 1},
	{Count: top, Limit: top - 1, Ctrl: 2, Hits: top}, {Count: top - 1, Limit: top, Ctrl: 5, Hits: top - 1}, {Count: top, Ctrl: 1, Hits: top - 2}, {Limit: 1, Ctrl: 6, Hits: 1}, {Limit: 1, Ctrl: 4},
}

// check holds all that a timer tells against its words, more than once, for nothing is changed by what is asked.
func check(t *testing.T, m *timer.Timer, want timer.State) {
	t.Helper()
	for range 2 {
		if s := m.State(); s != want {
			t.Fatalf("State() is %+v, not %+v", s, want)
		}
		for reg, w := range [4]uint32{want.Count, want.Limit, want.Ctrl, want.Hits} {
			if v := m.Read(reg); v != w {
				t.Fatalf("Read(%d) is %#x, not %#x, of %+v", reg, v, w, want)
			}
		}
		for _, reg := range noRegs {
			if v := m.Read(reg); v != 0 {
				t.Fatalf("Read(%d) is %#x, of %+v", reg, v, want)
			}
		}
		if is, calls := m.Line(), want.Ctrl/2%2 == 1 && want.Hits != 0; is != calls {
			t.Fatalf("Line() is %v, of %+v", is, want)
		}
	}
}

// of is a timer of a state whose Ctrl is at most 7.
func of(t *testing.T, s timer.State) *timer.Timer {
	t.Helper()
	m := timer.Of(s)
	if m == nil {
		t.Fatalf("Of(%+v) is none", s)
	}
	check(t, m, s)
	return m
}

// checkTick holds one tick of a timer of some words against what they are to be behind it.
func checkTick(t *testing.T, s, want timer.State) {
	t.Helper()
	m := of(t, s)
	m.Tick()
	check(t, m, want)
}

// meantTick is what the chapter says of a tick, told another way: without a wrap, and Ctrl as its parts.
func meantTick(s timer.State) timer.State {
	on, again := s.Ctrl%2 == 1, s.Ctrl >= 4
	if !on {
		return s
	}
	s.Count = uint32((uint64(s.Count) + 1) % (1 << 32))
	if s.Count != s.Limit {
		return s
	}
	s.Hits = uint32(min(uint64(s.Hits)+1, top))
	if again {
		s.Count = 0
	} else {
		s.Ctrl--
	}
	return s
}

// meantWrite is what the chapter says of a write, told another way.
func meantWrite(s timer.State, reg int, v uint32) timer.State {
	switch reg {
	case 0:
		return timer.State{Count: v, Limit: s.Limit, Ctrl: s.Ctrl, Hits: s.Hits}
	case 1:
		return timer.State{Count: s.Count, Limit: v, Ctrl: s.Ctrl, Hits: s.Hits}
	case 2:
		return timer.State{Count: s.Count, Limit: s.Limit, Ctrl: v % 8, Hits: s.Hits}
	case 3:
		return timer.State{Count: s.Count, Limit: s.Limit, Ctrl: s.Ctrl}
	}
	return s
}

func TestExample(t *testing.T) { // the chapter's example 1
	m := timer.Of(timer.State{Limit: 2, Ctrl: 7})
	for _, want := range []timer.State{{Count: 1, Limit: 2, Ctrl: 7}, {Limit: 2, Ctrl: 7, Hits: 1}, {Count: 1, Limit: 2, Ctrl: 7, Hits: 1}, {Limit: 2, Ctrl: 7, Hits: 2}} {
		m.Tick()
		check(t, m, want)
	}
	m = timer.New()
	m.Write(1, 2)
	m.Write(2, 3)
	off := timer.State{Count: 2, Limit: 2, Ctrl: 2, Hits: 1}
	for _, want := range []timer.State{{Count: 1, Limit: 2, Ctrl: 3}, off, off, off} {
		m.Tick()
		check(t, m, want)
	}
	m.Write(3, 1)
	check(t, m, timer.State{Count: 2, Limit: 2, Ctrl: 2})
}

func TestNew(t *testing.T) { // P10.1: a fresh timer, a new one each time
	m := timer.New()
	if m == nil || m == timer.New() {
		t.Fatalf("New() is %p", m)
	}
	check(t, m, timer.State{})
	m.Tick()
	check(t, m, timer.State{})
	m.Write(0, 7)
	check(t, timer.New(), timer.State{})
}

func TestOf(t *testing.T) { // P10.1
	for _, s := range states {
		m := of(t, s)
		other := of(t, s)
		if m == other {
			t.Errorf("Of(%+v) is one timer twice", s)
		}
		m.Write(0, s.Count+1)
		m.Write(1, s.Limit+1)
		m.Write(2, s.Ctrl+1)
		m.Write(3, 0)
		check(t, other, s)
	}
}

func TestOfWords(t *testing.T) { // P10.1: each word at the edges, in its own place; of Ctrl the three lowest bits
	for _, v := range values {
		for _, c := range []struct{ of, want timer.State }{
			{timer.State{Count: v}, timer.State{Count: v}}, {timer.State{Limit: v}, timer.State{Limit: v}},
			{timer.State{Ctrl: v}, timer.State{Ctrl: v % 8}}, {timer.State{Hits: v}, timer.State{Hits: v}},
			{timer.State{Count: v, Limit: v, Ctrl: v, Hits: v}, timer.State{Count: v, Limit: v, Ctrl: v % 8, Hits: v}},
		} {
			check(t, timer.Of(c.of), c.want)
		}
	}
}

func TestOfACtrlAboveSeven(t *testing.T) { // P10.1: the bits above change nothing of what a timer does
	for _, high := range []uint32{8, 16, 0x100, 0x80000000, 0xfffffff8} {
		for ctrl := range uint32(8) {
			m := timer.Of(timer.State{Count: 1, Limit: 2, Ctrl: high + ctrl, Hits: 3})
			s := timer.State{Count: 1, Limit: 2, Ctrl: ctrl, Hits: 3}
			check(t, m, s)
			for range 3 {
				m.Tick()
				s = meantTick(s)
				check(t, m, s)
			}
		}
	}
}

func TestWrite(t *testing.T) { // P10.2: each register, with each value; the other words stay
	for _, s := range states {
		for reg := range 4 {
			for _, v := range values {
				m := of(t, s)
				m.Write(reg, v)
				check(t, m, meantWrite(s, reg, v))
			}
		}
	}
}

func TestWriteToNoRegister(t *testing.T) { // P10.2: one below 0, one behind the last one, far beyond
	for _, s := range states {
		m := of(t, s)
		for _, reg := range noRegs {
			for _, v := range values {
				m.Write(reg, v)
			}
			if got := m.State(); got != s {
				t.Fatalf("behind a write to %d it is %+v, not %+v", reg, got, s)
			}
		}
		check(t, m, s)
	}
}

func TestEachRegisterNearby(t *testing.T) { // P10.2: just four of them have a word
	s := timer.State{Count: 0x11, Limit: 0x22, Ctrl: 5, Hits: 0x44}
	for reg := -300; reg <= 300; reg++ {
		want := map[int]uint32{0: 0x11, 1: 0x22, 2: 5, 3: 0x44}[reg]
		m := timer.Of(s)
		if v := m.Read(reg); v != want {
			t.Errorf("Read(%d) is %#x, not %#x", reg, v, want)
		}
		m.Write(reg, 0x1b)
		if got := m.State(); got != meantWrite(s, reg, 0x1b) {
			t.Errorf("behind a write to %d it is %+v", reg, got)
		}
	}
}

func TestCtrlWithMoreBits(t *testing.T) { // P10.2: v's three lowest ones alone, whichever were set
	for was := range uint32(8) {
		for _, c := range []struct{ v, want uint32 }{{8, 0}, {9, 1}, {0xa, 2}, {0xf, 7}, {0x14, 4}, {0xfffffff8, 0}, {0xfffffffa, 2}, {top, 7}, {0x80000005, 5}, {0x100, 0}, {0, 0}} {
			m := timer.Of(timer.State{Count: 3, Limit: 9, Ctrl: was, Hits: 1})
			m.Write(2, c.v)
			check(t, m, timer.State{Count: 3, Limit: 9, Ctrl: c.want, Hits: 1})
		}
	}
}

func TestHitsWritten(t *testing.T) { // P10.2: they are 0, with whatever is written; it calls no more, and hits again
	for _, v := range values {
		for _, hits := range []uint32{0, 1, 2, top - 1, top} {
			m := timer.Of(timer.State{Limit: 1, Ctrl: 7, Hits: hits})
			m.Write(3, v)
			check(t, m, timer.State{Limit: 1, Ctrl: 7})
			m.Tick()
			check(t, m, timer.State{Limit: 1, Ctrl: 7, Hits: 1})
		}
	}
}

func TestTickOfOneThatIsOff(t *testing.T) { // P10.2: nothing, whatever else Ctrl says
	for _, ctrl := range []uint32{0, 2, 4, 6} {
		for _, s := range []timer.State{{Limit: 1}, {Count: 4, Limit: 5, Hits: 3}, {Count: 5, Limit: 5}, {Count: top}, {Count: top - 1, Limit: top, Hits: top}} {
			s.Ctrl = ctrl
			m := of(t, s)
			for range 5 {
				m.Tick()
				check(t, m, s)
			}
		}
	}
}

func TestTick(t *testing.T) { // P10.2: Count is one more; it hits where it is Limit then, and only there
	for _, c := range []struct{ of, want timer.State }{
		{timer.State{Ctrl: 1, Limit: 9}, timer.State{Count: 1, Ctrl: 1, Limit: 9}},
		{timer.State{Count: 7, Ctrl: 1, Limit: 9}, timer.State{Count: 8, Ctrl: 1, Limit: 9}},
		{timer.State{Count: 8, Ctrl: 1, Limit: 9}, timer.State{Count: 9, Limit: 9, Hits: 1}},
		{timer.State{Count: 8, Ctrl: 3, Limit: 9}, timer.State{Count: 9, Ctrl: 2, Limit: 9, Hits: 1}},
		{timer.State{Count: 8, Ctrl: 5, Limit: 9}, timer.State{Ctrl: 5, Limit: 9, Hits: 1}},
		{timer.State{Count: 8, Ctrl: 7, Limit: 9, Hits: 4}, timer.State{Ctrl: 7, Limit: 9, Hits: 5}},
		{timer.State{Count: 9, Ctrl: 7, Limit: 9, Hits: 4}, timer.State{Count: 10, Ctrl: 7, Limit: 9, Hits: 4}},
		{timer.State{Count: 10, Ctrl: 7, Limit: 9, Hits: 4}, timer.State{Count: 11, Ctrl: 7, Limit: 9, Hits: 4}},
		{timer.State{Count: 0xff, Ctrl: 1, Limit: 0x100}, timer.State{Count: 0x100, Limit: 0x100, Hits: 1}},
		{timer.State{Count: 0xffff, Ctrl: 1, Limit: 0}, timer.State{Count: 0x10000, Ctrl: 1}},
		{timer.State{Count: 0x7fffffff, Ctrl: 1, Limit: 1}, timer.State{Count: 0x80000000, Ctrl: 1, Limit: 1}},
	} {
		checkTick(t, c.of, c.want)
	}
}

func TestCountWraps(t *testing.T) { // P10.2: from 2^32 - 1 to 0, which is a hit only of a Limit of 0
	for _, ctrl := range []uint32{1, 3, 5, 7} {
		for _, limit := range []uint32{1, 2, top - 1, top} {
			checkTick(t, timer.State{Count: top, Limit: limit, Ctrl: ctrl, Hits: 3}, timer.State{Limit: limit, Ctrl: ctrl, Hits: 3})
		}
	}
	for ctrl, behind := range map[uint32]uint32{1: 0, 3: 2, 5: 5, 7: 7} {
		checkTick(t, timer.State{Count: top, Ctrl: ctrl, Hits: 3}, timer.State{Ctrl: behind, Hits: 4})
	}
}

func TestLimits(t *testing.T) { // P10.2, P10.4: of 0, of 1, of 2^32 - 1, one below the Count
	for _, ctrl := range []uint32{1, 3} {
		off := ctrl - 1
		checkTick(t, timer.State{Ctrl: ctrl}, timer.State{Count: 1, Ctrl: ctrl})
		checkTick(t, timer.State{Limit: 1, Ctrl: ctrl}, timer.State{Count: 1, Limit: 1, Ctrl: off, Hits: 1})
		checkTick(t, timer.State{Count: top - 1, Limit: top, Ctrl: ctrl}, timer.State{Count: top, Limit: top, Ctrl: off, Hits: 1})
		checkTick(t, timer.State{Count: top - 2, Limit: top, Ctrl: ctrl}, timer.State{Count: top - 1, Limit: top, Ctrl: ctrl})
	}
	for _, ctrl := range []uint32{5, 7} {
		checkTick(t, timer.State{Ctrl: ctrl}, timer.State{Count: 1, Ctrl: ctrl})
		checkTick(t, timer.State{Limit: 1, Ctrl: ctrl}, timer.State{Limit: 1, Ctrl: ctrl, Hits: 1})
		checkTick(t, timer.State{Count: top - 1, Limit: top, Ctrl: ctrl}, timer.State{Limit: top, Ctrl: ctrl, Hits: 1})
	}
	for _, ctrl := range []uint32{1, 3, 5, 7} {
		for _, count := range []uint32{1, 2, 100, 0x80000000, top - 1} {
			checkTick(t, timer.State{Count: count, Limit: count - 1, Ctrl: ctrl}, timer.State{Count: count + 1, Limit: count - 1, Ctrl: ctrl})
			checkTick(t, timer.State{Count: count, Limit: count, Ctrl: ctrl}, timer.State{Count: count + 1, Limit: count, Ctrl: ctrl})
		}
	}
}

func TestLimitBelowTheCount(t *testing.T) { // P10.2: it is hit when Count has wrapped, no earlier
	m := timer.Of(timer.State{Count: top - 1, Limit: 2, Ctrl: 7})
	for _, want := range []timer.State{{Count: top}, {Count: 0}, {Count: 1}, {Count: 0, Hits: 1}, {Count: 1, Hits: 1}, {Count: 0, Hits: 2}} {
		want.Limit, want.Ctrl = 2, 7
		m.Tick()
		check(t, m, want)
	}
}

func TestGreatestHits(t *testing.T) { // P10.2: not above 2^32 - 1; all else of a hit is done there, too
	for _, c := range []struct{ hits, want uint32 }{{top - 2, top - 1}, {top - 1, top}, {top, top}} {
		checkTick(t, timer.State{Count: 4, Limit: 5, Ctrl: 1, Hits: c.hits}, timer.State{Count: 5, Limit: 5, Hits: c.want})
		checkTick(t, timer.State{Count: 4, Limit: 5, Ctrl: 3, Hits: c.hits}, timer.State{Count: 5, Limit: 5, Ctrl: 2, Hits: c.want})
		checkTick(t, timer.State{Count: 4, Limit: 5, Ctrl: 5, Hits: c.hits}, timer.State{Limit: 5, Ctrl: 5, Hits: c.want})
		checkTick(t, timer.State{Count: 3, Limit: 5, Ctrl: 7, Hits: c.hits}, timer.State{Count: 4, Limit: 5, Ctrl: 7, Hits: c.hits})
	}
	m := timer.Of(timer.State{Limit: 1, Ctrl: 7, Hits: top - 2})
	for _, hits := range []uint32{top - 1, top, top, top} {
		m.Tick()
		check(t, m, timer.State{Limit: 1, Ctrl: 7, Hits: hits})
	}
}

func TestEachCtrl(t *testing.T) { // P10.2: a tick that hits, and one that does not, and whether it calls behind them
	for ctrl, c := range []struct {
		hit, not timer.State
		calls    bool
	}{
		0: {timer.State{Count: 4}, timer.State{Count: 2}, false},
		1: {timer.State{Count: 5, Hits: 1}, timer.State{Count: 3, Ctrl: 1}, false},
		2: {timer.State{Count: 4, Ctrl: 2}, timer.State{Count: 2, Ctrl: 2}, false},
		3: {timer.State{Count: 5, Ctrl: 2, Hits: 1}, timer.State{Count: 3, Ctrl: 3}, true},
		4: {timer.State{Count: 4, Ctrl: 4}, timer.State{Count: 2, Ctrl: 4}, false},
		5: {timer.State{Ctrl: 5, Hits: 1}, timer.State{Count: 3, Ctrl: 5}, false},
		6: {timer.State{Count: 4, Ctrl: 6}, timer.State{Count: 2, Ctrl: 6}, false},
		7: {timer.State{Ctrl: 7, Hits: 1}, timer.State{Count: 3, Ctrl: 7}, true},
	} {
		c.hit.Limit, c.not.Limit = 5, 5
		checkTick(t, timer.State{Count: 4, Limit: 5, Ctrl: uint32(ctrl)}, c.hit)
		checkTick(t, timer.State{Count: 2, Limit: 5, Ctrl: uint32(ctrl)}, c.not)
		m := timer.Of(timer.State{Count: 4, Limit: 5, Ctrl: uint32(ctrl)})
		m.Tick()
		if m.Line() != c.calls {
			t.Errorf("of Ctrl %d, behind a tick that may hit, Line() is %v", ctrl, !c.calls)
		}
	}
}

func TestLine(t *testing.T) { // P10.2: with Hits 0 and above, with the bit and without, on or not
	for ctrl, bit := range []bool{false, false, true, true, false, false, true, true} {
		for _, hits := range []uint32{0, 1, 2, 0x100, 0x10000, 0x80000000, top - 1, top} {
			m := timer.Of(timer.State{Ctrl: uint32(ctrl), Hits: hits})
			if is := m.Line(); is != (bit && hits > 0) {
				t.Errorf("of Ctrl %d and Hits %d Line() is %v", ctrl, hits, is)
			}
		}
	}
}

func TestLineComesAndGoes(t *testing.T) { // P10.2: with the bit, with the hits
	m := timer.Of(timer.State{Limit: 1, Ctrl: 1})
	m.Tick()
	for _, c := range []struct {
		reg   int
		v     uint32
		calls bool
	}{{2, 0, false}, {2, 2, true}, {2, 5, false}, {2, 0xfffffffd, false}, {2, 0xfa, true}, {0, 9, true}, {1, 9, true}, {-1, 0, true}, {4, 0, true}, {3, 7, false}, {2, 7, false}} {
		m.Write(c.reg, c.v)
		if is := m.Line(); is != c.calls {
			t.Errorf("behind %d written to %d Line() is %v", c.v, c.reg, is)
		}
	}
}

func TestAWriteIsNoHit(t *testing.T) { // P10.2: only a tick hits, though Count is Limit
	m := timer.Of(timer.State{Count: 3, Limit: 9, Ctrl: 7})
	m.Write(0, 9)
	check(t, m, timer.State{Count: 9, Limit: 9, Ctrl: 7})
	m.Tick()
	check(t, m, timer.State{Count: 10, Limit: 9, Ctrl: 7})
	m.Write(1, 11)
	m.Tick()
	check(t, m, timer.State{Limit: 11, Ctrl: 7, Hits: 1})
	m.Write(0, 10)
	m.Write(2, 1)
	m.Tick()
	check(t, m, timer.State{Count: 11, Limit: 11, Hits: 2})
	m.Write(2, 1) // on again: it goes on from where it stood
	m.Tick()
	check(t, m, timer.State{Count: 12, Limit: 11, Ctrl: 1, Hits: 2})
}

func TestStateHandedOut(t *testing.T) { // P10.1, R3: whatever is done to it, or to the timer behind; one handed in, too
	s := timer.State{Count: 1, Limit: 2, Ctrl: 7, Hits: 3}
	was := s
	m := timer.Of(s)
	s = timer.State{Count: 9, Limit: 9, Ctrl: 1, Hits: 9}
	check(t, m, was)
	out := m.State()
	out.Count, out.Limit, out.Ctrl, out.Hits = 8, 8, 0xff, 8
	check(t, m, was)
	out = m.State()
	m.Tick()
	m.Write(1, 7)
	if out != was || s.Count != 9 {
		t.Errorf("a state handed out became %+v, one handed in %+v", out, s)
	}
	check(t, m, timer.State{Limit: 7, Ctrl: 7, Hits: 4})
}

// checkNone asks for all that is promised of no timer, more than once, for nothing must have come of it.
func checkNone(t *testing.T, name string, m *timer.Timer) {
	t.Helper()
	t.Run(name, func(t *testing.T) {
		for range 2 {
			check(t, m, timer.State{})
			for reg := -9; reg < 9; reg++ {
				for _, v := range values {
					m.Write(reg, v)
				}
			}
			for _, reg := range noRegs {
				m.Write(reg, 7)
			}
			m.Write(1, 1)
			m.Write(2, 7)
			m.Tick()
			m.Write(1, 2)
			m.Tick()
			check(t, m, timer.State{})
		}
	})
}

func TestNoTimer(t *testing.T) { // P10.3
	checkNone(t, "nil", nil)
	var none *timer.Timer
	checkNone(t, "a variable that points to none", none)
}

func TestTimerOfNoCall(t *testing.T) { // P10.3, R5
	checkNone(t, "new", new(timer.Timer))
	checkNone(t, "a literal", &timer.Timer{})
	var zero timer.Timer
	checkNone(t, "a variable", &zero)
	s := timer.State{Count: 1, Limit: 5, Ctrl: 7, Hits: 3}
	for _, m := range []*timer.Timer{timer.New(), timer.Of(s)} {
		was := m.State()
		value := *m
		checkNone(t, "a timer's value", &value)
		check(t, m, was) // what was asked of its value has not touched it
	}
}

func TestTimersAreApart(t *testing.T) { // R5: no timer knows of another one
	a, b := timer.New(), timer.Of(timer.State{Limit: 2, Ctrl: 5})
	a.Write(0, 9)
	b.Tick()
	check(t, a, timer.State{Count: 9})
	check(t, b, timer.State{Count: 1, Limit: 2, Ctrl: 5})
	a.Tick()
	b.Tick()
	check(t, a, timer.State{Count: 9})
	check(t, b, timer.State{Limit: 2, Ctrl: 5, Hits: 1})
}

func TestOneThatBeginsAgain(t *testing.T) { // P10.4: of a Limit above its Count it hits each Limit ticks
	for _, limit := range []uint32{1, 2, 3, 5, 8, 100, 257} {
		for _, ctrl := range []uint32{5, 7} {
			m := timer.Of(timer.State{Limit: limit, Ctrl: ctrl})
			for n := uint32(1); n <= 4*limit; n++ {
				m.Tick()
				want := timer.State{Count: n % limit, Limit: limit, Ctrl: ctrl, Hits: n / limit}
				if s := m.State(); s != want {
					t.Fatalf("behind %d ticks it is %+v, not %+v", n, s, want)
				}
			}
		}
	}
	m := timer.Of(timer.State{Count: 3, Limit: 5, Ctrl: 5}) // what is left of the first time, then all of Limit
	for n, hits := range []uint32{0, 1, 1, 1, 1, 1, 2, 2, 2, 2, 2, 3} {
		m.Tick()
		if got := m.Read(3); got != hits {
			t.Errorf("behind %d ticks there are %d hits, not %d", n+1, got, hits)
		}
	}
}

func TestOneThatDoesNot(t *testing.T) { // P10.4: it hits once, and stays
	for _, limit := range []uint32{1, 2, 3, 5, 8, 100} {
		for _, ctrl := range []uint32{1, 3} {
			m := timer.Of(timer.State{Limit: limit, Ctrl: ctrl})
			for n := uint32(1); n <= 4*limit; n++ {
				m.Tick()
				want := timer.State{Count: n, Limit: limit, Ctrl: ctrl}
				if n >= limit {
					want = timer.State{Count: limit, Limit: limit, Ctrl: ctrl - 1, Hits: 1}
				}
				if s := m.State(); s != want {
					t.Fatalf("behind %d ticks it is %+v, not %+v", n, s, want)
				}
			}
		}
	}
}

func TestEdgesByEdges(t *testing.T) { // P10.2: a tick of each Count, Limit and Hits at the edges, of each Ctrl, held against what is told another way
	for _, count := range values {
		for _, limit := range append([]uint32{count - 1, count, count + 1, count + 2}, values...) {
			for _, hits := range []uint32{0, 1, top - 2, top - 1, top} {
				for ctrl := range uint32(8) {
					s := timer.State{Count: count, Limit: limit, Ctrl: ctrl, Hits: hits}
					m := timer.Of(s)
					m.Tick()
					if got, want := m.State(), meantTick(s); got != want {
						t.Fatalf("behind a tick %+v is %+v, not %+v", s, got, want)
					}
				}
			}
		}
	}
}

// play does to a timer, and to words, what a text says, six of its bytes a step, and holds both against each other at each step.
func play(t *testing.T, s timer.State, text []byte) {
	m := timer.Of(s)
	s.Ctrl %= 8
	check(t, m, s)
	for ; len(text) >= 6; text = text[6:] {
		v := binary.LittleEndian.Uint32(text[2:])
		switch text[0] % 4 {
		case 0: // near enough to be hit
			m.Write(1, s.Count+v%4)
			s.Limit = s.Count + v%4
		case 1:
			reg := int(text[1])%8 - 2
			m.Write(reg, v)
			s = meantWrite(s, reg, v)
		default:
			m.Tick()
			s = meantTick(s)
		}
		check(t, m, s)
	}
}

func TestPlay(t *testing.T) { // P10.1, P10.2
	seed := uint32(1)
	text := make([]byte, 6*2000)
	for i := range text {
		seed = seed*1664525 + 1013904223
		text[i] = byte(seed >> 24)
	}
	for _, s := range states {
		play(t, s, text)
	}
}

func FuzzTimer(f *testing.F) { // P10.1, P10.2
	f.Add(uint32(0), uint32(2), uint32(7), uint32(0), []byte{2, 0, 0, 0, 0, 0, 2, 0, 0, 0, 0, 0})
	f.Add(uint32(top), uint32(0), uint32(0xff), uint32(top), []byte{3, 0, 0, 0, 0, 0, 1, 4, 9, 0, 0, 0, 0, 0, 1, 0, 0, 0})
	f.Fuzz(func(t *testing.T, count, limit, ctrl, hits uint32, text []byte) {
		play(t, timer.State{Count: count, Limit: limit, Ctrl: ctrl, Hits: hits}, text[:min(len(text), 600)])
	})
}
