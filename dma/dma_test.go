package dma_test

import (
	"math"
	"testing"

	"septum/dma"
)

const top = math.MaxUint32

// values are words near which something ends: what register 3 has of bits, bytes, halves, signs, the whole.
var values = []uint32{0, 1, 2, 3, 4, 5, 7, 8, 0x10, 0x7f, 0x80, 0xff, 0x100, 0x101, 0x102, 0x103, 0x107, 0x1ff, 0x200, 0x201, 0x7fff, 0x8000, 0xffff, 0x10000, 0x10101, 0x12345678, 0x7fffffff, 0x80000000, 0x80000101, top - 0x101, top - 0x100, top - 4, top - 3, top - 1, top}

// noRegs are numbers that are no register's, some of which are one when they are cut to fewer bits.
var noRegs = []int{math.MinInt, math.MinInt + 3, -1 << 32, 1 - 1<<32, 3 - 1<<32, -1 << 31, -1 << 16, -256, -255, -8, -7, -5, -4, -3, -2, -1, 5, 6, 7, 8, 9, 12, 16, 100, 0x100, 0x101, 0x102, 0x103, 0x104, 1 << 16, 1<<16 + 2, 1 << 31, 1 << 32, 1<<32 + 1, 1<<32 + 2, 1<<32 + 3, 1<<32 + 4, 1 << 62, math.MaxInt - 1, math.MaxInt}

// flagged is a state with those flags that the bits of n say.
func flagged(s dma.State, n int) dma.State {
	s.Has, s.Busy, s.Denied, s.Done, s.Calls = n%2 == 1, n/2%2 == 1, n/4%2 == 1, n/8%2 == 1, n/16%2 == 1
	return s
}

// anyStates are of all flags together, with each Left and Holds at the edges, whether or not an engine may be so.
func anyStates() []dma.State {
	var l []dma.State
	for n := range 32 {
		for _, left := range []uint32{0, 1, 2, 0x80000000, top} {
			for _, holds := range []uint32{0, 7, top} {
				l = append(l, flagged(dma.State{From: 0x10, To: 0x20, Left: left, Holds: holds}, n))
			}
		}
	}
	return l
}

// states are those in which an engine may be.
func states() []dma.State {
	var l []dma.State
	for _, s := range anyStates() {
		if s == meantOf(s) {
			l = append(l, s)
		}
	}
	return l
}

// meantOf is what the chapter says of an engine that is made of a state, told another way.
func meantOf(s dma.State) dma.State {
	switch {
	case !s.Busy || s.Left == 0:
		return dma.State{From: s.From, To: s.To, Left: s.Left, Denied: s.Denied, Done: s.Done, Calls: s.Calls}
	case !s.Has:
		return dma.State{From: s.From, To: s.To, Left: s.Left, Busy: true, Denied: s.Denied, Done: s.Done, Calls: s.Calls}
	}
	return s
}

// meantCtrl is what the chapter says of a read of 3.
func meantCtrl(s dma.State) uint32 {
	var v uint32
	for bit, is := range map[uint32]bool{1: s.Busy, 2: s.Denied, 4: s.Done, 256: s.Calls} {
		if is {
			v += bit
		}
	}
	return v
}

// meantWrite is what the chapter says of a write, told another way.
func meantWrite(s dma.State, reg int, v uint32) dma.State {
	switch {
	case reg == 0 && !s.Busy:
		s.From = v
	case reg == 1 && !s.Busy:
		s.To = v
	case reg == 2 && !s.Busy:
		s.Left = v
	case reg == 3:
		s.Calls = v/256%2 == 1
		if v%2 == 0 {
			s.Busy, s.Has, s.Holds = false, false, 0
		} else if !s.Busy {
			s.Has, s.Holds = false, 0
			s.Busy, s.Done = s.Left > 0, s.Done || s.Left == 0
		}
	case reg == 4:
		s.Denied, s.Done = false, false
	}
	return s
}

// check holds all that an engine tells against a state, more than once, for nothing is changed by what is asked.
func check(t *testing.T, e *dma.Engine, want dma.State) {
	t.Helper()
	for range 2 {
		if s := e.State(); s != want {
			t.Fatalf("State() is %+v, not %+v", s, want)
		}
		for reg, w := range [5]uint32{want.From, want.To, want.Left, meantCtrl(want), 0} {
			if v := e.Read(reg); v != w {
				t.Fatalf("Read(%d) is %#x, not %#x, of %+v", reg, v, w, want)
			}
		}
		for _, reg := range noRegs {
			if v := e.Read(reg); v != 0 {
				t.Fatalf("Read(%d) is %#x, of %+v", reg, v, want)
			}
		}
		if is, calls := e.Line(), want.Calls && (want.Denied || want.Done); is != calls {
			t.Fatalf("Line() is %v, of %+v", is, want)
		}
	}
}

// of is an engine of a state in which one may be.
func of(t *testing.T, s dma.State) *dma.Engine {
	t.Helper()
	e := dma.Of(s)
	if e == nil {
		t.Fatalf("Of(%+v) is none", s)
	}
	check(t, e, s)
	return e
}

func TestNew(t *testing.T) { // P14.1: a fresh engine, a new one each time
	e := dma.New()
	if e == nil || e == dma.New() {
		t.Fatalf("New() is %p", e)
	}
	check(t, e, dma.State{})
	e.Write(0, 7)
	e.Write(2, 1)
	e.Write(3, 0x101)
	check(t, dma.New(), dma.State{})
	check(t, dma.Of(dma.State{}), dma.State{})
}

func TestOf(t *testing.T) { // P14.1: of any state: Holds without Has, Has without Busy, Busy with Left 0
	for _, c := range []struct{ of, want dma.State }{
		{dma.State{Holds: 9}, dma.State{}},
		{dma.State{Holds: 9, Has: true}, dma.State{}},
		{dma.State{Left: 3, Holds: 9, Has: true}, dma.State{Left: 3}},
		{dma.State{Busy: true}, dma.State{}},
		{dma.State{Holds: 9, Has: true, Busy: true}, dma.State{}},
		{dma.State{Left: 1, Holds: 9, Busy: true}, dma.State{Left: 1, Busy: true}},
		{dma.State{Left: 1, Holds: 9, Has: true, Busy: true}, dma.State{Left: 1, Holds: 9, Has: true, Busy: true}},
		{dma.State{Left: 1, Has: true, Busy: true}, dma.State{Left: 1, Has: true, Busy: true}},
		{dma.State{Holds: 9, Has: true, Busy: true, Denied: true, Done: true, Calls: true}, dma.State{Denied: true, Done: true, Calls: true}},
		{dma.State{Left: top, Busy: true, Denied: true, Done: true, Calls: true}, dma.State{Left: top, Busy: true, Denied: true, Done: true, Calls: true}},
	} {
		check(t, dma.Of(c.of), c.want)
	}
	for _, s := range anyStates() {
		check(t, dma.Of(s), meantOf(s))
		check(t, dma.Of(dma.Of(s).State()), meantOf(s))
	}
}

func TestOfWords(t *testing.T) { // P14.1: each word at the edges, in its own place
	for _, v := range values {
		for _, s := range []dma.State{{From: v}, {To: v}, {Left: v}, {From: v, To: v, Left: v}, {From: v, To: 1, Left: 2, Calls: true}} {
			of(t, s)
		}
		of(t, dma.State{From: 1, To: 2, Left: 3, Holds: v, Has: true, Busy: true})
	}
}

func TestStateHandedOut(t *testing.T) { // P14.1, R3: whatever is done to it, or to the engine behind; one handed in, too
	s := dma.State{From: 1, To: 2, Left: 3, Holds: 4, Has: true, Busy: true, Denied: true}
	was := s
	e := dma.Of(s)
	s = dma.State{From: 9, Done: true}
	check(t, e, was)
	out := e.State()
	out = dma.State{Left: out.Left + 1, Calls: true}
	check(t, e, was)
	out = e.State()
	e.Write(3, 256)
	e.Write(0, 7)
	if out != was || s.From != 9 {
		t.Errorf("a state handed out became %+v, one handed in %+v", out, s)
	}
	check(t, e, dma.State{From: 7, To: 2, Left: 3, Denied: true, Calls: true})
}

func TestWrite(t *testing.T) { // P14.2: each register, with each value, of one that is busy and of one that is not; all else stays
	for _, s := range states() {
		for reg := range 5 {
			for _, v := range values {
				e := dma.Of(s)
				e.Write(reg, v)
				if got, want := e.State(), meantWrite(s, reg, v); got != want {
					t.Fatalf("behind %#x written to %d %+v is %+v, not %+v", v, reg, s, got, want)
				}
				check(t, e, meantWrite(s, reg, v))
			}
		}
	}
}

func TestWriteOfABusyOne(t *testing.T) { // P14.2: its words stay, till it is stopped
	s := dma.State{From: 0x10, To: 0x20, Left: 2, Holds: 7, Has: true, Busy: true}
	e := of(t, s)
	for reg := range 3 {
		for _, v := range values {
			e.Write(reg, v)
			check(t, e, s)
		}
	}
	e.Write(3, 0)
	check(t, e, dma.State{From: 0x10, To: 0x20, Left: 2})
	for reg := range 3 {
		e.Write(reg, uint32(reg)+5)
	}
	check(t, e, dma.State{From: 5, To: 6, Left: 7})
}

func TestNoRegister(t *testing.T) { // P14.2: one below 0, one behind the last one, far beyond
	for _, s := range states() {
		e := dma.Of(s)
		for _, reg := range noRegs {
			for _, v := range values {
				e.Write(reg, v)
			}
			if got := e.State(); got != s {
				t.Fatalf("behind a write to %d it is %+v, not %+v", reg, got, s)
			}
		}
		check(t, e, s)
	}
}

func TestEachRegisterNearby(t *testing.T) { // P14.2: just four of them tell something, just five do something
	for _, s := range []dma.State{{From: 0x11, To: 0x22, Left: 0x33, Denied: true, Done: true}, {From: 0x11, To: 0x22, Left: 0x33, Holds: 5, Has: true, Busy: true, Denied: true, Calls: true}} {
		for reg := -300; reg <= 300; reg++ {
			want := map[int]uint32{0: 0x11, 1: 0x22, 2: 0x33, 3: meantCtrl(s)}[reg]
			e := dma.Of(s)
			if v := e.Read(reg); v != want {
				t.Errorf("Read(%d) is %#x, not %#x", reg, v, want)
			}
			e.Write(reg, 0x1ab)
			if got := e.State(); got != meantWrite(s, reg, 0x1ab) {
				t.Errorf("behind a write to %d it is %+v", reg, got)
			}
		}
	}
}

func TestCtrlRead(t *testing.T) { // P14.2: each bit by itself, and all of them together
	for _, c := range []struct {
		of   dma.State
		want uint32
	}{
		{dma.State{}, 0}, {dma.State{Left: 1, Busy: true}, 1}, {dma.State{Denied: true}, 2}, {dma.State{Done: true}, 4}, {dma.State{Calls: true}, 256},
		{dma.State{Left: 1, Busy: true, Has: true, Holds: top}, 1}, {dma.State{Left: top, Holds: top, Has: true}, 0}, {dma.State{Denied: true, Done: true}, 6}, {dma.State{Left: 1, Busy: true, Denied: true, Done: true, Calls: true}, 263},
	} {
		if v := dma.Of(c.of).Read(3); v != c.want {
			t.Errorf("of %+v Read(3) is %d, not %d", c.of, v, c.want)
		}
	}
}

func TestBegin(t *testing.T) { // P14.2: with Left 0, with Left above 0, again while it is busy
	for _, c := range []struct{ of, want dma.State }{
		{dma.State{}, dma.State{Done: true}},
		{dma.State{Done: true}, dma.State{Done: true}},
		{dma.State{Denied: true}, dma.State{Denied: true, Done: true}},
		{dma.State{Left: 1}, dma.State{Left: 1, Busy: true}},
		{dma.State{Left: top}, dma.State{Left: top, Busy: true}},
		{dma.State{Left: 1, Denied: true, Done: true}, dma.State{Left: 1, Busy: true, Denied: true, Done: true}},
		{dma.State{Left: 1, Busy: true}, dma.State{Left: 1, Busy: true}},
		{dma.State{Left: 1, Holds: 7, Has: true, Busy: true}, dma.State{Left: 1, Holds: 7, Has: true, Busy: true}},
		{dma.State{Left: 2, Has: true, Busy: true, Denied: true}, dma.State{Left: 2, Has: true, Busy: true, Denied: true}},
	} {
		c.of.From, c.of.To, c.want.From, c.want.To = 8, 9, 8, 9
		for _, calls := range []bool{false, true} {
			c.of.Calls = calls
			e := of(t, c.of)
			c.want.Calls = false
			e.Write(3, 1)
			check(t, e, c.want)
			e = of(t, c.of)
			c.want.Calls = true
			e.Write(3, 257)
			check(t, e, c.want)
		}
	}
}

func TestStop(t *testing.T) { // P14.2: it is not busy, and holds nothing; all else stays
	for _, c := range []struct{ of, want dma.State }{
		{dma.State{}, dma.State{}},
		{dma.State{Left: 3, Denied: true, Done: true}, dma.State{Left: 3, Denied: true, Done: true}},
		{dma.State{Left: 3, Busy: true}, dma.State{Left: 3}},
		{dma.State{Left: 3, Holds: 7, Has: true, Busy: true}, dma.State{Left: 3}},
		{dma.State{Left: 3, Has: true, Busy: true, Denied: true, Done: true}, dma.State{Left: 3, Denied: true, Done: true}},
	} {
		c.of.From, c.of.To, c.want.From, c.want.To = 8, 9, 8, 9
		for _, v := range []uint32{0, 256, 2, 4, 6, 258, 0x80000000, top - 1, top - 0x101} {
			e := of(t, c.of)
			e.Write(3, v)
			c.want.Calls = v&256 != 0
			check(t, e, c.want)
		}
	}
}

func TestEachBitOfCtrl(t *testing.T) { // P14.2: the bits 0 and 8 say something, all others nothing
	for bit := range 32 {
		for _, c := range []struct{ of, zero, one, eight dma.State }{
			{dma.State{}, dma.State{}, dma.State{Done: true}, dma.State{Calls: true}},
			{dma.State{Left: 2, Calls: true}, dma.State{Left: 2}, dma.State{Left: 2, Busy: true}, dma.State{Left: 2, Calls: true}},
			{dma.State{Left: 2, Holds: 5, Has: true, Busy: true, Calls: true}, dma.State{Left: 2}, dma.State{Left: 2, Holds: 5, Has: true, Busy: true}, dma.State{Left: 2, Calls: true}},
		} {
			want := c.zero
			switch bit {
			case 0:
				want = c.one
			case 8:
				want = c.eight
			}
			e := of(t, c.of)
			e.Write(3, 1<<bit)
			check(t, e, want)
		}
	}
}

func TestForget(t *testing.T) { // P14.2: register 4, of one that is denied, done, both, busy; whatever is written
	for _, s := range states() {
		want := s
		want.Denied, want.Done = false, false
		for _, v := range values {
			e := dma.Of(s)
			e.Write(4, v)
			check(t, e, want)
		}
	}
}

func TestLine(t *testing.T) { // P14.3: with a call and without, denied and done and not
	for _, c := range []struct{ calls, denied, done, want bool }{
		{}, {calls: true}, {denied: true}, {done: true}, {denied: true, done: true},
		{calls: true, denied: true, want: true}, {calls: true, done: true, want: true}, {calls: true, denied: true, done: true, want: true},
	} {
		for _, s := range []dma.State{{}, {Left: 4}, {Left: 4, Busy: true}, {Left: 4, Busy: true, Has: true, Holds: 3}} {
			s.Calls, s.Denied, s.Done = c.calls, c.denied, c.done
			if is := dma.Of(s).Line(); is != c.want {
				t.Errorf("of %+v Line() is %v", s, is)
			}
		}
	}
}

func TestLineComesAndGoes(t *testing.T) { // P14.3: with the bit, with what it was told
	e := dma.New()
	for _, c := range []struct {
		reg   int
		v     uint32
		calls bool
	}{{3, 256, false}, {3, 1, false}, {3, 0, false}, {3, 256, true}, {3, 0xff, false}, {3, 257, true}, {2, 5, true}, {3, 257, true}, {0, 1, true}, {-1, 0, true}, {5, 0, true}, {3, 256, true}, {4, 0, false}, {3, 257, false}} {
		e.Write(c.reg, c.v)
		if is := e.Line(); is != c.calls {
			t.Errorf("behind %d written to %d Line() is %v", c.v, c.reg, is)
		}
	}
}

// checkNone asks for all that is promised of no engine, more than once, for nothing must have come of it.
func checkNone(t *testing.T, name string, e *dma.Engine) {
	t.Helper()
	t.Run(name, func(t *testing.T) {
		for range 2 {
			check(t, e, dma.State{})
			for reg := -9; reg < 9; reg++ {
				for _, v := range values {
					e.Write(reg, v)
				}
			}
			e.Write(2, 1)
			e.Write(3, 257)
			checkNoStep(t, e)
			check(t, e, dma.State{})
		}
	})
}

func TestNoEngine(t *testing.T) { // P14.3, R5: nil, made without New or Of, the value of one
	checkNone(t, "nil", nil)
	checkNone(t, "new", new(dma.Engine))
	checkNone(t, "a literal", &dma.Engine{})
	var zero dma.Engine
	checkNone(t, "a variable", &zero)
	for _, s := range []dma.State{{}, {From: 1, To: 2, Left: 3, Busy: true, Denied: true, Calls: true}, {Left: 3, Holds: 4, Has: true, Busy: true, Done: true}} {
		e := dma.Of(s)
		value := *e
		checkNone(t, "an engine's value", &value)
		check(t, e, s) // what was asked of its value has not touched it
	}
}

func TestEnginesAreApart(t *testing.T) { // R5: no engine knows of another one
	s := dma.State{From: 1, To: 2, Left: 3, Holds: 4, Has: true, Busy: true}
	a, b := dma.Of(s), dma.Of(s)
	if a == b {
		t.Fatal("Of is one engine twice")
	}
	a.Write(3, 256)
	a.Write(0, 9)
	check(t, b, s)
	stepped(t, b, yes(0))
	check(t, a, dma.State{From: 9, To: 2, Left: 3, Calls: true})
	check(t, b, dma.State{From: 1, To: 6, Left: 2, Busy: true})
}
