package rotor_test

import (
	"encoding/binary"
	"fmt"
	"math"
	"testing"

	"septum/rotor"
)

// state is what a rotor is meant to have.
type state struct {
	at    pair
	steps uint32
}

// noReads and noWrites are numbers of which nothing is read, and where nothing is done; some are a register's when they are cut to fewer bits.
var (
	noReads  = []int{math.MinInt, math.MinInt + 4, -1 << 32, 4 - 1<<32, -1 << 31, -1 << 16, -256, -252, -8, -5, -4, -3, -2, -1, 1, 2, 3, 5, 6, 7, 8, 12, 16, 100, 0x100, 0x104, 1 << 16, 1<<16 + 4, 1 << 31, 1 << 32, 1<<32 + 4, 1 << 62, math.MaxInt - 3, math.MaxInt}
	noWrites = []int{math.MinInt, math.MinInt + 1, math.MinInt + 3, -1 << 32, 1 - 1<<32, 3 - 1<<32, -1 << 31, -1 << 16, -256, -255, -8, -5, -4, -3, -2, -1, 4, 5, 6, 7, 8, 12, 16, 100, 0x100, 0x101, 0x102, 0x103, 1 << 16, 1<<16 + 2, 1 << 31, 1 << 32, 1<<32 + 1, 1<<32 + 2, 1<<32 + 3, 1 << 62, math.MaxInt}
)

// values are words of points at the edges, and numbers of turns.
var values = []uint32{0, 1, 2, 3, 4, 5, 6, 7, 0xfffe, 0xffff, 0x7fff, 0x8000, 0x10000, 0x10001, 0x1ffff, 0x20003, 0x12345678, 0x7fff0000, 0x7fff7fff, 0x7fff8000, 0x7fffffff, 0x80000000, 0x80007fff, 0x80008000, 0xfffe0003, 0xffff0000, 0xffff0001, 0xffff8000, top - 3, top - 2, top - 1, top}

// states are points of each kind, with no step and with some.
func states() []state {
	var l []state
	for k, p := range []pair{{0, 0}, {1, 0}, {0, 1}, {-1, 0}, {3, 2}, {low, low}, {high, high}, {low, high}, {high, low}, {300, -300}, {-16384, 0x1234}} {
		l = append(l, state{p, uint32(k % 3)})
	}
	return l
}

// holds holds what a rotor tells against what it is meant to have.
func holds(t *testing.T, name string, r *rotor.Rotor, want state) {
	t.Helper()
	if v, steps := r.State(); v != want.at.word() || steps != want.steps {
		t.Fatalf("%s: State() is %#x, %d, not of %v", name, v, steps, want)
	}
	for reg, w := range map[int]uint32{0: want.at.word(), 4: want.steps, 1: 0, 5: 0, -1: 0} {
		if v := r.Read(reg); v != w {
			t.Fatalf("%s: Read(%d) is %#x, not %#x, of %v", name, reg, v, w, want)
		}
	}
}

// check holds all that a rotor tells against what it is meant to have, more than once, for nothing is changed by what is asked.
func check(t *testing.T, r *rotor.Rotor, want state) {
	t.Helper()
	for range 2 {
		holds(t, "check", r, want)
		for _, reg := range noReads {
			if v := r.Read(reg); v != 0 {
				t.Fatalf("Read(%d) is %#x, of %v", reg, v, want)
			}
		}
	}
	holds(t, "check", r, want)
}

// of is a rotor that was brought to have a point, and to have done some steps.
func of(t *testing.T, s state) *rotor.Rotor {
	t.Helper()
	r := rotor.New()
	for range s.steps {
		r.Write(1, 0x12340007)
	}
	r.Write(0, s.at.word())
	holds(t, "of", r, s)
	return r
}

// meantWrite is what the chapter says of a write.
func meantWrite(s state, reg int, v uint32) state {
	switch reg {
	case 0:
		return state{pairOf(v), s.steps}
	case 1:
		return state{s.at.plus(pairOf(v)), s.steps + 1}
	case 2:
		return state{s.at.times(pairOf(v)), s.steps + 1}
	case 3:
		return state{s.at.turned(v), s.steps + 1}
	}
	return s
}

func TestNew(t *testing.T) { // P13.2: a fresh rotor, a new one each time
	r := rotor.New()
	if r == nil || r == rotor.New() {
		t.Fatalf("New() is %p", r)
	}
	check(t, r, state{})
	for reg := range 4 {
		r.Write(reg, 7)
	}
	check(t, rotor.New(), state{})
}

func TestOfAFreshOne(t *testing.T) { // P13.2: each thing done to it
	for reg := -1; reg < 6; reg++ {
		for _, v := range values {
			r := rotor.New()
			r.Write(reg, v)
			check(t, r, meantWrite(state{}, reg, v))
		}
	}
}

func TestSteps(t *testing.T) { // P13.2: one behind the other, on one rotor: what each register does, and whether that is a step
	r := rotor.New()
	for _, c := range []struct {
		reg  int
		v    uint32
		want state
	}{
		{0, 0x00020003, state{pair{3, 2}, 0}},
		{3, 1, state{pair{-2, 3}, 1}},
		{2, 0x00010000, state{pair{-3, -2}, 2}},
		{1, 0x00020003, state{pair{0, 0}, 3}},
		{1, 0x80007fff, state{pair{high, low}, 4}},
		{1, 0xffff0001, state{pair{low, high}, 5}},
		{0, 0x0000012c, state{pair{300, 0}, 5}},
		{2, 0x0000012c, state{pair{24464, 0}, 6}},
		{0, 0x8000, state{pair{low, 0}, 6}},
		{3, 2, state{pair{low, 0}, 7}},
		{3, top, state{pair{0, low}, 8}},
		{3, 0, state{pair{0, low}, 9}},
		{3, 4, state{pair{0, low}, 10}},
		{1, 0, state{pair{0, low}, 11}},
		{2, 1, state{pair{0, low}, 12}},
		{4, 99, state{pair{0, low}, 12}},
		{2, 0, state{pair{0, 0}, 13}},
		{0, 0, state{pair{0, 0}, 13}},
	} {
		r.Write(c.reg, c.v)
		check(t, r, c.want)
	}
}

func TestWrite(t *testing.T) { // P13.2: each register, with each value
	for _, s := range states() {
		for reg := range 4 {
			for _, v := range values {
				r := of(t, s)
				r.Write(reg, v)
				check(t, r, meantWrite(s, reg, v))
			}
		}
	}
}

func TestWriteToNoRegister(t *testing.T) { // P13.2: to 4, one below 0, one behind the last one, far beyond
	for _, s := range states() {
		r := of(t, s)
		for _, reg := range noWrites {
			for _, v := range values {
				r.Write(reg, v)
			}
			holds(t, fmt.Sprint("behind a write to ", reg), r, s)
		}
		check(t, r, s)
	}
}

func TestEachRegisterNearby(t *testing.T) { // P13.2: which of them tell, which of them do something
	s := state{pair{0x11, -0x22}, 2}
	for reg := -300; reg <= 300; reg++ {
		want := map[int]uint32{0: s.at.word(), 4: 2}[reg]
		r := of(t, s)
		if v := r.Read(reg); v != want {
			t.Errorf("Read(%d) is %#x, not %#x", reg, v, want)
		}
		holds(t, fmt.Sprint("behind a read of ", reg), r, s)
		r.Write(reg, 0x00070005)
		holds(t, fmt.Sprint("behind a write to ", reg), r, meantWrite(s, reg, 0x00070005))
	}
}

func TestFourTurns(t *testing.T) { // P13.3: by one are none, but four steps
	for _, p := range points() {
		r := of(t, state{p, 0})
		for k := range uint32(9) {
			holds(t, "turns", r, state{p.turned(k), k})
			r.Write(3, 1)
		}
	}
}

func TestManySteps(t *testing.T) { // P13.2: more than a half tells
	r := rotor.New()
	for n := range uint32(1<<16 + 300) {
		if v := r.Read(4); v != n {
			t.Fatalf("%d steps are told, not %d", v, n)
		}
		r.Write(1+int(n%3), n)
	}
	if _, steps := r.State(); steps != 1<<16+300 {
		t.Errorf("%d steps are told", steps)
	}
}

func TestCopy(t *testing.T) { // P13.2: one of the same, another one; of a copy, too
	for _, s := range states() {
		r := of(t, s)
		c := r.Copy()
		if c == nil || c == r {
			t.Fatalf("Copy() is %p of %p", c, r)
		}
		check(t, c, s)
		check(t, r, s)
		check(t, c.Copy(), s)
	}
}

func TestCopyGoesApart(t *testing.T) { // P13.2: whichever of both is changed, whatever part
	for _, s := range states() {
		for reg := range 4 {
			for _, v := range []uint32{0, 1, 3, 0x00020003, top} {
				r := of(t, s)
				c := r.Copy()
				r.Write(reg, v)
				check(t, c, s)
				check(t, r, meantWrite(s, reg, v))
				third := c.Copy()
				c.Write(reg, v+2)
				check(t, third, s)
				check(t, c, meantWrite(s, reg, v+2))
				check(t, r, meantWrite(s, reg, v))
			}
		}
	}
}

// checkNone asks for all that is promised of no rotor, more than once, for nothing must have come of it.
func checkNone(t *testing.T, name string, r *rotor.Rotor) {
	t.Helper()
	t.Run(name, func(t *testing.T) {
		for range 2 {
			check(t, r, state{})
			for reg := -9; reg < 9; reg++ {
				for _, v := range values {
					r.Write(reg, v)
				}
				check(t, r, state{})
			}
			for _, reg := range noWrites {
				r.Write(reg, 7)
			}
			check(t, r, state{})
			if c := r.Copy(); c != nil {
				v, steps := c.State()
				t.Errorf("there is a copy, of %#x, %d", v, steps)
			}
		}
	})
}

func TestNoRotor(t *testing.T) { // P13.2
	checkNone(t, "nil", nil)
	var none *rotor.Rotor
	checkNone(t, "a variable that points to none", none)
	checkNone(t, "a copy of none", none.Copy())
}

func TestRotorOfNoCall(t *testing.T) { // P13.2, R5
	checkNone(t, "new", new(rotor.Rotor))
	checkNone(t, "a literal", &rotor.Rotor{})
	var zero rotor.Rotor
	checkNone(t, "a variable", &zero)
	for _, s := range states() {
		r := of(t, s)
		for _, m := range []*rotor.Rotor{r, r.Copy()} {
			value := *m
			checkNone(t, "a rotor's value", &value)
			check(t, m, s) // what was asked of its value has not touched it
		}
	}
}

func TestRotorsAreApart(t *testing.T) { // R5: no rotor knows of another one
	a, b := rotor.New(), rotor.New()
	a.Write(0, 0x00020003)
	b.Write(1, 0x00050004)
	a.Write(3, 1)
	b.Write(2, 2)
	check(t, a, state{pair{-2, 3}, 1})
	check(t, b, state{pair{8, 10}, 2})
}

// play does to a rotor, and to what is meant, what a text says, five of its bytes a step, and holds both against each other at each step.
func play(t *testing.T, text []byte) {
	r, s := rotor.New(), state{}
	for ; len(text) >= 5; text = text[5:] {
		v := binary.LittleEndian.Uint32(text[1:])
		reg := int(text[0])%8 - 1
		if reg == 6 { // goes on with the copy, and changes the one that was copied
			was := r
			r = r.Copy()
			for other := range 4 {
				was.Write(other, v)
			}
		}
		r.Write(reg, v)
		s = meantWrite(s, reg, v)
		holds(t, fmt.Sprint("behind ", v, " written to ", reg), r, s)
	}
}

func TestPlay(t *testing.T) { // P13.2
	for seed := range uint32(8) {
		text := make([]byte, 5*4000)
		next := seed
		for i := range text {
			next = next*1664525 + 1013904223
			text[i] = byte(next >> 24)
		}
		play(t, text)
	}
}

func FuzzRotor(f *testing.F) { // P13.2
	f.Add([]byte{1, 3, 0, 2, 0, 4, 1, 0, 0, 0, 3, 0, 0, 1, 0, 2, 3, 0, 2, 0})
	f.Add([]byte{1, 0, 128, 0, 128, 3, 0, 128, 255, 127, 7, 9, 9, 9, 9, 4, 255, 255, 255, 255})
	f.Fuzz(func(t *testing.T, text []byte) {
		play(t, text[:min(len(text), 600)])
	})
}

func FuzzPoint(f *testing.F) { // P13.1: what is no point, and what is, of any two numbers
	f.Add(0.0, 0.0)
	f.Add(32767.0, -32768.0)
	f.Add(32768.0, 1.5)
	f.Fuzz(func(t *testing.T, re, im float64) {
		z := complex(re, im)
		whole := func(x float64) bool { return math.Abs(x) <= -low && x != -low && x == float64(int(x)) }
		v, is := rotor.Word(z)
		if is != (whole(re) && whole(im)) {
			t.Fatalf("Word(%v) is %#x, %v", z, v, is)
		}
		if !is {
			w, is := rotor.Turn(z, 4)
			checkNoPoint(t, "Turn", z, w, is)
			return
		}
		p := pair{int(re), int(im)}
		if v != p.word() {
			t.Fatalf("Word(%v) is %#x", z, v)
		}
		w, is := rotor.Plus(z, z)
		checkPoint(t, "Plus", w, is, p.plus(p))
		w, is = rotor.Times(z, z)
		checkPoint(t, "Times", w, is, p.times(p))
	})
}
