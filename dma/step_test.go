package dma_test

import (
	"encoding/binary"
	"math"
	"slices"
	"testing"

	"septum/api"
	"septum/dma"
)

// noOKs are all that may be answered but OK, and numbers that are no error's.
func noOKs() []api.Errno {
	l := []api.Errno{api.ErrNil, api.ErrArg, api.ErrLong, api.ErrShape, api.ErrNone, api.ErrRange, api.ErrFull, api.ErrSyntax, api.ErrState, api.ErrDeny, api.ErrRoot, api.ErrLock, api.ErrShare, api.ErrBusy, api.ErrHeld, api.ErrBoot, api.ErrCommand}
	return append(l, -1, 17, 39, 41, 255, 256, 1<<16, 1<<32, math.MinInt, math.MaxInt)
}

func yes(v uint32) api.Reply { return api.Reply{Value: v} }

func read(world int, addr uint32) api.Access { return api.Access{World: world, Addr: addr, Size: 4} }

func write(world int, addr, v uint32) api.Access {
	return api.Access{World: world, Write: true, Addr: addr, Size: 4, Data: v}
}

// meantAsk is what the chapter says that a step asks for.
func meantAsk(s dma.State, world int) api.Access {
	if s.Has {
		return write(world, s.To, s.Holds)
	}
	return read(world, s.From)
}

// next is a word's four more, without a wrap by itself.
func next(v uint32) uint32 { return uint32((uint64(v) + 4) % (1 << 32)) }

// meantStep is what the chapter says of a step of one that is busy, told another way.
func meantStep(s dma.State, r api.Reply) dma.State {
	switch {
	case r.Err != api.OK:
		return dma.State{From: s.From, To: s.To, Left: s.Left, Denied: true, Done: s.Done, Calls: s.Calls}
	case !s.Has:
		return dma.State{From: next(s.From), To: s.To, Left: s.Left, Holds: r.Value, Has: true, Busy: true, Denied: s.Denied, Done: s.Done, Calls: s.Calls}
	}
	return dma.State{From: s.From, To: next(s.To), Left: s.Left - 1, Busy: s.Left > 1, Denied: s.Denied, Done: s.Done || s.Left == 1, Calls: s.Calls}
}

// stepOf does a step of a world, that must be one, and holds what it asks for, how often, and what is pending meanwhile and behind it against what is meant.
func stepOf(t *testing.T, e *dma.Engine, world int, r api.Reply) {
	t.Helper()
	was := e.State()
	var asked []api.Access
	is := e.Step(world, func(a api.Access) api.Reply {
		check(t, e, was) // nothing is done ahead of the answer
		asked = append(asked, a)
		return r
	})
	if !is || !slices.Equal(asked, []api.Access{meantAsk(was, world)}) {
		t.Fatalf("a step of %+v is %v, asks %+v", was, is, asked)
	}
	check(t, e, meantStep(was, r))
}

func stepped(t *testing.T, e *dma.Engine, replies ...api.Reply) {
	t.Helper()
	for _, r := range replies {
		stepOf(t, e, 1, r)
	}
}

// checkNoStep does a step that must be none.
func checkNoStep(t *testing.T, e *dma.Engine) {
	t.Helper()
	was := e.State()
	for world := -1; world <= api.MaxWorlds; world++ {
		is := e.Step(world, func(a api.Access) api.Reply {
			t.Errorf("of %+v it asks %+v", was, a)
			return yes(1)
		})
		if is {
			t.Fatalf("of %+v there is a step", was)
		}
	}
	check(t, e, was)
}

func TestExample(t *testing.T) { // the chapter's example 1
	e := dma.New()
	for reg, v := range []uint32{0x10, 0x20, 1, 1} {
		e.Write(reg, v)
	}
	var asked []api.Access
	ask := func(a api.Access) api.Reply {
		asked = append(asked, a)
		return yes(7)
	}
	for _, want := range []dma.State{{From: 0x14, To: 0x20, Left: 1, Holds: 7, Has: true, Busy: true}, {From: 0x14, To: 0x24, Done: true}} {
		if !e.Step(3, ask) {
			t.Error("there was no step")
		}
		check(t, e, want)
	}
	if !slices.Equal(asked, []api.Access{{World: 3, Addr: 0x10, Size: 4}, {World: 3, Write: true, Addr: 0x20, Size: 4, Data: 7}}) {
		t.Errorf("it asked %+v", asked)
	}
	if v := e.Read(3); v != 4 {
		t.Errorf("register 3 is %d", v)
	}
	e = dma.New()
	e.Write(3, 1)
	check(t, e, dma.State{Done: true})
}

func TestStep(t *testing.T) { // P14.3: of one that is not busy, of one that holds nothing, that holds a word, of the last word; of each flag
	for _, s := range states() {
		e := of(t, s)
		if !s.Busy {
			checkNoStep(t, e)
			continue
		}
		stepped(t, e, yes(0x55))
		check(t, e, meantStep(s, yes(0x55)))
	}
}

func TestNoAsk(t *testing.T) { // P14.3: nothing, of whichever state
	for _, s := range states() {
		e := dma.Of(s)
		for world := -1; world <= api.MaxWorlds; world++ {
			if e.Step(world, nil) {
				t.Fatalf("of %+v there is a step without an ask", s)
			}
		}
		check(t, e, s)
	}
}

func TestWhoIsAsked(t *testing.T) { // P14.3: of the world that it is told, whichever number that is
	for _, world := range []int{0, 1, 2, 3, 4, 5, 6, 7, 8, -1, 100, 1 << 32, math.MinInt, math.MaxInt} {
		e := of(t, dma.State{From: 3, To: 1<<31 + 1, Left: 2, Busy: true})
		for _, c := range []struct {
			world int
			want  api.Access
			value uint32
		}{{world, read(world, 3), 0xabcd1234}, {6, write(6, 1<<31+1, 0xabcd1234), 9}, {world, read(world, 7), top}, {world, write(world, 1<<31+5, top), 9}} {
			var asked []api.Access
			e.Step(c.world, func(a api.Access) api.Reply {
				asked = append(asked, a)
				return yes(c.value)
			})
			if !slices.Equal(asked, []api.Access{c.want}) {
				t.Fatalf("it asks %+v, not %+v", asked, c.want)
			}
		}
		check(t, e, dma.State{From: 11, To: 1<<31 + 9, Done: true})
	}
}

func TestWords(t *testing.T) { // P14.3: each that is read, 0 too, is held, and written as it is; what a write answers beside OK counts for nothing
	for _, v := range values {
		for _, beside := range values {
			e := of(t, dma.State{From: 0x10, To: 0x20, Left: 2, Busy: true})
			stepped(t, e, yes(v))
			check(t, e, dma.State{From: 0x14, To: 0x20, Left: 2, Holds: v, Has: true, Busy: true})
			stepped(t, e, yes(beside))
			check(t, e, dma.State{From: 0x14, To: 0x24, Left: 1, Busy: true})
		}
	}
}

func TestPlacesWrap(t *testing.T) { // P14.3: From and To, modulo 2^32, whether or not they are multiples of 4
	for _, addr := range []uint32{0, 1, 2, 3, 4, 0xfc, 0xfffc, 0x7ffffffc, 0x7fffffff, 0x80000000, top - 7, top - 6, top - 4, top - 3, top - 2, top - 1, top} {
		for _, other := range []uint32{0, 0x100, top - 3, top} {
			e := of(t, dma.State{From: addr, To: other, Left: 3, Busy: true})
			stepped(t, e, yes(1), yes(0))
			check(t, e, dma.State{From: next(addr), To: next(other), Left: 2, Busy: true})
			e = of(t, dma.State{From: other, To: addr, Left: 3, Busy: true})
			stepped(t, e, yes(1), yes(0), yes(2), yes(0))
			check(t, e, dma.State{From: next(next(other)), To: next(next(addr)), Left: 1, Busy: true})
		}
	}
	e := of(t, dma.State{From: 0xfffffffc, To: 0xffffffff, Left: 1, Busy: true})
	stepped(t, e, yes(1), yes(0))
	check(t, e, dma.State{From: 0, To: 3, Done: true})
}

func TestLastWord(t *testing.T) { // P14.3: done behind its write, no earlier; of Left 2 it goes on, of the greatest Left, too
	for _, flags := range []int{0, 4, 8, 12, 16, 28} {
		s := flagged(dma.State{Left: 1}, flags|2)
		e := of(t, s)
		stepped(t, e, yes(5))
		if got := e.State(); !got.Busy || got.Done != s.Done {
			t.Errorf("behind the read of the last word it is %+v", got)
		}
		stepped(t, e, yes(0))
		check(t, e, dma.State{From: 4, To: 4, Denied: s.Denied, Done: true, Calls: s.Calls})
		checkNoStep(t, e)
		s.Left = 2
		e = of(t, s)
		stepped(t, e, yes(5), yes(0))
		check(t, e, dma.State{From: 4, To: 4, Left: 1, Busy: true, Denied: s.Denied, Done: s.Done, Calls: s.Calls})
		s.Left = top
		e = of(t, s)
		stepped(t, e, yes(5), yes(0))
		check(t, e, dma.State{From: 4, To: 4, Left: top - 1, Busy: true, Denied: s.Denied, Done: s.Done, Calls: s.Calls})
	}
}

func TestDenied(t *testing.T) { // P14.3, P14.4: a read, a write, by each Err that there is, with a Value beside it or not; it asks nothing more
	for _, no := range noOKs() {
		for _, v := range []uint32{0, 1, 7, top} {
			for _, calls := range []bool{false, true} {
				s := dma.State{From: 0x10, To: 0x20, Left: 3, Busy: true, Calls: calls}
				denied := dma.State{From: 0x10, To: 0x20, Left: 3, Denied: true, Calls: calls}
				for range 2 {
					e := of(t, s)
					stepped(t, e, api.Reply{Value: v, Err: no})
					check(t, e, denied)
					checkNoStep(t, e)
					if e.Line() != calls {
						t.Errorf("denied, of calls %v, Line() is %v", calls, !calls)
					}
					s.Has, s.Holds = true, 9
				}
			}
		}
	}
}

func TestDeniedAtTheLastWord(t *testing.T) { // P14.3: it is not done, and the word is left
	e := of(t, dma.State{From: 4, To: 8, Left: 1, Holds: 7, Has: true, Busy: true})
	stepped(t, e, api.Reply{Err: api.ErrDeny})
	check(t, e, dma.State{From: 4, To: 8, Left: 1, Denied: true})
}

func TestBegunAgainBehindADenial(t *testing.T) { // P14.2, P14.3: it begins with a read, at From, and is denied till that is forgotten
	e := of(t, dma.State{From: 0x10, To: 0x20, Left: 2, Busy: true})
	stepped(t, e, yes(7), api.Reply{Err: api.ErrBusy})
	check(t, e, dma.State{From: 0x14, To: 0x20, Left: 2, Denied: true})
	e.Write(3, 1)
	check(t, e, dma.State{From: 0x14, To: 0x20, Left: 2, Busy: true, Denied: true})
	stepped(t, e, yes(8))
	check(t, e, dma.State{From: 0x18, To: 0x20, Left: 2, Holds: 8, Has: true, Busy: true, Denied: true})
	e.Write(4, 0)
	check(t, e, dma.State{From: 0x18, To: 0x20, Left: 2, Holds: 8, Has: true, Busy: true})
	stepped(t, e, yes(0), yes(9), yes(0))
	check(t, e, dma.State{From: 0x1c, To: 0x28, Done: true})
}

func TestStoppedWhileItHolds(t *testing.T) { // P14.2, P14.3: the word is gone; begun again it reads the next one
	e := of(t, dma.State{From: 0x10, To: 0x20, Left: 2, Busy: true})
	stepped(t, e, yes(7))
	e.Write(3, 0)
	check(t, e, dma.State{From: 0x14, To: 0x20, Left: 2})
	checkNoStep(t, e)
	e.Write(3, 1)
	stepped(t, e, yes(8), yes(0))
	check(t, e, dma.State{From: 0x18, To: 0x24, Left: 1, Busy: true})
}

// move lets an engine go on till it is not busy any more, and tells how many steps it did; it reads and writes the words of a memory, by their addresses.
func move(t *testing.T, e *dma.Engine, memory map[uint32]uint32, words uint32) int {
	t.Helper()
	for n := range 3*int(words) + 3 {
		is := e.Step(1, func(a api.Access) api.Reply {
			if a.World != 1 || a.Size != 4 {
				t.Fatalf("it asks %+v", a)
			}
			if a.Write {
				memory[a.Addr] = a.Data
				return yes(0xffff)
			}
			return yes(memory[a.Addr])
		})
		if !is {
			return n
		}
	}
	t.Fatal("it goes on and on")
	return 0
}

func TestWholeMove(t *testing.T) { // P14.4: two steps for each word, each that was read is written, in order
	for _, words := range []uint32{1, 2, 3, 10, 100, 257} {
		for _, c := range []struct{ from, to uint32 }{{0x1000, 0x8000}, {top - 7, 0x80}, {0x800, top - 11}, {0, 4}, {4, 0}, {8, 8}} {
			memory, want := map[uint32]uint32{}, map[uint32]uint32{}
			for n := range words {
				memory[c.from+4*n] = n * 0x01010101
				want[c.from+4*n] = n * 0x01010101
			}
			for n := range words { // word by word: a word that was written may be read behind
				want[c.to+4*n] = want[c.from+4*n]
			}
			e := dma.New()
			for reg, v := range []uint32{c.from, c.to, words, 257} {
				e.Write(reg, v)
			}
			if n := move(t, e, memory, words); n != 2*int(words) {
				t.Errorf("for %d words there were %d steps", words, n)
			}
			check(t, e, dma.State{From: c.from + 4*words, To: c.to + 4*words, Done: true, Calls: true})
			if len(memory) != len(want) {
				t.Errorf("%d words were touched, not %d", len(memory), len(want))
			}
			for addr, v := range want {
				if memory[addr] != v {
					t.Fatalf("at %#x there is %#x, not %#x", addr, memory[addr], v)
				}
			}
		}
	}
}

func TestEachStepOfAMove(t *testing.T) { // P14.3: what is pending behind each of them
	e := of(t, dma.State{From: 0x10, To: 0x20, Left: 2, Busy: true, Calls: true})
	for n, want := range []dma.State{
		{From: 0x14, To: 0x20, Left: 2, Holds: 5, Has: true, Busy: true, Calls: true}, {From: 0x14, To: 0x24, Left: 1, Busy: true, Calls: true},
		{From: 0x18, To: 0x24, Left: 1, Holds: 7, Has: true, Busy: true, Calls: true}, {From: 0x18, To: 0x28, Done: true, Calls: true},
	} {
		stepped(t, e, yes(uint32(5+n)))
		check(t, e, want)
		if e.Line() != (n == 3) {
			t.Errorf("behind %d steps Line() is %v", n+1, e.Line())
		}
	}
}

func TestAskThatPanics(t *testing.T) { // R1: it has not answered OK, so the engine is denied
	for _, s := range []dma.State{{From: 4, To: 8, Left: 2, Busy: true}, {From: 4, To: 8, Left: 1, Holds: 9, Has: true, Busy: true}} {
		var none []int
		for _, ask := range []func(api.Access) api.Reply{
			func(api.Access) api.Reply { panic("no") },
			func(api.Access) api.Reply { panic(nil) },
			func(a api.Access) api.Reply { return yes(uint32(none[a.Size])) },
		} {
			e := of(t, s)
			if !e.Step(1, ask) {
				t.Error("there was no step")
			}
			check(t, e, dma.State{From: 4, To: 8, Left: s.Left, Denied: true})
			e.Write(3, 1)
			e.Write(4, 0)
			stepped(t, e, yes(1), yes(0)) // it goes on as any other one
		}
	}
}

func TestAskThatSteps(t *testing.T) { // R1: one step at a time, so it ends
	for _, s := range []dma.State{{From: 4, To: 8, Left: 1, Busy: true}, {From: 4, To: 8, Left: 1, Holds: 9, Has: true, Busy: true}} {
		e, other := of(t, s), of(t, s)
		asked := 0
		var ask func(api.Access) api.Reply
		ask = func(api.Access) api.Reply {
			asked++
			if e.Step(1, ask) {
				t.Error("a step within a step")
			}
			stepped(t, other, yes(7)) // another engine's is one
			return yes(7)
		}
		if !e.Step(1, ask) || asked != 1 {
			t.Errorf("it asked %d times", asked)
		}
		check(t, e, meantStep(s, yes(7)))
		check(t, other, meantStep(s, yes(7)))
	}
}

func TestAskThatStops(t *testing.T) { // P14.1, P14.2: one that is not busy holds nothing, whatever is answered
	for _, s := range []dma.State{{From: 4, To: 8, Left: 1, Busy: true}, {From: 4, To: 8, Left: 1, Holds: 9, Has: true, Busy: true}} {
		for _, r := range []api.Reply{yes(7), {Err: api.ErrDeny}} {
			e := of(t, s)
			is := e.Step(1, func(api.Access) api.Reply {
				e.Write(0, 99) // it is busy
				e.Write(3, 256)
				e.Write(2, 3)
				return r
			})
			if !is {
				t.Error("there was no step")
			}
			check(t, e, dma.State{From: 4, To: 8, Left: 3, Calls: true})
		}
	}
}

func TestEdgesByEdges(t *testing.T) { // P14.3: a step of each state that there may be, of places at the edges, with each answer, held against what is told another way
	for _, s := range states() {
		if !s.Busy {
			continue
		}
		for _, place := range []uint32{0, 4, top - 3, top} {
			s.From, s.To = place, place+0x100
			for _, err := range append(noOKs(), api.OK, api.OK) {
				for _, v := range []uint32{0, 3, top} {
					e := dma.Of(s)
					r := api.Reply{Value: v, Err: err}
					var asked api.Access
					is := e.Step(5, func(a api.Access) api.Reply { asked = a; return r })
					if got, want := e.State(), meantStep(s, r); !is || got != want || asked != meantAsk(s, 5) {
						t.Fatalf("a step of %+v, answered %+v, is %v, asks %+v, leaves %+v, not %+v", s, r, is, asked, got, want)
					}
				}
			}
		}
	}
}

// play does to an engine, and to a state, what a text says, six of its bytes a thing, and holds both against each other behind each.
func play(t *testing.T, s dma.State, text []byte) {
	e := dma.Of(s)
	s = meantOf(s)
	check(t, e, s)
	for ; len(text) >= 6; text = text[6:] {
		v := binary.LittleEndian.Uint32(text[2:])
		reg, n := int(text[1])%9-2, int(text[1])
		switch {
		case text[0]%8 == 0:
			e.Write(2, v%4) // few enough to be moved
			s = meantWrite(s, 2, v%4)
		case text[0]%8 == 1:
			e.Write(reg, v)
			s = meantWrite(s, reg, v)
		case text[0]%8 == 2:
			e.Write(3, v|1)
			s = meantWrite(s, 3, v|1)
		case !s.Busy:
			checkNoStep(t, e)
		case text[0]%32 == 7:
			stepOf(t, e, n, api.Reply{Value: v, Err: api.Errno(n % 17)})
			s = meantStep(s, api.Reply{Value: v, Err: api.Errno(n % 17)})
		default:
			stepOf(t, e, n, yes(v))
			s = meantStep(s, yes(v))
		}
		check(t, e, s)
	}
}

func TestPlay(t *testing.T) { // P14.1 to P14.4
	seed := uint32(1)
	text := make([]byte, 6*2000)
	for i := range text {
		seed = seed*1664525 + 1013904223
		text[i] = byte(seed >> 24)
	}
	for _, s := range []dma.State{{}, {From: 0x10, To: 0x20, Left: 5, Busy: true, Calls: true}, {From: top - 3, To: top, Left: 3, Holds: 1, Has: true, Busy: true, Denied: true}} {
		play(t, s, text)
	}
}

func FuzzEngine(f *testing.F) { // P14.1 to P14.4
	f.Add(uint32(0x10), uint32(0x20), uint32(1), uint32(0), uint8(2), []byte{3, 0, 7, 0, 0, 0, 3, 0, 0, 0, 0, 0})
	f.Add(uint32(top-3), uint32(top), uint32(0), uint32(7), uint8(31), []byte{0, 0, 3, 0, 0, 0, 2, 0, 0, 1, 0, 0, 7, 10, 0, 0, 0, 0})
	f.Fuzz(func(t *testing.T, from, to, left, holds uint32, flags uint8, text []byte) {
		play(t, flagged(dma.State{From: from, To: to, Left: left, Holds: holds}, int(flags)), text[:min(len(text), 600)])
	})
}
