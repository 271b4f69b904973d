package uart_test

import (
	"fmt"
	"math"
	"slices"
	"testing"

	"septum/uart"
)

const (
	top  = math.MaxUint32
	room = 8
)

// values are words near which something ends: what Ctrl has of bits, bytes, halves, signs, the whole.
var values = []uint32{0, 1, 2, 3, 4, 7, 8, 9, 65, 0x7f, 0x80, 0xfe, 0xff, 0x100, 0x101, 0x141, 0x1ff, 0x7fff, 0x8000, 0xff00, 0xffff, 0x10000, 0x10001, 0x12345678, 0x7fffffff, 0x80000000, 0x80000001, 0xffffff00, top - 1, top}

// noRegs are numbers that are no register's, some of which are one when they are cut to fewer bits.
var noRegs = []int{math.MinInt, math.MinInt + 2, -1 << 32, 1 - 1<<32, 3 - 1<<32, -1 << 31, -1 << 16, -256, -255, -8, -7, -4, -3, -2, -1, 4, 5, 6, 7, 8, 12, 16, 100, 0x100, 0x101, 0x102, 0x103, 1 << 16, 1<<16 + 2, 1 << 31, 1 << 32, 1<<32 + 1, 1<<32 + 2, 1<<32 + 3, 1 << 62, math.MaxInt - 1, math.MaxInt}

// row is n bytes, one as near as the next one.
func row(first byte, n int) []byte {
	var l []byte
	for k := range n {
		l = append(l, first+byte(k))
	}
	return l
}

func same(a, b uart.State) bool {
	return slices.Equal(a.Came, b.Came) && slices.Equal(a.Goes, b.Goes) && a.LostIn == b.LostIn && a.LostOut == b.LostOut && a.Ctrl == b.Ctrl && a.Phase == b.Phase
}

// meantCounts is what the chapter says of a read of 1.
func meantCounts(s uart.State) uint32 {
	n := len(s.Came) + 256*len(s.Goes)
	if s.LostIn {
		n += 65536
	}
	if s.LostOut {
		n += 131072
	}
	return uint32(n)
}

// holds holds what a uart tells, but for what a read of 0 takes, against what it is meant to have.
func holds(t *testing.T, name string, u *uart.Uart, want uart.State) {
	t.Helper()
	if s := u.State(); !same(s, want) {
		t.Fatalf("%s: State() is %+v, not %+v", name, s, want)
	}
	for reg, w := range map[int]uint32{1: meantCounts(want), 2: want.Ctrl, 3: 0, 4: 0, -1: 0} {
		if v := u.Read(reg); v != w {
			t.Fatalf("%s: Read(%d) is %#x, not %#x, of %+v", name, reg, v, w, want)
		}
	}
	if is, calls := u.Line(), want.Ctrl == 1 && len(want.Came) > 0; is != calls {
		t.Fatalf("%s: Line() is %v, of %+v", name, is, want)
	}
}

// check holds all that a uart tells against what it is meant to have, more than once, for nothing is changed by what is asked.
func check(t *testing.T, u *uart.Uart, want uart.State) {
	t.Helper()
	for range 2 {
		holds(t, "check", u, want)
		for _, reg := range noRegs {
			if v := u.Read(reg); v != 0 {
				t.Fatalf("Read(%d) is %#x, of %+v", reg, v, want)
			}
		}
	}
	holds(t, "check", u, want)
}

func checkInput(t *testing.T, u *uart.Uart, b byte, want bool) {
	t.Helper()
	if is := u.Input(b); is != want {
		t.Fatalf("Input(%d) is %v", b, is)
	}
}

func checkData(t *testing.T, u *uart.Uart, want uint32) {
	t.Helper()
	if v := u.Read(0); v != want {
		t.Fatalf("Read(0) is %d, not %d", v, want)
	}
}

func checkTick(t *testing.T, u *uart.Uart, want byte, goes bool) {
	t.Helper()
	if b, is := u.Tick(); b != want || is != goes {
		t.Fatalf("Tick() is %d, %v, not %d, %v", b, is, want, goes)
	}
}

// of is a uart that was brought to have all that a state says.
func of(t *testing.T, s uart.State) *uart.Uart {
	t.Helper()
	u := uart.New()
	if s.LostOut {
		for range room + 1 {
			u.Write(0, 0xee)
		}
		for range 4 * room {
			u.Tick()
		}
	}
	if s.LostIn {
		for range room + 1 {
			u.Input(0xdd)
		}
		for range room {
			u.Read(0)
		}
	}
	for range s.Phase {
		u.Tick()
	}
	for _, b := range s.Came {
		u.Input(b)
	}
	for _, b := range s.Goes {
		u.Write(0, uint32(b))
	}
	u.Write(2, s.Ctrl)
	holds(t, "of", u, s)
	return u
}

// states are each kind of them: of rows without bytes, with one, with some, full; each flag; each phase.
func states() []uart.State {
	return []uart.State{
		{}, {Came: row(65, 1), Ctrl: 1}, {Goes: row(7, 2), Phase: 3}, {Came: row(0, 8), Goes: row(100, 8), LostIn: true, LostOut: true, Ctrl: 1, Phase: 2},
		{Came: row(250, 8), LostIn: true, Phase: 1}, {Goes: row(252, 8), LostOut: true, Ctrl: 1}, {Came: row(1, 3), Goes: row(9, 5), LostOut: true, Phase: 3},
		{LostIn: true, LostOut: true, Ctrl: 1, Phase: 3}, {Came: row(0, 1), Goes: row(0, 1), LostIn: true, Phase: 2}, {Came: row(33, 7), Goes: row(66, 7), Ctrl: 1, Phase: 3},
	}
}

// meantRead is what the chapter says of a read: what is told, and what is had then.
func meantRead(s uart.State, reg int) (uint32, uart.State) {
	switch {
	case reg == 0 && len(s.Came) > 0:
		v := 256 + uint32(s.Came[0])
		s.Came = s.Came[1:]
		return v, s
	case reg == 1:
		return meantCounts(s), s
	case reg == 2:
		return s.Ctrl, s
	}
	return 0, s
}

// meantWrite is what the chapter says of a write.
func meantWrite(s uart.State, reg int, v uint32) uart.State {
	switch {
	case reg == 0 && len(s.Goes) < room:
		s.Goes = append(slices.Clone(s.Goes), byte(v%256))
	case reg == 0:
		s.LostOut = true
	case reg == 2:
		s.Ctrl = v % 2
	case reg == 3:
		s.LostIn, s.LostOut = false, false
	}
	return s
}

// meantInput is what the chapter says of a byte that comes.
func meantInput(s uart.State, b byte) (bool, uart.State) {
	if len(s.Came) == room {
		s.LostIn = true
		return false, s
	}
	s.Came = append(slices.Clone(s.Came), b)
	return true, s
}

// meantTick is what the chapter says of a tick.
func meantTick(s uart.State) (byte, bool, uart.State) {
	if s.Phase < 3 {
		s.Phase++
		return 0, false, s
	}
	s.Phase = 0
	if len(s.Goes) == 0 {
		return 0, false, s
	}
	b := s.Goes[0]
	s.Goes = s.Goes[1:]
	return b, true, s
}

func TestExample(t *testing.T) { // the chapter's example 1
	u := uart.New()
	u.Write(2, 1)
	checkInput(t, u, 65, true)
	checkInput(t, u, 66, true)
	check(t, u, uart.State{Came: []byte{65, 66}, Ctrl: 1})
	if !u.Line() {
		t.Error("it does not call")
	}
	for _, v := range []uint32{321, 322, 0} {
		checkData(t, u, v)
	}
	u = uart.New()
	u.Write(0, 7)
	u.Write(0, 8)
	for n := 1; n <= 12; n++ {
		checkTick(t, u, map[int]byte{4: 7, 8: 8}[n], n == 4 || n == 8)
	}
	check(t, u, uart.State{})
}

func TestNew(t *testing.T) { // P11.1: a fresh uart, a new one each time
	u := uart.New()
	if u == nil || u == uart.New() {
		t.Fatalf("New() is %p", u)
	}
	check(t, u, uart.State{})
	checkData(t, u, 0)
	for range 4 {
		checkTick(t, u, 0, false)
	}
	check(t, u, uart.State{})
	u.Input(1)
	u.Write(0, 2)
	u.Write(2, 1)
	u.Tick()
	check(t, uart.New(), uart.State{})
}

func TestInput(t *testing.T) { // P11.1: behind the others while there is room; a ninth one is lost, and changes nothing else
	for _, s := range states() {
		u := of(t, s)
		want := s
		for n := range 20 {
			var is bool
			is, want = meantInput(want, byte(200+n))
			if is != (n < room-len(s.Came)) {
				t.Fatalf("of %d the %d. has room: %v", len(s.Came), n, is)
			}
			checkInput(t, u, byte(200+n), is)
			check(t, u, want)
		}
	}
}

func TestDataRead(t *testing.T) { // P11.2: when nothing came, when there is one byte, when there are eight
	u := uart.New()
	for range 3 {
		checkData(t, u, 0)
		check(t, u, uart.State{})
	}
	u.Input(9)
	checkData(t, u, 265)
	check(t, u, uart.State{})
	checkData(t, u, 0)
	u = of(t, uart.State{Came: []byte{1, 2, 3, 4, 5, 6, 7, 0}})
	for n := range 8 {
		check(t, u, uart.State{Came: []byte{1, 2, 3, 4, 5, 6, 7, 0}[n:]})
		checkData(t, u, []uint32{257, 258, 259, 260, 261, 262, 263, 256}[n])
	}
	checkData(t, u, 0)
	check(t, u, uart.State{})
}

func TestEachByte(t *testing.T) { // P11.1, P11.2: on either side, and what is there besides stays
	for b := range 256 {
		u := of(t, uart.State{Goes: row(5, 3), LostIn: true, LostOut: true, Ctrl: 1, Phase: 1})
		checkInput(t, u, byte(b), true)
		check(t, u, uart.State{Came: []byte{byte(b)}, Goes: row(5, 3), LostIn: true, LostOut: true, Ctrl: 1, Phase: 1})
		checkData(t, u, uint32(256+b))
		check(t, u, uart.State{Goes: row(5, 3), LostIn: true, LostOut: true, Ctrl: 1, Phase: 1})
		u = of(t, uart.State{Came: row(5, 3), Phase: 3})
		u.Write(0, uint32(b))
		check(t, u, uart.State{Came: row(5, 3), Goes: []byte{byte(b)}, Phase: 3})
		checkTick(t, u, byte(b), true)
		check(t, u, uart.State{Came: row(5, 3)})
	}
}

func TestNinthByteThatCame(t *testing.T) { // P11.1, P11.2: lost, told, forgotten, and lost again
	u := of(t, uart.State{Came: row(10, 8), Goes: row(3, 2)})
	for range 2 {
		checkInput(t, u, 99, false)
		check(t, u, uart.State{Came: row(10, 8), Goes: row(3, 2), LostIn: true})
		if v := u.Read(1); v != 8+2*256+65536 {
			t.Errorf("Read(1) is %d", v)
		}
		u.Write(3, 0)
		check(t, u, uart.State{Came: row(10, 8), Goes: row(3, 2)})
	}
	checkInput(t, u, 99, false)
	checkData(t, u, 256+10) // that there is room again does not make it forget
	check(t, u, uart.State{Came: row(11, 7), Goes: row(3, 2), LostIn: true})
	checkInput(t, u, 77, true)
	check(t, u, uart.State{Came: append(row(11, 7), 77), Goes: row(3, 2), LostIn: true})
	for _, v := range []uint32{267, 268, 269, 270, 271, 272, 273, 256 + 77, 0} {
		checkData(t, u, v)
	}
	check(t, u, uart.State{Goes: row(3, 2), LostIn: true})
}

func TestNinthByteThatGoes(t *testing.T) { // P11.2: lost, told, forgotten, and lost again
	u := of(t, uart.State{Came: row(3, 2), Goes: row(10, 8), Phase: 3})
	for range 2 {
		u.Write(0, 99)
		check(t, u, uart.State{Came: row(3, 2), Goes: row(10, 8), LostOut: true, Phase: 3})
		if v := u.Read(1); v != 2+8*256+131072 {
			t.Errorf("Read(1) is %d", v)
		}
		u.Write(3, 0)
		check(t, u, uart.State{Came: row(3, 2), Goes: row(10, 8), Phase: 3})
	}
	u.Write(0, 99)
	checkTick(t, u, 10, true)
	check(t, u, uart.State{Came: row(3, 2), Goes: row(11, 7), LostOut: true})
	u.Write(0, 77)
	check(t, u, uart.State{Came: row(3, 2), Goes: append(row(11, 7), 77), LostOut: true})
	for _, b := range append(row(11, 7), 77) {
		for range 3 {
			checkTick(t, u, 0, false)
		}
		checkTick(t, u, b, true)
	}
	check(t, u, uart.State{Came: row(3, 2), LostOut: true})
}

func TestBothNinthBytes(t *testing.T) { // P11.2: each flag by itself, then both, forgotten together
	u := of(t, uart.State{Came: row(1, 8), Goes: row(9, 8)})
	checkInput(t, u, 50, false)
	check(t, u, uart.State{Came: row(1, 8), Goes: row(9, 8), LostIn: true})
	u.Write(0, 51)
	check(t, u, uart.State{Came: row(1, 8), Goes: row(9, 8), LostIn: true, LostOut: true})
	if v := u.Read(1); v != 8+2048+65536+131072 {
		t.Errorf("Read(1) is %d", v)
	}
	u.Write(3, 0)
	check(t, u, uart.State{Came: row(1, 8), Goes: row(9, 8)})
}

func TestBehindOneThatWasTaken(t *testing.T) { // P11.1, P11.2: room comes of each byte that is gone, on either side, however often
	for n := 1; n <= room; n++ {
		in, out := of(t, uart.State{Came: row(0, n)}), of(t, uart.State{Goes: row(0, n), Phase: 3})
		for k := range 40 {
			checkData(t, in, uint32(256+k))
			checkInput(t, in, byte(k+n), true)
			check(t, in, uart.State{Came: row(byte(k+1), n)})
			checkTick(t, out, byte(k), true)
			out.Write(0, uint32(k+n))
			check(t, out, uart.State{Goes: row(byte(k+1), n)})
			for range 3 {
				checkTick(t, out, 0, false)
			}
		}
	}
}

func TestDataWithMoreBits(t *testing.T) { // P11.2: v's lowest byte alone, which is neither kept from going nor told with more
	for _, v := range values {
		u := of(t, uart.State{Goes: row(3, 1), Phase: 3})
		u.Write(0, v)
		check(t, u, uart.State{Goes: []byte{3, byte(v % 256)}, Phase: 3})
		checkTick(t, u, 3, true)
		for range 3 {
			checkTick(t, u, 0, false)
		}
		checkTick(t, u, byte(v%256), true)
		check(t, u, uart.State{})
		full := of(t, uart.State{Goes: row(3, 8)})
		full.Write(0, v)
		check(t, full, uart.State{Goes: row(3, 8), LostOut: true})
	}
}

func TestCtrlWithMoreBits(t *testing.T) { // P11.2: v's lowest bit alone, whichever was set
	for was := range uint32(2) {
		for _, c := range []struct{ v, want uint32 }{{0, 0}, {1, 1}, {2, 0}, {3, 1}, {4, 0}, {7, 1}, {0x80, 0}, {0xfe, 0}, {0xff, 1}, {0x100, 0}, {0x101, 1}, {0x80000000, 0}, {0x80000001, 1}, {top - 1, 0}, {top, 1}} {
			u := of(t, uart.State{Came: row(4, 2), Goes: row(5, 3), LostIn: true, LostOut: true, Ctrl: was, Phase: 2})
			u.Write(2, c.v)
			check(t, u, uart.State{Came: row(4, 2), Goes: row(5, 3), LostIn: true, LostOut: true, Ctrl: c.want, Phase: 2})
		}
	}
}

func TestWrite(t *testing.T) { // P11.2: each register, with each value; all else stays
	for _, s := range states() {
		for reg := range 4 {
			for _, v := range values {
				u := of(t, s)
				u.Write(reg, v)
				check(t, u, meantWrite(s, reg, v))
			}
		}
	}
}

func TestWriteToNoRegister(t *testing.T) { // P11.2: to 1, one below 0, one behind the last one, far beyond
	for _, s := range states() {
		u := of(t, s)
		for _, reg := range append([]int{1}, noRegs...) {
			for _, v := range values {
				u.Write(reg, v)
			}
			holds(t, fmt.Sprint("behind a write to ", reg), u, s)
		}
		check(t, u, s)
	}
}

func TestEachRegisterNearby(t *testing.T) { // P11.2: which of them tell, which of them do something
	s := uart.State{Came: row(0x11, 2), Goes: row(0x22, 3), LostIn: true, LostOut: true, Phase: 1, Ctrl: 1}
	for reg := -300; reg <= 300; reg++ {
		want := map[int]uint32{0: 0x111, 1: 2 + 3*256 + 65536 + 131072, 2: 1}[reg]
		u := of(t, s)
		if v := u.Read(reg); v != want {
			t.Errorf("Read(%d) is %#x, not %#x", reg, v, want)
		}
		_, then := meantRead(s, reg)
		holds(t, fmt.Sprint("behind a read of ", reg), u, then)
		u = of(t, s)
		u.Write(reg, 0x1c)
		holds(t, fmt.Sprint("behind a write to ", reg), u, meantWrite(s, reg, 0x1c))
	}
}

func TestCounts(t *testing.T) { // P11.2: how many came and how many go, each from 0 to 8, with each of the two flags
	for came := range room + 1 {
		for goes := range room + 1 {
			for flags, told := range []uint32{0, 65536, 131072, 196608} {
				u := of(t, uart.State{Came: row(1, came), Goes: row(2, goes), LostIn: flags%2 == 1, LostOut: flags/2 == 1})
				for range 2 {
					if v := u.Read(1); v != uint32(came+256*goes)+told {
						t.Errorf("Read(1) is %#x of %d, %d, %#x", v, came, goes, told)
					}
				}
			}
		}
	}
}

func TestForgotten(t *testing.T) { // P11.2: nothing was lost, with whatever is written; all else stays
	for _, v := range values {
		for _, s := range states() {
			u := of(t, s)
			u.Write(3, v)
			s.LostIn, s.LostOut = false, false
			check(t, u, s)
		}
	}
}

func TestPhases(t *testing.T) { // P11.1: of each of the four, with and without something that goes
	for phase, then := range []int{1, 2, 3, 0} {
		for n := range room + 1 {
			u := of(t, uart.State{Came: row(1, 2), Goes: row(40, n), LostIn: true, LostOut: true, Ctrl: 1, Phase: phase})
			goes := phase == 3 && n > 0
			want := uart.State{Came: row(1, 2), Goes: row(40, n), LostIn: true, LostOut: true, Ctrl: 1, Phase: then}
			if goes {
				checkTick(t, u, 40, true)
				want.Goes = row(41, n-1)
			} else {
				checkTick(t, u, 0, false)
			}
			check(t, u, want)
		}
	}
}

func TestPhaseGoesOnWithoutBytes(t *testing.T) { // P11.1: a byte waits for the phase, not the phase for a byte
	u := uart.New()
	for n := 1; n <= 40; n++ {
		checkTick(t, u, 0, false)
		check(t, u, uart.State{Phase: n % 4})
	}
	for _, phase := range []int{0, 1, 2, 3} {
		u := of(t, uart.State{Phase: phase})
		u.Write(0, 9)
		check(t, u, uart.State{Goes: row(9, 1), Phase: phase}) // no write lets anything go
		for range 3 - phase {
			checkTick(t, u, 0, false)
		}
		checkTick(t, u, 9, true)
		check(t, u, uart.State{})
	}
}

func TestWrittenBetweenTicks(t *testing.T) { // P11.1: it goes behind the others, at its own fourth tick
	u := uart.New()
	for n := 1; n <= 20; n++ {
		if n == 4 || n == 6 || n == 7 {
			u.Write(0, uint32(100+n))
		}
		want := map[int]byte{4: 104, 8: 106, 12: 107}[n]
		checkTick(t, u, want, want != 0)
	}
	check(t, u, uart.State{})
	u.Write(0, 1)
	checkTick(t, u, 0, false)
	u.Write(0, 2)
	checkTick(t, u, 0, false)
	checkTick(t, u, 0, false)
	check(t, u, uart.State{Goes: []byte{1, 2}, Phase: 3})
	checkTick(t, u, 1, true)
	check(t, u, uart.State{Goes: []byte{2}})
}

func TestAZeroByteGoes(t *testing.T) { // P11.1: it is told apart from none
	u := of(t, uart.State{Goes: []byte{0, 0}, Phase: 3})
	checkTick(t, u, 0, true)
	for range 3 {
		checkTick(t, u, 0, false)
	}
	checkTick(t, u, 0, true)
	for range 8 {
		checkTick(t, u, 0, false)
	}
}

func TestLine(t *testing.T) { // P11.1: with Ctrl 0 and 1, with and without something that came; nothing else counts
	for ctrl := range uint32(2) {
		for came := range room + 1 {
			for _, s := range states() {
				u := of(t, uart.State{Came: row(0, came), Goes: s.Goes, LostIn: s.LostIn, LostOut: s.LostOut, Ctrl: ctrl, Phase: s.Phase})
				if is := u.Line(); is != (ctrl == 1 && came > 0) {
					t.Errorf("of Ctrl %d and %d that came Line() is %v", ctrl, came, is)
				}
			}
		}
	}
}

func TestLineComesAndGoes(t *testing.T) { // P11.1: with the bit, with the bytes
	u := uart.New()
	write := func(reg int, v uint32) func() { return func() { u.Write(reg, v) } }
	for n, c := range []struct {
		do    func()
		calls bool
	}{
		{write(2, 1), false}, {write(0, 5), false}, {func() { u.Input(0) }, true}, {func() { u.Input(7) }, true}, {func() { u.Read(0) }, true},
		{write(2, 2), false}, {write(2, 3), true}, {write(3, 1), true}, {write(1, 0), true}, {write(4, 0), true}, {write(-1, 0), true}, {func() { u.Tick() }, true},
		{func() { u.Read(0) }, false}, {func() { u.Read(0) }, false}, {func() { u.Input(7) }, true}, {write(2, top-1), false}, {write(2, top), true},
	} {
		c.do()
		if is := u.Line(); is != c.calls {
			t.Errorf("behind %d Line() is %v", n, is)
		}
	}
}

func TestStateHandedOut(t *testing.T) { // P11.3, R3: whatever is done to its rows, or to the uart behind
	for _, s := range states() {
		u := of(t, s)
		out := u.State()
		for k := range out.Came[:cap(out.Came)] {
			out.Came[:cap(out.Came)][k] = 0xaa
		}
		if !slices.Equal(out.Goes, s.Goes) {
			t.Fatalf("the rows of one state share memory: %+v", out)
		}
		for k := range out.Goes[:cap(out.Goes)] {
			out.Goes[:cap(out.Goes)][k] = 0xbb
		}
		check(t, u, s)
		kept := u.State()
		for range room + 1 {
			u.Read(0)
			u.Input(0xcc)
			u.Write(0, 0xcc)
		}
		for range 4 * room {
			u.Tick()
			u.Write(0, 0xcc)
		}
		if !same(kept, s) {
			t.Fatalf("a state handed out became %+v, not %+v", kept, s)
		}
	}
}

func TestCopy(t *testing.T) { // P11.3: one of the same, another one; of a copy, too
	for _, s := range states() {
		u := of(t, s)
		c := u.Copy()
		if c == nil || c == u {
			t.Fatalf("Copy() is %p of %p", c, u)
		}
		check(t, c, s)
		check(t, u, s)
		check(t, c.Copy(), s)
	}
}

func TestCopyGoesApart(t *testing.T) { // P11.3: whichever of both is changed, whatever part
	full := uart.State{Came: row(1, 8), Goes: row(21, 8), LostIn: true, LostOut: true, Ctrl: 1, Phase: 3}
	some := uart.State{Came: row(1, 3), Goes: row(21, 3), Phase: 1}
	for name, c := range map[string]struct {
		change     func(u *uart.Uart)
		of, behind uart.State
	}{
		"came":          {func(u *uart.Uart) { u.Input(4) }, some, uart.State{Came: row(1, 4), Goes: row(21, 3), Phase: 1}},
		"taken":         {func(u *uart.Uart) { u.Read(0) }, full, uart.State{Came: row(2, 7), Goes: row(21, 8), LostIn: true, LostOut: true, Ctrl: 1, Phase: 3}},
		"taken, came":   {func(u *uart.Uart) { u.Read(0); u.Input(9) }, full, uart.State{Came: row(2, 8), Goes: row(21, 8), LostIn: true, LostOut: true, Ctrl: 1, Phase: 3}},
		"goes":          {func(u *uart.Uart) { u.Write(0, 24) }, some, uart.State{Came: row(1, 3), Goes: row(21, 4), Phase: 1}},
		"went":          {func(u *uart.Uart) { u.Tick() }, full, uart.State{Came: row(1, 8), Goes: row(22, 7), LostIn: true, LostOut: true, Ctrl: 1}},
		"went, goes":    {func(u *uart.Uart) { u.Tick(); u.Write(0, 29) }, full, uart.State{Came: row(1, 8), Goes: row(22, 8), LostIn: true, LostOut: true, Ctrl: 1}},
		"lost coming":   {func(u *uart.Uart) { u.Input(1) }, uart.State{Came: row(1, 8)}, uart.State{Came: row(1, 8), LostIn: true}},
		"lost going":    {func(u *uart.Uart) { u.Write(0, 1) }, uart.State{Goes: row(1, 8)}, uart.State{Goes: row(1, 8), LostOut: true}},
		"forgotten":     {func(u *uart.Uart) { u.Write(3, 0) }, full, uart.State{Came: row(1, 8), Goes: row(21, 8), Ctrl: 1, Phase: 3}},
		"Ctrl set":      {func(u *uart.Uart) { u.Write(2, 1) }, some, uart.State{Came: row(1, 3), Goes: row(21, 3), Ctrl: 1, Phase: 1}},
		"Ctrl not set":  {func(u *uart.Uart) { u.Write(2, 0) }, full, uart.State{Came: row(1, 8), Goes: row(21, 8), LostIn: true, LostOut: true, Phase: 3}},
		"Phase":         {func(u *uart.Uart) { u.Tick() }, some, uart.State{Came: row(1, 3), Goes: row(21, 3), Phase: 2}},
		"of fresh ones": {func(u *uart.Uart) { u.Input(1); u.Write(0, 2); u.Tick() }, uart.State{}, uart.State{Came: row(1, 1), Goes: row(2, 1), Phase: 1}},
	} {
		t.Run(name, func(t *testing.T) {
			u := of(t, c.of)
			other := u.Copy()
			c.change(u)
			check(t, other, c.of)
			check(t, u, c.behind)
			third := other.Copy()
			c.change(other)
			check(t, third, c.of)
			check(t, other, c.behind)
			check(t, u, c.behind)
		})
	}
}

func TestCopiesInTurn(t *testing.T) { // P11.3: both have rows of their own
	u := of(t, uart.State{Came: row(1, 7), Goes: row(11, 7), Phase: 3})
	c := u.Copy()
	checkInput(t, u, 8, true)
	checkInput(t, c, 80, true)
	u.Write(0, 18)
	c.Write(0, 180)
	check(t, u, uart.State{Came: row(1, 8), Goes: row(11, 8), Phase: 3})
	check(t, c, uart.State{Came: append(row(1, 7), 80), Goes: append(row(11, 7), 180), Phase: 3})
	for range 2 {
		checkTick(t, u, 11, true)
		checkData(t, u, 257)
		u = c
	}
	check(t, c, uart.State{Came: append(row(2, 6), 80), Goes: append(row(12, 6), 180)})
}

// checkNone asks for all that is promised of no uart, more than once, for nothing must have come of it.
func checkNone(t *testing.T, name string, u *uart.Uart) {
	t.Helper()
	t.Run(name, func(t *testing.T) {
		for range 2 {
			check(t, u, uart.State{})
			checkData(t, u, 0)
			for reg := -9; reg < 9; reg++ {
				for _, v := range values {
					u.Write(reg, v)
				}
			}
			for _, reg := range noRegs {
				u.Write(reg, 1)
			}
			u.Write(2, 1)
			for n := range 10 {
				checkInput(t, u, byte(n), false)
				checkTick(t, u, 0, false)
			}
			checkData(t, u, 0)
			check(t, u, uart.State{})
			if c := u.Copy(); c != nil {
				t.Errorf("there is a copy: %+v", c.State())
			}
		}
	})
}

func TestNoUart(t *testing.T) { // P11.3
	checkNone(t, "nil", nil)
	var none *uart.Uart
	checkNone(t, "a variable that points to none", none)
	checkNone(t, "a copy of none", none.Copy())
}

func TestUartOfNoCall(t *testing.T) { // P11.3, R5
	checkNone(t, "new", new(uart.Uart))
	checkNone(t, "a literal", &uart.Uart{})
	var zero uart.Uart
	checkNone(t, "a variable", &zero)
	for _, s := range states() {
		u := of(t, s)
		for _, m := range []*uart.Uart{u, u.Copy()} {
			value := *m
			checkNone(t, "a uart's value", &value)
			check(t, m, s) // what was asked of its value has not touched it
		}
	}
}

func TestUartsAreApart(t *testing.T) { // R5: no uart knows of another one
	a, b := uart.New(), uart.New()
	a.Input(1)
	b.Write(0, 2)
	a.Write(2, 1)
	b.Tick()
	check(t, a, uart.State{Came: row(1, 1), Ctrl: 1})
	check(t, b, uart.State{Goes: row(2, 1), Phase: 1})
	for range 3 {
		a.Tick()
	}
	checkData(t, b, 0)
	checkData(t, a, 257)
	check(t, a, uart.State{Ctrl: 1, Phase: 3})
	check(t, b, uart.State{Goes: row(2, 1), Phase: 1})
}

func TestOrder(t *testing.T) { // P11.4: bytes come out in the order in which they went in, on either side, however they come and go
	u := uart.New()
	var in, read, out, went []byte
	seed := uint32(7)
	for n := range 4000 {
		seed = seed*1664525 + 1013904223
		b := byte(seed >> 16)
		switch c := seed >> 24; {
		case c < 64:
			if u.Input(b) {
				in = append(in, b)
			}
		case c < 128:
			if v := u.Read(0); v != 0 {
				read = append(read, byte(v))
			}
		case c < 140:
			if len(u.State().Goes) < room {
				out = append(out, b)
			}
			u.Write(0, uint32(b))
		default:
			if b, is := u.Tick(); is {
				went = append(went, b)
			}
		}
		if s := u.State(); !slices.Equal(in, slices.Concat(read, s.Came)) || !slices.Equal(out, slices.Concat(went, s.Goes)) {
			t.Fatalf("behind %d steps bytes are not in order, or not there: %+v", n, s)
		}
	}
	if len(read) < 100 || len(went) < 50 {
		t.Errorf("only %d were read, %d went", len(read), len(went))
	}
}

func TestOneTickInFour(t *testing.T) { // P11.4: of any four in a row just one lets a byte go, while there are some
	for phase := range 4 {
		u := of(t, uart.State{Goes: row(1, 8), Phase: phase})
		var goes []bool
		for range 100 {
			_, is := u.Tick()
			goes = append(goes, is)
			u.Write(0, 9)
		}
		for n := range len(goes) - 3 {
			let := 0
			for _, is := range goes[n : n+4] {
				if is {
					let++
				}
			}
			if let != 1 {
				t.Fatalf("of the four ticks from %d on %d let a byte go", n, let)
			}
		}
	}
}

// step does one thing to a uart and to what is meant, and holds both, and what is answered, against each other.
func step(t *testing.T, name string, u *uart.Uart, s uart.State, what, b byte) uart.State {
	t.Helper()
	regs := []int{0, 1, 2, 3, 4, -1}
	v := uint32(b)
	switch {
	case what < 6:
		want, then := meantRead(s, regs[what])
		if got := u.Read(regs[what]); got != want {
			t.Fatalf("%s: Read(%d) is %#x, not %#x, of %+v", name, regs[what], got, want, s)
		}
		s = then
	case what < 12:
		v = v * 0x01010101
		u.Write(regs[what-6], v)
		s = meantWrite(s, regs[what-6], v)
	case what < 13:
		is, then := meantInput(s, b)
		if u.Input(b) != is {
			t.Fatalf("%s: Input(%d) is %v, of %+v", name, b, !is, s)
		}
		s = then
	default:
		x, is, then := meantTick(s)
		if got, goes := u.Tick(); got != x || goes != is {
			t.Fatalf("%s: Tick() is %d, %v, not %d, %v, of %+v", name, got, goes, x, is, s)
		}
		s = then
	}
	holds(t, name, u, s)
	return s
}

const steps = 14 // so many things step can do

func TestEachShape(t *testing.T) { // P11.1 to P11.3: each thing done to a uart of each number of bytes, flag, Ctrl, phase
	for n := range 9 * 9 * 2 * 2 * 2 * 4 {
		s := uart.State{Came: row(byte(n), n%9), Goes: row(byte(n+100), n/9%9), LostIn: n/81%2 == 1, LostOut: n/162%2 == 1, Ctrl: uint32(n / 324 % 2), Phase: n / 648 % 4}
		u := of(t, s)
		for what := range byte(steps) {
			for _, b := range []byte{0, 0xff} {
				step(t, fmt.Sprint("step ", what), u.Copy(), s, what, b)
			}
		}
		holds(t, "what was copied", u, s)
	}
}

// play does to a uart, and to what is meant, what a text says, two of its bytes a step.
func play(t *testing.T, text []byte) {
	u, s := uart.New(), uart.State{}
	for n := 0; n+2 <= len(text); n += 2 {
		what := text[n] % (steps + 8)
		if what == steps {
			was := u // goes on with the copy, and changes the one that was copied
			u = u.Copy()
			was.Read(0)
			was.Write(0, 1)
			was.Input(1)
			was.Tick()
			was.Write(2, uint32(text[n+1]))
		}
		if what > steps+4 { // bytes are written oftener: else hardly any side is ever full
			what = 6 + what%2*6
		}
		s = step(t, fmt.Sprint("step ", n/2), u, s, what, text[n+1])
	}
}

func TestPlay(t *testing.T) { // P11.1 to P11.3
	for seed := range uint32(8) {
		text := make([]byte, 2*1500)
		for i := range text {
			seed = seed*1664525 + 1013904223
			text[i] = byte(seed >> 24)
		}
		play(t, text)
	}
}

func FuzzUart(f *testing.F) { // P11.1 to P11.3
	f.Add([]byte{12, 65, 12, 66, 8, 1, 0, 0, 0, 0, 0, 0, 6, 7, 6, 8, 13, 0, 13, 0, 13, 0, 13, 0})
	f.Add([]byte{12, 1, 12, 2, 12, 3, 12, 4, 12, 5, 12, 6, 12, 7, 12, 8, 12, 9, 14, 1, 9, 0, 0, 0})
	f.Fuzz(func(t *testing.T, text []byte) {
		play(t, text[:min(len(text), 600)])
	})
}
