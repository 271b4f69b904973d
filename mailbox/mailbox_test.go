package mailbox_test

import (
	"fmt"
	"math"
	"slices"
	"testing"

	"septum/mailbox"
)

const (
	top  = math.MaxUint32
	room = 4
)

// values are words near which something ends: what Ctrl has of bits, how many there may be, bytes, halves, signs, the whole.
var values = []uint32{0, 1, 2, 3, 4, 5, 7, 8, 0x7f, 0x80, 0xfe, 0xff, 0x100, 0x101, 0x7fff, 0x8000, 0xff00, 0xffff, 0x10000, 0x10001, 0x12345678, 0x7fffffff, 0x80000000, 0x80000001, 0xffffff00, top - 1, top}

// noRegs are numbers that are no register's, some of which are one when they are cut to fewer bits.
var noRegs = []int{math.MinInt, math.MinInt + 1, math.MinInt + 3, -1 << 32, 1 - 1<<32, 3 - 1<<32, -1 << 31, -1 << 16, -256, -255, -8, -7, -4, -3, -2, -1, 4, 5, 6, 7, 8, 12, 16, 100, 0x100, 0x101, 0x102, 0x103, 1 << 16, 1<<16 + 2, 1 << 31, 1 << 32, 1<<32 + 1, 1<<32 + 2, 1<<32 + 3, 1 << 62, math.MaxInt - 1, math.MaxInt}

// row is n words, one as near as the next one.
func row(first uint32, n int) []uint32 {
	var l []uint32
	for k := range n {
		l = append(l, first+uint32(k))
	}
	return l
}

func same(a, b mailbox.State) bool {
	return slices.Equal(a.Words, b.Words) && a.Ctrl == b.Ctrl && a.Lost == b.Lost
}

// holds holds what a mailbox tells, but for what a read of 0 takes, against what it is meant to have.
func holds(t *testing.T, name string, b *mailbox.Box, want mailbox.State) {
	t.Helper()
	if s := b.State(); !same(s, want) {
		t.Fatalf("%s: State() is %+v, not %+v", name, s, want)
	}
	for reg, w := range map[int]uint32{1: uint32(len(want.Words)), 2: want.Ctrl, 3: want.Lost, 4: 0, -1: 0} {
		if v := b.Read(reg); v != w {
			t.Fatalf("%s: Read(%d) is %#x, not %#x, of %+v", name, reg, v, w, want)
		}
	}
	if is, calls := b.Line(), want.Ctrl == 1 && len(want.Words) > 0; is != calls {
		t.Fatalf("%s: Line() is %v, of %+v", name, is, want)
	}
}

// check holds all that a mailbox tells against what it is meant to have, more than once, for nothing is changed by what is asked.
func check(t *testing.T, b *mailbox.Box, want mailbox.State) {
	t.Helper()
	for range 2 {
		holds(t, "check", b, want)
		for _, reg := range noRegs {
			if v := b.Read(reg); v != 0 {
				t.Fatalf("Read(%d) is %#x, of %+v", reg, v, want)
			}
		}
	}
	holds(t, "check", b, want)
}

func checkTake(t *testing.T, b *mailbox.Box, want uint32) {
	t.Helper()
	if v := b.Read(0); v != want {
		t.Fatalf("Read(0) is %#x, not %#x", v, want)
	}
}

// of is a mailbox that was brought to have all that a state says.
func of(t *testing.T, s mailbox.State) *mailbox.Box {
	t.Helper()
	b := mailbox.New()
	for range room + s.Lost {
		b.Write(0, 0xdddddddd)
	}
	for range room {
		b.Read(0)
	}
	for _, v := range s.Words {
		b.Write(0, v)
	}
	b.Write(2, s.Ctrl)
	holds(t, "of", b, s)
	return b
}

// states are each kind of them: of rows without words, with one, with some, full; none lost, one, many.
func states() []mailbox.State {
	return []mailbox.State{
		{}, {Ctrl: 1}, {Lost: 3}, {Ctrl: 1, Lost: 1}, {Words: row(65, 1), Ctrl: 1}, {Words: row(0, 1)}, {Words: row(top, 1), Lost: 300},
		{Words: row(7, 2), Ctrl: 1, Lost: 2}, {Words: row(top-1, 3)}, {Words: row(0x80000000, 3), Ctrl: 1, Lost: 1}, {Words: row(1, 4)}, {Words: row(top-2, 4), Ctrl: 1, Lost: 77}, {Words: []uint32{0, 0, 0, 0}, Ctrl: 1},
	}
}

// meantRead is what the chapter says of a read: what is told, and what is had then.
func meantRead(s mailbox.State, reg int) (uint32, mailbox.State) {
	switch {
	case reg == 0 && len(s.Words) > 0:
		v := s.Words[0]
		s.Words = s.Words[1:]
		return v, s
	case reg == 1:
		return uint32(len(s.Words)), s
	case reg == 2:
		return s.Ctrl, s
	case reg == 3:
		return s.Lost, s
	}
	return 0, s
}

// meantWrite is what the chapter says of a write, of a mailbox of which not as many were lost as may be told.
func meantWrite(s mailbox.State, reg int, v uint32) mailbox.State {
	switch {
	case reg == 0 && len(s.Words) < room:
		s.Words = append(slices.Clone(s.Words), v)
	case reg == 0:
		s.Lost++
	case reg == 2:
		s.Ctrl = v % 2
	case reg == 3:
		s.Lost = 0
	}
	return s
}

func TestExample(t *testing.T) { // the chapter's example 1
	b := mailbox.New()
	for v := range uint32(5) {
		b.Write(0, v+1)
	}
	check(t, b, mailbox.State{Words: []uint32{1, 2, 3, 4}, Lost: 1})
	checkTake(t, b, 1)
	check(t, b, mailbox.State{Words: []uint32{2, 3, 4}, Lost: 1})
}

func TestNew(t *testing.T) { // P12.1: a fresh mailbox, a new one each time
	b := mailbox.New()
	if b == nil || b == mailbox.New() {
		t.Fatalf("New() is %p", b)
	}
	check(t, b, mailbox.State{})
	checkTake(t, b, 0)
	check(t, b, mailbox.State{})
	b.Write(0, 2)
	b.Write(2, 1)
	check(t, mailbox.New(), mailbox.State{})
}

func TestTake(t *testing.T) { // P12.1: when there is no word, when there is one, when there are some and four
	b := mailbox.New()
	for range 3 {
		checkTake(t, b, 0)
		check(t, b, mailbox.State{})
	}
	for n := range room + 1 {
		for _, ctrl := range []uint32{0, 1} {
			b := of(t, mailbox.State{Words: row(0xfffffffd, n), Ctrl: ctrl, Lost: 2})
			for k := range n {
				check(t, b, mailbox.State{Words: row(0xfffffffd, n)[k:], Ctrl: ctrl, Lost: 2})
				checkTake(t, b, 0xfffffffd+uint32(k))
			}
			for range 3 {
				check(t, b, mailbox.State{Ctrl: ctrl, Lost: 2})
				checkTake(t, b, 0)
			}
			b.Write(0, 6)
			check(t, b, mailbox.State{Words: row(6, 1), Ctrl: ctrl, Lost: 2})
			checkTake(t, b, 6)
			checkTake(t, b, 0)
		}
	}
}

func TestEachWord(t *testing.T) { // P12.1: each value is a word, all of its bits, at each place; what is there besides stays
	for _, v := range values {
		for n := range room {
			for then := range room - n {
				words := slices.Concat(row(5, n), []uint32{v}, row(50, then))
				b := of(t, mailbox.State{Words: row(5, n), Ctrl: 1, Lost: 3})
				b.Write(0, v)
				for k := range then {
					b.Write(0, 50+uint32(k))
				}
				for k, w := range words {
					check(t, b, mailbox.State{Words: words[k:], Ctrl: 1, Lost: 3})
					checkTake(t, b, w)
				}
				check(t, b, mailbox.State{Ctrl: 1, Lost: 3})
			}
		}
	}
}

func TestAWordThatIsZero(t *testing.T) { // P12.1: it is told apart from none by how many there are, and by what it calls
	b := mailbox.New()
	b.Write(2, 1)
	for n := range uint32(room) {
		b.Write(0, 0)
		check(t, b, mailbox.State{Words: make([]uint32, n+1), Ctrl: 1})
	}
	for n := range room {
		if !b.Line() {
			t.Errorf("of %d words of 0 it does not call", room-n)
		}
		checkTake(t, b, 0)
	}
	check(t, b, mailbox.State{Ctrl: 1})
	checkTake(t, b, 0)
	check(t, b, mailbox.State{Ctrl: 1})
}

func TestHowMany(t *testing.T) { // P12.1: each number from 0 to 4, up and down; a fifth one is none
	b := mailbox.New()
	for n := range uint32(room + 3) {
		if v := b.Read(1); v != min(n, room) {
			t.Errorf("behind %d writes there are %d", n, v)
		}
		b.Write(0, n)
	}
	for n := range uint32(room + 3) {
		if v := b.Read(1); v != room-min(n, room) {
			t.Errorf("behind %d reads there are %d", n, v)
		}
		b.Read(0)
	}
}

func TestAFifthWord(t *testing.T) { // P12.1: lost, told, forgotten, and lost again; it changes nothing else
	for _, v := range values {
		b := of(t, mailbox.State{Words: row(10, 4), Ctrl: 1})
		for lost := range uint32(6) {
			check(t, b, mailbox.State{Words: row(10, 4), Ctrl: 1, Lost: lost})
			b.Write(0, v)
		}
		check(t, b, mailbox.State{Words: row(10, 4), Ctrl: 1, Lost: 6})
		for range 2 {
			b.Write(3, v)
			check(t, b, mailbox.State{Words: row(10, 4), Ctrl: 1})
		}
		b.Write(0, v)
		check(t, b, mailbox.State{Words: row(10, 4), Ctrl: 1, Lost: 1})
	}
}

func TestManyAreLost(t *testing.T) { // P12.1: more than a byte, and than a half, tells
	b := of(t, mailbox.State{Words: row(10, 4)})
	for lost := range uint32(1<<16 + 300) {
		if v := b.Read(3); v != lost {
			t.Fatalf("%d were lost, not %d", v, lost)
		}
		b.Write(0, 1)
	}
	check(t, b, mailbox.State{Words: row(10, 4), Lost: 1<<16 + 300})
	b.Write(3, 0)
	check(t, b, mailbox.State{Words: row(10, 4)})
}

func TestLostStaysTold(t *testing.T) { // P12.1: that there is room again does not make it forget
	b := of(t, mailbox.State{Words: row(10, 4)})
	b.Write(0, 99)
	checkTake(t, b, 10)
	check(t, b, mailbox.State{Words: row(11, 3), Lost: 1})
	b.Write(0, 77)
	check(t, b, mailbox.State{Words: append(row(11, 3), 77), Lost: 1})
	b.Write(0, 78)
	for _, v := range []uint32{11, 12, 13, 77, 0} {
		check(t, b, mailbox.State{Words: b.State().Words, Lost: 2})
		checkTake(t, b, v)
	}
	check(t, b, mailbox.State{Lost: 2})
	b.Write(3, 0)
	check(t, b, mailbox.State{})
}

func TestBehindOneThatWasTaken(t *testing.T) { // P12.1: room comes of each word that is gone, however often
	for n := 1; n <= room; n++ {
		b := of(t, mailbox.State{Words: row(0, n)})
		for k := range uint32(40) {
			checkTake(t, b, k)
			b.Write(0, k+uint32(n))
			check(t, b, mailbox.State{Words: row(k+1, n)})
		}
	}
}

func TestCtrlWithMoreBits(t *testing.T) { // P12.1: v's lowest bit alone, whichever was set
	for was := range uint32(2) {
		for _, c := range []struct{ v, want uint32 }{{0, 0}, {1, 1}, {2, 0}, {3, 1}, {4, 0}, {7, 1}, {0x80, 0}, {0xfe, 0}, {0xff, 1}, {0x100, 0}, {0x101, 1}, {0x80000000, 0}, {0x80000001, 1}, {top - 1, 0}, {top, 1}} {
			b := of(t, mailbox.State{Words: row(4, 2), Ctrl: was, Lost: 5})
			b.Write(2, c.v)
			check(t, b, mailbox.State{Words: row(4, 2), Ctrl: c.want, Lost: 5})
		}
	}
}

func TestForgotten(t *testing.T) { // P12.1: none was lost, with whatever is written; all else stays
	for _, v := range values {
		for _, s := range states() {
			b := of(t, s)
			b.Write(3, v)
			s.Lost = 0
			check(t, b, s)
		}
	}
}

func TestWrite(t *testing.T) { // P12.1: each register, with each value; all else stays
	for _, s := range states() {
		for reg := range 4 {
			for _, v := range values {
				b := of(t, s)
				b.Write(reg, v)
				check(t, b, meantWrite(s, reg, v))
			}
		}
	}
}

func TestWriteToNoRegister(t *testing.T) { // P12.1: to 1, one below 0, one behind the last one, far beyond
	for _, s := range states() {
		b := of(t, s)
		for _, reg := range append([]int{1}, noRegs...) {
			for _, v := range values {
				b.Write(reg, v)
			}
			holds(t, fmt.Sprint("behind a write to ", reg), b, s)
		}
		check(t, b, s)
	}
}

func TestReadOfNoRegister(t *testing.T) { // P12.1: it tells nothing, and takes nothing
	for _, s := range states() {
		b := of(t, s)
		for _, reg := range noRegs {
			if v := b.Read(reg); v != 0 {
				t.Errorf("Read(%d) is %#x", reg, v)
			}
			holds(t, fmt.Sprint("behind a read of ", reg), b, s)
		}
	}
}

func TestEachRegisterNearby(t *testing.T) { // P12.1: which of them tell, which of them do something
	s := mailbox.State{Words: row(0x11, 2), Ctrl: 1, Lost: 9}
	for reg := -300; reg <= 300; reg++ {
		want := map[int]uint32{0: 0x11, 1: 2, 2: 1, 3: 9}[reg]
		b := of(t, s)
		if v := b.Read(reg); v != want {
			t.Errorf("Read(%d) is %#x, not %#x", reg, v, want)
		}
		_, then := meantRead(s, reg)
		holds(t, fmt.Sprint("behind a read of ", reg), b, then)
		b = of(t, s)
		b.Write(reg, 0x1c)
		holds(t, fmt.Sprint("behind a write to ", reg), b, meantWrite(s, reg, 0x1c))
	}
}

func TestLine(t *testing.T) { // P12.1: with Ctrl 0 and 1, with and without a word; nothing else counts
	for ctrl := range uint32(2) {
		for n := range room + 1 {
			for _, lost := range []uint32{0, 1, 2, 100} {
				b := of(t, mailbox.State{Words: row(0, n), Ctrl: ctrl, Lost: lost})
				if is := b.Line(); is != (ctrl == 1 && n > 0) {
					t.Errorf("of Ctrl %d and %d words, %d lost, Line() is %v", ctrl, n, lost, is)
				}
			}
		}
	}
}

func TestLineComesAndGoes(t *testing.T) { // P12.1: with the bit, with the words
	b := mailbox.New()
	write := func(reg int, v uint32) func() { return func() { b.Write(reg, v) } }
	read := func() { b.Read(0) }
	for n, c := range []struct {
		do    func()
		calls bool
	}{
		{write(2, 1), false}, {write(1, 1), false}, {write(0, 0), true}, {write(0, 7), true}, {read, true}, {write(2, 2), false}, {write(2, 3), true}, {write(3, 1), true}, {write(1, 0), true}, {write(4, 0), true}, {write(-1, 0), true},
		{read, false}, {read, false}, {write(0, 7), true}, {write(2, top-1), false}, {write(2, top), true}, {write(0, 1), true}, {write(0, 1), true}, {write(0, 1), true}, {write(0, 1), true}, {read, true}, {read, true}, {read, true}, {read, false},
	} {
		c.do()
		if is := b.Line(); is != c.calls {
			t.Errorf("behind %d Line() is %v", n, is)
		}
	}
}

func TestStateHandedOut(t *testing.T) { // P12.2, R3: whatever is done to its row, or to the mailbox behind
	for _, s := range states() {
		b := of(t, s)
		out := b.State()
		for k := range out.Words[:cap(out.Words)] {
			out.Words[:cap(out.Words)][k] = 0xaaaaaaaa
		}
		check(t, b, s)
		kept, other := b.State(), b.State()
		for k := range other.Words {
			other.Words[k] = 0xbbbbbbbb
		}
		for range room + 1 {
			b.Read(0)
			b.Write(0, 0xcccccccc)
		}
		if !same(kept, s) {
			t.Fatalf("a state handed out became %+v, not %+v", kept, s)
		}
	}
}

func TestCopy(t *testing.T) { // P12.2: one of the same, another one; of a copy, too
	for _, s := range states() {
		b := of(t, s)
		c := b.Copy()
		if c == nil || c == b {
			t.Fatalf("Copy() is %p of %p", c, b)
		}
		check(t, c, s)
		check(t, b, s)
		check(t, c.Copy(), s)
	}
}

func TestCopyGoesApart(t *testing.T) { // P12.2: whichever of both is changed, whatever part
	full := mailbox.State{Words: row(1, 4), Ctrl: 1, Lost: 6}
	some := mailbox.State{Words: row(1, 2)}
	write := func(reg int, v uint32) func(b *mailbox.Box) {
		return func(b *mailbox.Box) { b.Write(reg, v) }
	}
	for name, c := range map[string]struct {
		change     func(b *mailbox.Box)
		of, behind mailbox.State
	}{
		"written":        {write(0, 3), some, mailbox.State{Words: row(1, 3)}},
		"taken":          {func(b *mailbox.Box) { b.Read(0) }, full, mailbox.State{Words: row(2, 3), Ctrl: 1, Lost: 6}},
		"taken, written": {func(b *mailbox.Box) { b.Read(0); b.Write(0, 5) }, full, mailbox.State{Words: row(2, 4), Ctrl: 1, Lost: 6}},
		"emptied":        {func(b *mailbox.Box) { b.Read(0); b.Read(0) }, some, mailbox.State{}},
		"lost":           {write(0, 5), full, mailbox.State{Words: row(1, 4), Ctrl: 1, Lost: 7}},
		"forgotten":      {write(3, 0), full, mailbox.State{Words: row(1, 4), Ctrl: 1}},
		"Ctrl set":       {write(2, 1), some, mailbox.State{Words: row(1, 2), Ctrl: 1}},
		"Ctrl not set":   {write(2, 0), full, mailbox.State{Words: row(1, 4), Lost: 6}},
		"of fresh ones":  {func(b *mailbox.Box) { b.Write(0, 1); b.Write(2, 1) }, mailbox.State{}, mailbox.State{Words: row(1, 1), Ctrl: 1}},
	} {
		t.Run(name, func(t *testing.T) {
			b := of(t, c.of)
			other := b.Copy()
			c.change(b)
			check(t, other, c.of)
			check(t, b, c.behind)
			third := other.Copy()
			c.change(other)
			check(t, third, c.of)
			check(t, other, c.behind)
			check(t, b, c.behind)
		})
	}
}

func TestCopiesInTurn(t *testing.T) { // P12.2: both have a row of their own
	b := of(t, mailbox.State{Words: row(1, 3)})
	c := b.Copy()
	b.Write(0, 8)
	c.Write(0, 80)
	check(t, b, mailbox.State{Words: []uint32{1, 2, 3, 8}})
	check(t, c, mailbox.State{Words: []uint32{1, 2, 3, 80}})
	checkTake(t, b, 1)
	checkTake(t, c, 1)
	b.Write(0, 9)
	check(t, b, mailbox.State{Words: []uint32{2, 3, 8, 9}})
	check(t, c, mailbox.State{Words: []uint32{2, 3, 80}})
}

// checkNone asks for all that is promised of no mailbox, more than once, for nothing must have come of it.
func checkNone(t *testing.T, name string, b *mailbox.Box) {
	t.Helper()
	t.Run(name, func(t *testing.T) {
		for range 2 {
			check(t, b, mailbox.State{})
			checkTake(t, b, 0)
			for reg := -9; reg < 9; reg++ {
				for _, v := range values {
					b.Write(reg, v)
				}
				check(t, b, mailbox.State{})
			}
			for _, reg := range noRegs {
				b.Write(reg, 1)
			}
			b.Write(2, 1)
			for range 9 {
				b.Write(0, 5)
			}
			checkTake(t, b, 0)
			check(t, b, mailbox.State{})
			if s := b.State(); s.Words != nil {
				t.Errorf("State() is %+v", s)
			}
			if c := b.Copy(); c != nil {
				t.Errorf("there is a copy: %+v", c.State())
			}
		}
	})
}

func TestNoMailbox(t *testing.T) { // P12.2
	checkNone(t, "nil", nil)
	var none *mailbox.Box
	checkNone(t, "a variable that points to none", none)
	checkNone(t, "a copy of none", none.Copy())
}

func TestMailboxOfNoCall(t *testing.T) { // P12.2, R5
	checkNone(t, "new", new(mailbox.Box))
	checkNone(t, "a literal", &mailbox.Box{})
	var zero mailbox.Box
	checkNone(t, "a variable", &zero)
	for _, s := range states() {
		b := of(t, s)
		for _, m := range []*mailbox.Box{b, b.Copy()} {
			value := *m
			checkNone(t, "a mailbox's value", &value)
			check(t, m, s) // what was asked of its value has not touched it
		}
	}
}

func TestMailboxesAreApart(t *testing.T) { // R5: no mailbox knows of another one
	a, b := mailbox.New(), mailbox.New()
	a.Write(0, 1)
	b.Write(0, 2)
	a.Write(2, 1)
	b.Write(0, 3)
	check(t, a, mailbox.State{Words: row(1, 1), Ctrl: 1})
	check(t, b, mailbox.State{Words: row(2, 2)})
	checkTake(t, a, 1)
	checkTake(t, b, 2)
	check(t, a, mailbox.State{Ctrl: 1})
	check(t, b, mailbox.State{Words: row(3, 1)})
}

// pick is the next one of numbers that are the same each time.
func pick(seed *uint32) uint32 {
	*seed = *seed*1664525 + 1013904223
	return *seed >> 8
}

func TestOrder(t *testing.T) { // P12.3: words are read in the order in which they were written; none comes or goes but so
	b := mailbox.New()
	var written uint32
	var put, read []uint32
	for seed, n := uint32(7), 0; n < 4000; n++ {
		often := uint32(n / 200 % 3) // now it is full mostly, now it is empty mostly
		if pick(&seed)%4 <= often {
			written++ // is the word, too: so no two are alike
			if len(b.State().Words) < room {
				put = append(put, written)
			}
			b.Write(0, written)
		} else if v := b.Read(0); v != 0 {
			read = append(read, v)
		}
		s := b.State()
		if !slices.Equal(put, slices.Concat(read, s.Words)) {
			t.Fatalf("behind %d steps words are not in order, or not there: %+v", n, s)
		}
		if written != uint32(len(s.Words)+len(read))+s.Lost {
			t.Fatalf("behind %d steps %d were written, %d taken, of %+v", n, written, len(read), s)
		}
	}
	if lost := b.Read(3); len(read) < 1000 || lost < 500 {
		t.Errorf("only %d were read, %d lost", len(read), lost)
	}
}

// step does one thing to a mailbox and to what is meant, and holds both, and what is answered, against each other.
func step(t *testing.T, name string, b *mailbox.Box, s mailbox.State, what byte, v uint32) mailbox.State {
	t.Helper()
	regs := []int{0, 1, 2, 3, 4, -1}
	reg := regs[int(what)%len(regs)]
	if int(what) < len(regs) {
		want, then := meantRead(s, reg)
		if got := b.Read(reg); got != want {
			t.Fatalf("%s: Read(%d) is %#x, not %#x, of %+v", name, reg, got, want, s)
		}
		s = then
	} else {
		b.Write(reg, v)
		s = meantWrite(s, reg, v)
	}
	holds(t, name, b, s)
	return s
}

const steps = 12 // so many things step can do

func TestEachShape(t *testing.T) { // P12.1, P12.2: each thing done to a mailbox of each number of words, Ctrl, with none lost and some
	for n := range (room + 1) * 2 * 3 {
		s := mailbox.State{Words: row(uint32(n)*0x01010101, n%5), Ctrl: uint32(n / 5 % 2), Lost: uint32(n / 10 % 3)}
		b := of(t, s)
		for what := range byte(steps) {
			for _, v := range values {
				step(t, fmt.Sprint("step ", what), b.Copy(), s, what, v)
			}
		}
		holds(t, "what was copied", b, s)
	}
}

// play does to a mailbox, and to what is meant, what a text says, two of its bytes a step.
func play(t *testing.T, text []byte) {
	b, s := mailbox.New(), mailbox.State{}
	for n := 0; n+2 <= len(text); n += 2 {
		what, v := text[n]%(steps+6), uint32(text[n+1])*0x01010101
		if what == steps {
			was := b // goes on with the copy, and changes the one that was copied
			b = b.Copy()
			was.Read(0)
			for reg := range 4 {
				was.Write(reg, v)
			}
		}
		if what >= steps { // words are written oftener: else it is hardly ever full
			what = 6
		}
		s = step(t, fmt.Sprint("step ", n/2), b, s, what, v)
	}
}

func TestPlay(t *testing.T) { // P12.1, P12.2
	for seed := range uint32(8) {
		text := make([]byte, 2*1500)
		for i := range text {
			text[i] = byte(pick(&seed) >> 16)
		}
		play(t, text)
	}
}

func FuzzMailbox(f *testing.F) { // P12.1, P12.2
	f.Add([]byte{6, 1, 6, 2, 6, 3, 6, 4, 6, 5, 0, 0, 0, 0, 9, 0})
	f.Add([]byte{8, 1, 6, 0, 6, 255, 12, 1, 0, 0, 0, 0, 0, 0, 8, 254})
	f.Fuzz(func(t *testing.T, text []byte) {
		play(t, text[:min(len(text), 600)])
	})
}
