package ram_test

import (
	"bytes"
	"math"
	"slices"
	"testing"

	"septum/api"
	"septum/ram"
)

var sizes = []int{1, 2, 4}

// noSizes are numbers that are no size, some of which are one when they are cut to fewer bits.
var noSizes = []int{math.MinInt, -1 << 32, 1 - 1<<32, -8, -4, -3, -2, -1, 0, 3, 5, 6, 7, 8, 12, 16, 32, 0x101, 0x102, 0x104, 1 << 16, 1 << 31, 1 << 32, 1<<32 + 1, 1<<32 + 2, 1<<32 + 4, math.MaxInt - 3, math.MaxInt}

// rooms are numbers of bytes that a memory may have: the least ones, some, the greatest ones.
var rooms = []int{4, 8, 12, 16, 20, 60, 64, 100, 1024, 4088, 4092, 4096}

// values have other bytes in each lane, or the same in all, or such as show where a sign or a byte is lost.
var values = []uint32{0, 1, 0x7f, 0x80, 0xff, 0x100, 0x1234, 0x8000, 0xff00, 0xffff, 0x10000, 0x12345678, 0x7fffffff, 0x80000000, 0x89abcdef, 0xff0000ff, 0xffff0000, 0xfffffffe, 0xffffffff}

// of is a fresh memory of so many bytes.
func of(t *testing.T, n int) *ram.Ram {
	t.Helper()
	m, err := ram.New(n)
	if m == nil || err != api.OK {
		t.Fatalf("New(%d) is %p, %d", n, m, err)
	}
	return m
}

// filled is a memory whose bytes all differ from 0, and from those around them.
func filled(t *testing.T, n int) (*ram.Ram, []byte) {
	t.Helper()
	m, all := of(t, n), make([]byte, n)
	for off := range all {
		all[off] = byte(off%251 + 1)
		checkWrite(t, m, off, 1, uint32(all[off]), true)
	}
	return m, all
}

// offsets are all that a memory has bytes at, those around them, and such as come to lie in it when they are cut to fewer bits.
func offsets(n int) []int {
	all := []int{math.MinInt, math.MinInt + 4, -1 << 33, -1 << 32, 4 - 1<<32, -1 << 31, -1 << 16, -n, math.MaxInt, math.MaxInt - 3, 1 << 62, 1<<33 + 4, 1<<32 + 4, 1 << 32, 1<<32 - 4, 1 << 31, 1 << 16, 1 << 12, 2 * n}
	for off := -9; off <= n+9; off++ {
		all = append(all, off)
	}
	return all
}

// isPlace is what the chapter says of a place.
func isPlace(n, off, size int) bool {
	return slices.Contains(sizes, size) && off%size == 0 && 0 <= off && off <= n-size
}

// numberAt is the number of the bytes at a place, told byte by byte, the lowest first.
func numberAt(all []byte, off, size int) (v uint32) {
	for k := range size {
		v += uint32(all[off+k]) << (8 * k)
	}
	return v
}

// put puts the low part of v at a place, told byte by byte.
func put(all []byte, off, size int, v uint32) {
	for k := range size {
		all[off+k] = byte(v >> (8 * k))
	}
}

func checkRead(t *testing.T, m *ram.Ram, off, size int, want uint32) {
	t.Helper()
	if v, is := m.Read(off, size); v != want || !is {
		t.Errorf("Read(%d, %d) is %#x, %v, not %#x", off, size, v, is, want)
	}
}

func checkReadNone(t *testing.T, m *ram.Ram, off, size int) {
	t.Helper()
	if v, is := m.Read(off, size); v != 0 || is {
		t.Errorf("Read(%d, %d) is %#x, %v", off, size, v, is)
	}
}

func checkWrite(t *testing.T, m *ram.Ram, off, size int, v uint32, want bool) {
	t.Helper()
	if is := m.Write(off, size, v); is != want {
		t.Errorf("Write(%d, %d, %#x) is %v", off, size, v, is)
	}
}

// check holds all that a memory tells against its bytes, by each size, at all offsets.
func check(t *testing.T, m *ram.Ram, all []byte) {
	t.Helper()
	if n := m.Len(); n != len(all) {
		t.Fatalf("Len() is %d, not %d", n, len(all))
	}
	if b := m.Bytes(); !bytes.Equal(b, all) {
		t.Fatalf("Bytes() are % x, not % x", b, all)
	}
	for _, off := range offsets(len(all)) {
		for _, size := range sizes {
			if isPlace(len(all), off, size) {
				checkRead(t, m, off, size, numberAt(all, off, size))
			} else {
				checkReadNone(t, m, off, size)
			}
		}
	}
}

func TestExample(t *testing.T) { // the chapter's example 1
	m := of(t, 8)
	checkWrite(t, m, 2, 2, 0x1234, true)
	checkRead(t, m, 0, 4, 0x12340000)
	checkReadNone(t, m, 2, 4)
	checkReadNone(t, m, 8, 4)
}

func TestNew(t *testing.T) { // P9.1: each number of bytes up to beyond the greatest one; a fresh memory's bytes are 0
	for n := range 5001 {
		m, err := ram.New(n)
		if n < 4 || n > 4096 || n%4 != 0 {
			if m != nil || err != api.ErrArg {
				t.Errorf("New(%d) is %p, %d", n, m, err)
			}
			continue
		}
		if m == nil || err != api.OK {
			t.Fatalf("New(%d) is %p, %d", n, m, err)
		}
		if got := m.Len(); got != n {
			t.Errorf("New(%d) has %d bytes", n, got)
		}
		if b := m.Bytes(); !bytes.Equal(b, make([]byte, n)) {
			t.Errorf("New(%d) has % x", n, b)
		}
	}
}

func TestNewOfTheEdges(t *testing.T) { // P9.1
	for _, c := range []struct {
		n   int
		err api.Errno
	}{
		{0, api.ErrArg}, {4, api.OK}, {5, api.ErrArg}, {8, api.OK}, {4092, api.OK}, {4095, api.ErrArg}, {4096, api.OK}, {4097, api.ErrArg}, {4100, api.ErrArg}, {8192, api.ErrArg},
		{-1, api.ErrArg}, {-4, api.ErrArg}, {-8, api.ErrArg}, {-4096, api.ErrArg}, {math.MinInt, api.ErrArg}, {math.MinInt + 4, api.ErrArg}, {-1 << 32, api.ErrArg}, {4 - 1<<32, api.ErrArg},
		{1 << 16, api.ErrArg}, {1<<16 + 4, api.ErrArg}, {1 << 31, api.ErrArg}, {1 << 32, api.ErrArg}, {1<<32 + 4, api.ErrArg}, {1<<32 + 4096, api.ErrArg}, {math.MaxInt - 3, api.ErrArg}, {math.MaxInt, api.ErrArg},
	} {
		if m, err := ram.New(c.n); err != c.err || (m != nil) != (c.err == api.OK) {
			t.Errorf("New(%d) is %p, %d, not %d", c.n, m, err, c.err)
		}
	}
}

func TestFresh(t *testing.T) { // P9.1: all of it is 0, by whatever sizes
	for _, n := range rooms {
		check(t, of(t, n), make([]byte, n))
	}
}

func TestRead(t *testing.T) { // P9.1: the lowest byte first
	m, _ := filled(t, 12) // 1 to 12
	for _, c := range []struct {
		off, size int
		want      uint32
	}{
		{0, 1, 0x01}, {1, 1, 0x02}, {2, 1, 0x03}, {3, 1, 0x04}, {4, 1, 0x05}, {7, 1, 0x08}, {11, 1, 0x0c},
		{0, 2, 0x0201}, {2, 2, 0x0403}, {4, 2, 0x0605}, {6, 2, 0x0807}, {10, 2, 0x0c0b},
		{0, 4, 0x04030201}, {4, 4, 0x08070605}, {8, 4, 0x0c0b0a09},
	} {
		checkRead(t, m, c.off, c.size, c.want)
	}
}

func TestNoPlace(t *testing.T) { // P9.1: below 0, one behind the last one, no multiple of the size, no size; nothing changes
	m, all := filled(t, 12)
	for _, c := range []struct{ off, size int }{
		{-1, 1}, {-2, 2}, {-4, 4}, {-4, 1}, {-8, 4}, {-12, 4}, {12, 1}, {12, 2}, {12, 4}, {13, 1}, {14, 2}, {16, 4},
		{1, 2}, {3, 2}, {11, 2}, {1, 4}, {2, 4}, {3, 4}, {6, 4}, {9, 4}, {10, 4}, {11, 4},
		{0, 0}, {0, 3}, {3, 3}, {0, 8}, {8, 8}, {0, 12}, {0, -1}, {4, -1}, {0, -2}, {0, -4}, {4, -4}, {8, -4}, {12, -4}, {12, -1},
		{math.MinInt, 1}, {math.MinInt, 4}, {math.MaxInt, 1}, {math.MaxInt - 3, 4}, {1 << 32, 4}, {1<<32 + 4, 4}, {-1 << 32, 4}, {4 - 1<<32, 4}, {1 << 62, 4}, {0, math.MinInt}, {0, math.MaxInt}, {0, 1<<32 + 4},
	} {
		checkReadNone(t, m, c.off, c.size)
		checkWrite(t, m, c.off, c.size, 0x5a5a5a5a, false)
	}
	check(t, m, all)
}

func TestLastPlace(t *testing.T) { // P9.1: of each size, and the one behind it
	for _, n := range rooms {
		for _, size := range sizes {
			m := of(t, n)
			want := make([]byte, n)
			checkWrite(t, m, n-size, size, 0x89abcdef, true)
			put(want, n-size, size, 0x89abcdef)
			checkWrite(t, m, n, size, 0x5a5a5a5a, false)
			check(t, m, want)
		}
	}
}

func TestNoSizes(t *testing.T) { // P9.1: nothing is a place of what is no size
	m, all := filled(t, 16)
	for _, size := range noSizes {
		for _, off := range offsets(16) {
			checkReadNone(t, m, off, size)
			checkWrite(t, m, off, size, 0x5a5a5a5a, false)
		}
	}
	check(t, m, all)
}

func TestWhichArePlaces(t *testing.T) { // P9.1: a write is done just where the chapter has a place
	for _, n := range rooms {
		for _, size := range slices.Concat(sizes, []int{-4, -1, 0, 3, 8}) {
			for _, off := range offsets(n) {
				m := of(t, n)
				checkWrite(t, m, off, size, 0x89abcdef, isPlace(n, off, size))
				want := make([]byte, n)
				if isPlace(n, off, size) {
					put(want, off, size, 0x89abcdef)
				}
				if b := m.Bytes(); !bytes.Equal(b, want) {
					t.Fatalf("of %d, written at %d, %d: % x", n, off, size, b)
				}
			}
		}
	}
}

func TestWrite(t *testing.T) { // P9.1, P9.3: each value at each place of two words, read by each size; the bytes beside stay
	for _, size := range sizes {
		for off := 0; off < 16; off += size {
			for _, v := range values {
				m, want := filled(t, 16)
				checkWrite(t, m, off, size, v, true)
				put(want, off, size, v)
				check(t, m, want)
			}
		}
	}
}

func TestMoreBitsThanTheSize(t *testing.T) { // P9.1: the low part alone stands there
	m := of(t, 8)
	checkWrite(t, m, 1, 1, 0xffffff12, true)
	checkRead(t, m, 0, 4, 0x1200)
	checkWrite(t, m, 3, 1, 0x100, true)
	checkRead(t, m, 0, 4, 0x1200)
	checkRead(t, m, 4, 4, 0)
	checkWrite(t, m, 2, 2, 0xabcd3456, true)
	checkRead(t, m, 0, 4, 0x34561200)
	checkRead(t, m, 4, 4, 0)
	checkWrite(t, m, 0, 2, 0x10000, true)
	checkRead(t, m, 0, 4, 0x34560000)
}

func TestOneSizeByAnother(t *testing.T) { // P9.3: written by one size, read by another one, over two words
	m := of(t, 12)
	for off, v := range []uint32{0x11, 0x22, 0x33, 0x44, 0x55, 0x66, 0x77, 0x88} {
		checkWrite(t, m, off, 1, v, true)
	}
	checkRead(t, m, 0, 4, 0x44332211)
	checkRead(t, m, 4, 4, 0x88776655)
	checkRead(t, m, 2, 2, 0x4433)
	checkRead(t, m, 4, 2, 0x6655)
	checkWrite(t, m, 2, 2, 0xa1b2, true)
	checkWrite(t, m, 4, 2, 0xc3d4, true)
	checkRead(t, m, 0, 4, 0xa1b22211)
	checkRead(t, m, 4, 4, 0x8877c3d4)
	checkWrite(t, m, 4, 4, 0x01020304, true)
	checkRead(t, m, 3, 1, 0xa1)
	checkRead(t, m, 4, 1, 0x04)
	checkRead(t, m, 7, 1, 0x01)
	checkRead(t, m, 6, 2, 0x0102)
	checkRead(t, m, 8, 4, 0)
}

func TestReadChangesNothing(t *testing.T) { // P9.3
	m, all := filled(t, 64)
	for range 3 {
		check(t, m, all)
	}
}

func TestEachByteStaysItself(t *testing.T) { // P9.3: no place is another one's, in the greatest memory, too
	for _, size := range sizes {
		m := of(t, 4096)
		want := make([]byte, 4096)
		for off := 0; off < 4096; off += size {
			v := uint32(off)*2654435761 + 1
			checkWrite(t, m, off, size, v, true)
			put(want, off, size, v)
		}
		check(t, m, want)
	}
}

func TestReset(t *testing.T) { // P9.2: it is fresh, has as many bytes, and is written again
	for _, n := range rooms {
		m, want := filled(t, n)
		for range 2 {
			m.Reset()
			check(t, m, make([]byte, n))
		}
		checkWrite(t, m, n-2, 2, 0x1234, true)
		checkWrite(t, m, n, 2, 0x1234, false)
		clear(want)
		put(want, n-2, 2, 0x1234)
		check(t, m, want)
		m.Reset()
		check(t, m, make([]byte, n))
	}
}

func TestResetOfAFresh(t *testing.T) { // P9.2
	m := of(t, 8)
	m.Reset()
	check(t, m, make([]byte, 8))
}

func TestBytesAreNewMemory(t *testing.T) { // P9.2, R3: whatever is done to them, or to the memory behind
	m, want := filled(t, 16)
	b, other := m.Bytes(), m.Bytes()
	for i := range b {
		b[i] = 0xee
	}
	_ = append(b[:4], 0xdd, 0xdd)
	check(t, m, want)
	if !bytes.Equal(other, want) {
		t.Errorf("Bytes() handed out beside are % x", other)
	}
	checkWrite(t, m, 4, 4, 0x5a5a5a5a, true)
	m.Reset()
	if !bytes.Equal(other, want) {
		t.Errorf("Bytes() handed out ahead are % x", other)
	}
}

func TestCopy(t *testing.T) { // P9.2
	for _, n := range rooms {
		m, want := filled(t, n)
		c := m.Copy()
		if c == nil || c == m {
			t.Fatalf("Copy() is %p of %p", c, m)
		}
		check(t, c, want)
		check(t, m, want)
		check(t, of(t, n).Copy(), make([]byte, n))
	}
}

func TestCopyGoesApart(t *testing.T) { // P9.2: whichever of both is changed, and a copy of a copy, too
	changes := map[string]struct {
		change func(m *ram.Ram)
		want   func(all []byte)
	}{
		"write": {func(m *ram.Ram) { m.Write(4, 4, 0x89abcdef) }, func(all []byte) { put(all, 4, 4, 0x89abcdef) }},
		"byte":  {func(m *ram.Ram) { m.Write(7, 1, 0xaa) }, func(all []byte) { put(all, 7, 1, 0xaa) }},
		"reset": {func(m *ram.Ram) { m.Reset() }, func(all []byte) { clear(all) }},
		"both":  {func(m *ram.Ram) { m.Reset(); m.Write(14, 2, 0xaabb) }, func(all []byte) { clear(all); put(all, 14, 2, 0xaabb) }},
	}
	for name, c := range changes {
		t.Run(name, func(t *testing.T) {
			m, was := filled(t, 16)
			is := slices.Clone(was)
			c.want(is)
			other := m.Copy()
			c.change(m)
			check(t, other, was)
			check(t, m, is)
			third := other.Copy()
			c.change(other)
			check(t, third, was)
			check(t, other, is)
			check(t, m, is)
		})
	}
}

func TestMemoriesAreApart(t *testing.T) { // R5: no memory knows of another one
	a, b := of(t, 8), of(t, 8)
	checkWrite(t, a, 0, 4, 1, true)
	check(t, b, make([]byte, 8))
	b.Reset()
	checkRead(t, a, 0, 4, 1)
}

// checkNone asks for all that is promised of no memory, more than once, for nothing must have come of it.
func checkNone(t *testing.T, name string, m *ram.Ram) {
	t.Helper()
	for range 2 {
		for _, size := range slices.Concat(sizes, noSizes) {
			for _, off := range offsets(16) {
				if m.Write(off, size, 7) {
					t.Errorf("%s: Write(%d, %d) is done", name, off, size)
				}
				if v, is := m.Read(off, size); v != 0 || is {
					t.Errorf("%s: Read(%d, %d) is %#x, %v", name, off, size, v, is)
				}
			}
		}
		m.Reset()
		if n, b, c := m.Len(), m.Bytes(), m.Copy(); n != 0 || b != nil || c != nil {
			t.Errorf("%s: Len() is %d, Bytes() % x, Copy() %p", name, n, b, c)
		}
	}
}

func TestNoMemory(t *testing.T) { // P9.2
	checkNone(t, "nil", nil)
	m, _ := ram.New(5)
	checkNone(t, "of five bytes", m)
	checkNone(t, "a copy of none", m.Copy())
}

func TestMemoryOfNoCall(t *testing.T) { // P9.2, R5
	checkNone(t, "new", new(ram.Ram))
	checkNone(t, "a literal", &ram.Ram{})
	var zero ram.Ram
	checkNone(t, "a variable", &zero)
	m, all := filled(t, 16)
	for _, memory := range []*ram.Ram{m, m.Copy()} {
		value := *memory
		checkNone(t, "a memory's value", &value)
		check(t, memory, all) // what was asked of its value has not touched it
	}
}

// play does to a memory, and to bytes, what a text says, six of its bytes a step, and holds both against each other at each step.
func play(t *testing.T, n int, text []byte) {
	m, all := of(t, n), make([]byte, n)
	for ; len(text) >= 6; text = text[6:] {
		v := uint32(numberAt(text, 2, 4))
		off, size := int(text[1])%(n+8)-4, []int{1, 2, 4, 3}[text[0]>>4%4]
		switch text[0] % 16 {
		case 0:
			m.Reset()
			clear(all)
		case 1: // goes on with the copy, and changes the memory that was copied
			was := m
			m = m.Copy()
			was.Write(0, 4, ^v)
			was.Reset()
		case 2:
			b := m.Bytes()
			clear(b)
		default:
			checkWrite(t, m, off, size, v, isPlace(n, off, size))
			if isPlace(n, off, size) {
				put(all, off, size, v)
			}
		}
		check(t, m, all)
	}
}

func TestWhatFollows(t *testing.T) { // P9.3: what is written is read, by whatever sizes; other bytes stay
	seed := uint32(1)
	text := make([]byte, 6*300)
	for i := range text {
		seed = seed*1664525 + 1013904223
		text[i] = byte(seed >> 24)
	}
	for _, n := range []int{4, 8, 12, 32, 64, 240} {
		play(t, n, text)
	}
}

func FuzzMemory(f *testing.F) { // P9.1 to P9.3
	f.Add(8, []byte{0x33, 6, 0x34, 0x12, 0, 0, 0x53, 8, 1, 2, 3, 4})
	f.Add(4, []byte{0x13, 4, 1, 2, 3, 4, 1, 0, 0, 0, 0, 0, 0, 0, 0, 0, 0, 0})
	f.Add(5, []byte{})
	f.Fuzz(func(t *testing.T, n int, text []byte) {
		if n < 4 || n > api.MaxRam || n%4 != 0 {
			if m, err := ram.New(n); m != nil || err != api.ErrArg {
				t.Errorf("New(%d) is %p, %d", n, m, err)
			}
			return
		}
		play(t, n, text[:min(len(text), 600)])
	})
}
