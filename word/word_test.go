package word_test

import (
	"bytes"
	"math"
	"slices"
	"testing"

	"septum/word"
)

// edges are words near which something ends: bytes, halves, the whole, signs.
var edges = []uint32{
	0, 1, 2, 3, 0x7e, 0x7f, 0x80, 0x81, 0xfe, 0xff, 0x100, 0x101, 0x7fff, 0x8000, 0xfffe, 0xffff, 0x10000, 0x10001,
	0xff00, 0xff0000, 0xffffff, 0x1000000, 0xff000000, 0x12345678, 0x87654321, 0xdeadbeef, 0x0f0f0f0f, 0xf0f0f0f0,
	0x55555555, 0xaaaaaaaa, 0x7ffffffe, 0x7fffffff, 0x80000000, 0x80000001, 0xfffffffd, 0xfffffffe, 0xffffffff,
}

// samples are the edges, each word of one bit and one of no bit, and some between, the same ones each time.
func samples() []uint32 {
	all := slices.Clone(edges)
	for k := range 32 {
		all = append(all, 1<<k, ^uint32(1<<k))
	}
	v := uint32(1)
	for range 2000 {
		v = v*1664525 + 1013904223
		all = append(all, v)
	}
	return all
}

// noSizes are numbers that are no size, some of which are one when they are cut to fewer bits.
var noSizes = []int{math.MinInt, -1 << 32, -4, -2, -1, 0, 3, 5, 6, 7, 8, 16, 32, 0x101, 0x104, 0x10002, 1<<32 + 1, 1<<32 + 2, 1<<32 + 4, math.MaxInt}

func TestSize(t *testing.T) { // P1.1
	for n := -1000; n <= 1000; n++ {
		if want := n == 1 || n == 2 || n == 4; word.Size(n) != want {
			t.Errorf("Size(%d) is %v", n, !want)
		}
	}
	for _, n := range noSizes {
		if word.Size(n) {
			t.Errorf("Size(%d) is true", n)
		}
	}
}

func TestLow(t *testing.T) { // P1.1
	for _, c := range []struct {
		v    uint32
		size int
		want uint32
	}{
		{0x1234, 1, 0x34}, {0x1234, 2, 0x1234}, {0x1234, 4, 0x1234},
		{0xdeadbeef, 1, 0xef}, {0xdeadbeef, 2, 0xbeef}, {0xdeadbeef, 4, 0xdeadbeef},
		{0, 1, 0}, {0, 2, 0}, {0, 4, 0},
		{0xffffffff, 1, 0xff}, {0xffffffff, 2, 0xffff}, {0xffffffff, 4, 0xffffffff},
		{0xffffff00, 1, 0}, {0xffff0000, 2, 0}, {0x80000000, 4, 0x80000000},
	} {
		if got, is := word.Low(c.v, c.size); got != c.want || !is {
			t.Errorf("Low(%#x, %d) is %#x, %v, not %#x", c.v, c.size, got, is, c.want)
		}
	}
	for _, v := range edges {
		for _, n := range noSizes {
			if got, is := word.Low(v, n); got != 0 || is {
				t.Errorf("Low(%#x, %d) is %#x, %v", v, n, got, is)
			}
		}
	}
}

func TestBytes(t *testing.T) { // P1.1
	for _, c := range []struct {
		v    uint32
		size int
		want []byte
	}{
		{0x1234, 4, []byte{0x34, 0x12, 0, 0}}, {0x1234, 2, []byte{0x34, 0x12}}, {0x1234, 1, []byte{0x34}},
		{0xdeadbeef, 4, []byte{0xef, 0xbe, 0xad, 0xde}}, {0xdeadbeef, 2, []byte{0xef, 0xbe}}, {0xdeadbeef, 1, []byte{0xef}},
		{0, 4, []byte{0, 0, 0, 0}}, {0, 2, []byte{0, 0}}, {0, 1, []byte{0}},
		{0xffffffff, 4, []byte{0xff, 0xff, 0xff, 0xff}}, {0xffffffff, 1, []byte{0xff}},
	} {
		if got := word.Bytes(c.v, c.size); !bytes.Equal(got, c.want) {
			t.Errorf("Bytes(%#x, %d) is % x, not % x", c.v, c.size, got, c.want)
		}
	}
	for _, n := range noSizes {
		if got := word.Bytes(0xffffffff, n); len(got) != 0 {
			t.Errorf("Bytes(0xffffffff, %d) is % x", n, got)
		}
	}
}

func TestBytesAreNew(t *testing.T) { // P1.1, R3
	a, b := word.Bytes(0x01020304, 4), word.Bytes(0x01020304, 4)
	clear(a)
	if want := []byte{4, 3, 2, 1}; !bytes.Equal(b, want) || !bytes.Equal(word.Bytes(0x01020304, 4), want) {
		t.Errorf("bytes are shared: % x", b)
	}
}

func TestOf(t *testing.T) { // P1.1
	for _, c := range []struct {
		b    []byte
		want uint32
	}{
		{[]byte{0}, 0}, {[]byte{0x80}, 0x80}, {[]byte{0xff}, 0xff},
		{[]byte{0x34, 0x12}, 0x1234}, {[]byte{0, 0}, 0}, {[]byte{0, 0xff}, 0xff00}, {[]byte{0xff, 0xff}, 0xffff},
		{[]byte{0x34, 0x12, 0, 0}, 0x1234}, {[]byte{0xef, 0xbe, 0xad, 0xde}, 0xdeadbeef},
		{[]byte{0, 0, 0xff, 0}, 0xff0000}, {[]byte{0, 0, 0, 0x80}, 0x80000000},
		{[]byte{0, 0, 0, 0}, 0}, {[]byte{0xff, 0xff, 0xff, 0xff}, 0xffffffff},
	} {
		was := bytes.Clone(c.b)
		if got, is := word.Of(c.b); got != c.want || !is {
			t.Errorf("Of(% x) is %#x, %v, not %#x", was, got, is, c.want)
		}
		if !bytes.Equal(c.b, was) {
			t.Errorf("Of(% x) changed its bytes to % x", was, c.b)
		}
	}
	if got, is := word.Of(nil); got != 0 || is {
		t.Errorf("Of(nil) is %#x, %v", got, is)
	}
	for n := range 300 {
		if n == 1 || n == 2 || n == 4 {
			continue
		}
		if got, is := word.Of(bytes.Repeat([]byte{0xff}, n)); got != 0 || is {
			t.Errorf("Of %d bytes is %#x, %v", n, got, is)
		}
	}
}

func TestOfHangsOnBytesAlone(t *testing.T) { // P1.1: neither on what lies behind them nor on their room
	row := []byte{1, 2, 3, 4, 5, 6, 7, 8}
	for _, c := range []struct {
		b    []byte
		want uint32
		is   bool
	}{{row[:0], 0, false}, {row[:1], 1, true}, {row[2:4], 0x0403, true}, {row[:3], 0, false}, {row[3:7:7], 0x07060504, true}, {row[:5], 0, false}} {
		if got, is := word.Of(c.b); got != c.want || is != c.is {
			t.Errorf("Of(% x) is %#x, %v", c.b, got, is)
		}
	}
}

func TestAdd(t *testing.T) { // P1.2
	for _, c := range []struct {
		a, b, sum uint32
		over      bool
	}{
		{0, 0, 0, false}, {1, 2, 3, false}, {0xffffffff, 2, 1, true}, {0xfffffffe, 1, 0xffffffff, false},
		{0xffffffff, 1, 0, true}, {1, 0xffffffff, 0, true}, {0x80000000, 0x80000000, 0, true}, {0x7fffffff, 0x80000000, 0xffffffff, false},
		{0xffffffff, 0, 0xffffffff, false}, {0, 0xffffffff, 0xffffffff, false}, {0xffffffff, 0xffffffff, 0xfffffffe, true},
		{0x7fffffff, 1, 0x80000000, false},
	} {
		if sum, over := word.Add(c.a, c.b); sum != c.sum || over != c.over {
			t.Errorf("Add(%#x, %#x) is %#x, %v, not %#x, %v", c.a, c.b, sum, over, c.sum, c.over)
		}
	}
	for _, a := range samples() {
		for _, b := range edges {
			whole := uint64(a) + uint64(b)
			if sum, over := word.Add(a, b); uint64(sum) != whole%(1<<32) || over != (whole >= 1<<32) {
				t.Errorf("Add(%#x, %#x) is %#x, %v", a, b, sum, over)
			}
		}
	}
}

func TestSub(t *testing.T) { // P1.2
	for _, c := range []struct {
		a, b, rest uint32
		under      bool
	}{
		{0, 0, 0, false}, {3, 2, 1, false}, {1, 2, 0xffffffff, true}, {0, 1, 0xffffffff, true}, {0, 0xffffffff, 1, true},
		{0xffffffff, 0xffffffff, 0, false}, {0xfffffffe, 0xffffffff, 0xffffffff, true}, {0xffffffff, 0, 0xffffffff, false},
		{0x80000000, 1, 0x7fffffff, false}, {0x7fffffff, 0x80000000, 0xffffffff, true}, {0x80000000, 0x7fffffff, 1, false},
	} {
		if rest, under := word.Sub(c.a, c.b); rest != c.rest || under != c.under {
			t.Errorf("Sub(%#x, %#x) is %#x, %v, not %#x, %v", c.a, c.b, rest, under, c.rest, c.under)
		}
	}
	for _, a := range samples() {
		for _, b := range edges {
			whole := int64(a) - int64(b)
			if rest, under := word.Sub(a, b); int64(rest) != (whole+1<<32)%(1<<32) || under != (whole < 0) {
				t.Errorf("Sub(%#x, %#x) is %#x, %v", a, b, rest, under)
			}
		}
	}
}

func TestFirst(t *testing.T) { // P1.3
	if bit, is := word.First(0); bit != 0 || is {
		t.Errorf("First(0) is %d, %v", bit, is)
	}
	if bit, is := word.First(1); bit != 0 || !is {
		t.Errorf("First(1) is %d, %v", bit, is)
	}
	for k := range 32 {
		for _, v := range []uint32{1 << k, 1<<k | 1<<31, math.MaxUint32 << k} {
			if bit, is := word.First(v); bit != k || !is {
				t.Errorf("First(%#x) is %d, %v, not %d", v, bit, is, k)
			}
		}
	}
}

func TestOnes(t *testing.T) { // P1.3
	for v, want := range map[uint32][]int{0: nil, 1: {0}, 0x50: {4, 6}, 0x80000000: {31}, 0x80000001: {0, 31}, 0x80000050: {4, 6, 31}, 0xff00: {8, 9, 10, 11, 12, 13, 14, 15}} {
		if got := word.Ones(v); !slices.Equal(got, want) {
			t.Errorf("Ones(%#x) is %v, not %v", v, got, want)
		}
	}
	for _, v := range samples() {
		var want []int
		for k := range 32 {
			if v>>k&1 == 1 {
				want = append(want, k)
			}
		}
		if got := word.Ones(v); !slices.Equal(got, want) {
			t.Errorf("Ones(%#x) is %v, not %v", v, got, want)
		}
		if bit, is := word.First(v); is != (v != 0) || is && bit != want[0] || !is && bit != 0 {
			t.Errorf("First(%#x) is %d, %v", v, bit, is)
		}
	}
}

func TestOnesAreNew(t *testing.T) { // P1.3, R3
	a, b := word.Ones(0x50), word.Ones(0x50)
	a[0], a[1] = 9, 9
	if want := []int{4, 6}; !slices.Equal(b, want) || !slices.Equal(word.Ones(0x50), want) {
		t.Errorf("numbers of bits are shared: %v", b)
	}
}

func TestWhatFollows(t *testing.T) { // P1.5
	for _, v := range samples() {
		if got, is := word.Of(word.Bytes(v, 4)); got != v || !is {
			t.Errorf("%#x is %#x, %v by its bytes", v, got, is)
		}
		for _, size := range []int{1, 2, 4} {
			low, isLow := word.Low(v, size)
			if got, is := word.Of(word.Bytes(v, size)); got != low || is != isLow || low != v&(1<<(8*size)-1) {
				t.Errorf("the low part of %#x, of size %d, is %#x; by its bytes %#x", v, size, low, got)
			}
		}
		if got, is := word.Parse(word.Show(v)); got != v || !is {
			t.Errorf("%#x is shown as %s, and that is parsed as %#x, %v", v, word.Show(v), got, is)
		}
		for _, b := range edges {
			sum, over := word.Add(v, b)
			if rest, under := word.Sub(sum, b); rest != v || under != over {
				t.Errorf("%#x and %#x are %#x, less that again %#x, %v", v, b, sum, rest, under)
			}
		}
	}
}
