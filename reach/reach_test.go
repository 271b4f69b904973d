package reach_test

import (
	"math"
	"slices"
	"testing"

	"septum/api"
	"septum/reach"
)

const last = math.MaxUint32

// points are addresses near which something ends: the first ones, the halves, the last ones; rising.
var points = []uint32{0, 1, 2, 3, 0x7fffffff, 0x80000000, last - 2, last - 1, last}

// sizes are numbers of addresses: none, some and all of them, and such as are another number when they are cut to fewer bits.
var sizes = []int{math.MinInt, -1 << 32, 1 - 1<<32, -last, -2, -1, 0, 1, 2, 3, 4, 1 << 31, 1<<31 + 1, last - 2, last - 1, last, 1 << 32, 1<<32 + 1, 1<<32 + 2, 1 << 33, math.MaxInt - 1, math.MaxInt}

func from(a, b uint32) api.Reach { return api.Reach{From: a, To: b} }

// all are the reaches whose ends are points, right or not.
func all() []api.Reach {
	var l []api.Reach
	for _, a := range points {
		for _, b := range points {
			l = append(l, from(a, b))
		}
	}
	return l
}

// in are the points that are in a reach, a bit each. Where the ends are points, they tell of two what all addresses do.
func in(r api.Reach) uint {
	bits := uint(0)
	for i, p := range points {
		if p >= r.From && p <= r.To {
			bits |= 1 << i
		}
	}
	return bits
}

func TestRight(t *testing.T) { // P2.1
	for _, c := range []struct {
		r    api.Reach
		want bool
	}{
		{from(0, 0), true}, {from(0, 1), true}, {from(1, 0), false}, {from(9, 9), true}, {from(10, 9), false}, {from(0, last), true},
		{from(last, last), true}, {from(last, 0), false}, {from(last, last-1), false}, {from(last-1, last), true},
		{from(0x7fffffff, 0x80000000), true}, {from(0x80000000, 0x7fffffff), false},
	} {
		if got := reach.Right(c.r); got != c.want {
			t.Errorf("Right(%v) is %v", c.r, got)
		}
	}
}

func TestOf(t *testing.T) { // P2.1
	for _, c := range []struct {
		addr uint32
		size int
		want api.Reach
	}{
		{16, 4, from(16, 19)}, {0, 1, from(0, 0)}, {7, 1, from(7, 7)}, {0, 32, from(0, 31)}, {0x7ffffffe, 4, from(0x7ffffffe, 0x80000001)},
		{last, 1, from(last, last)}, {last - 1, 2, from(last-1, last)}, {last - 1, 1, from(last-1, last-1)}, {last - 3, 4, from(last-3, last)},
		{0, last, from(0, last-1)}, {1, last, from(1, last)}, {0, 1 << 32, from(0, last)}, {0x80000000, 1 << 31, from(0x80000000, last)},
	} {
		if got, is := reach.Of(c.addr, c.size); got != c.want || !is {
			t.Errorf("Of(%#x, %d) is %v, %v, not %v", c.addr, c.size, got, is, c.want)
		}
	}
}

func TestOfNone(t *testing.T) { // P2.1
	for _, c := range []struct {
		addr uint32
		size int
	}{
		{16, 0}, {16, -1}, {0, 0}, {0, -1}, {0, math.MinInt}, {last, 0}, {last, math.MinInt}, {last, -4},
		{last, 2}, {last, 4}, {last - 2, 4}, {last - 1, 3}, {1, 1 << 32}, {0, 1<<32 + 1}, {0, 1<<32 + 4}, {0, math.MaxInt}, {last, math.MaxInt},
		{2, last}, {0x80000000, 1<<31 + 1}, {16, 1<<32 + 4}, {16, 1 << 62}, {16, 4 - 1<<32},
	} {
		if got, is := reach.Of(c.addr, c.size); got != (api.Reach{}) || is {
			t.Errorf("Of(%#x, %d) is %v, %v", c.addr, c.size, got, is)
		}
	}
}

func TestOfEach(t *testing.T) { // P2.1: what is of a size has it
	for _, addr := range points {
		for _, size := range sizes {
			room := 1<<32 - int(addr)
			got, is := reach.Of(addr, size)
			if want := size >= 1 && size <= room; is != want {
				t.Errorf("Of(%#x, %d) is %v, %v", addr, size, got, is)
			}
			if is && (got.From != addr || reach.Size(got) != size) || !is && got != (api.Reach{}) {
				t.Errorf("Of(%#x, %d) is %v", addr, size, got)
			}
		}
	}
}

func TestSize(t *testing.T) { // P2.1
	for r, want := range map[api.Reach]int{
		from(0, 0): 1, from(16, 19): 4, from(0, 9): 10, from(9, 0): 0, from(1, 0): 0, from(last, 0): 0, from(last, last-1): 0,
		from(last, last): 1, from(last-1, last): 2, from(0, last): 1 << 32, from(1, last): last, from(0, last-1): last,
		from(0x7fffffff, 0x80000000): 2, from(0x80000000, 0x7fffffff): 0, from(0, 0x7fffffff): 1 << 31, from(0x80000000, last): 1 << 31,
	} {
		if got := reach.Size(r); got != want {
			t.Errorf("Size(%v) is %d, not %d", r, got, want)
		}
	}
}

func TestHas(t *testing.T) { // P2.1
	for _, c := range []struct {
		r    api.Reach
		addr uint32
		want bool
	}{
		{from(16, 19), 15, false}, {from(16, 19), 16, true}, {from(16, 19), 18, true}, {from(16, 19), 19, true}, {from(16, 19), 20, false},
		{from(16, 16), 16, true}, {from(16, 16), 15, false}, {from(16, 16), 17, false}, {from(16, 19), 0, false}, {from(16, 19), last, false},
		{from(19, 16), 15, false}, {from(19, 16), 16, false}, {from(19, 16), 17, false}, {from(19, 16), 19, false}, {from(19, 16), 20, false},
		{from(0, last), 0, true}, {from(0, last), last, true}, {from(0, last), 0x80000000, true}, {from(last, last), last, true}, {from(last, last), 0, false},
		{from(last, 0), 0, false}, {from(last, 0), last, false}, {from(last, 0), 1, false},
	} {
		if got := reach.Has(c.r, c.addr); got != c.want {
			t.Errorf("Has(%v, %#x) is %v", c.r, c.addr, got)
		}
	}
}

func TestOfOneAll(t *testing.T) { // P2.1
	for _, r := range all() {
		if got, want := reach.Right(r), in(r) != 0; got != want {
			t.Errorf("Right(%v) is %v", r, got)
		}
		if got, want := reach.Size(r), max(0, int(r.To)-int(r.From)+1); got != want {
			t.Errorf("Size(%v) is %d, not %d", r, got, want)
		}
		for i, p := range points {
			if got, want := reach.Has(r, p), in(r)>>i&1 == 1; got != want {
				t.Errorf("Has(%v, %#x) is %v", r, p, got)
			}
		}
	}
}

func TestIn(t *testing.T) { // P2.2
	for _, c := range []struct {
		r, in api.Reach
		want  bool
	}{
		{from(3, 5), from(3, 5), true}, {from(3, 5), from(2, 5), true}, {from(3, 5), from(3, 6), true}, {from(3, 5), from(0, last), true},
		{from(2, 5), from(3, 5), false}, {from(3, 6), from(3, 5), false}, {from(2, 6), from(3, 5), false}, {from(4, 4), from(3, 5), true},
		{from(0, 2), from(3, 5), false}, {from(6, 9), from(3, 5), false}, {from(3, 3), from(3, 3), true}, {from(0, last), from(0, last), true},
		{from(0, last), from(1, last), false}, {from(0, last), from(0, last-1), false}, {from(last, last), from(0, last), true}, {from(0, 0), from(0, last), true},
		{from(5, 3), from(0, 9), false}, {from(5, 3), from(5, 3), false}, {from(3, 5), from(9, 0), false}, {from(4, 4), from(5, 3), false},
		{from(last, 0), from(last, 0), false}, {from(last, 0), from(0, last), false}, {from(0, 0), from(last, 0), false},
	} {
		if got := reach.In(c.r, c.in); got != c.want {
			t.Errorf("In(%v, %v) is %v", c.r, c.in, got)
		}
	}
}

func TestMeet(t *testing.T) { // P2.2
	for _, c := range []struct{ a, b, want api.Reach }{
		{from(0, 9), from(9, 12), from(9, 9)}, {from(0, 9), from(3, 5), from(3, 5)}, {from(0, 9), from(5, 12), from(5, 9)},
		{from(0, 9), from(0, 9), from(0, 9)}, {from(4, 4), from(4, 4), from(4, 4)}, {from(0, 0), from(0, last), from(0, 0)},
		{from(0, last), from(0, last), from(0, last)}, {from(last, last), from(0, last), from(last, last)}, {from(0, 0x80000000), from(0x80000000, last), from(0x80000000, 0x80000000)},
	} {
		for _, two := range [][2]api.Reach{{c.a, c.b}, {c.b, c.a}} {
			if got, is := reach.Meet(two[0], two[1]); got != c.want || !is {
				t.Errorf("Meet(%v, %v) is %v, %v, not %v", two[0], two[1], got, is, c.want)
			}
		}
	}
}

func TestMeetNone(t *testing.T) { // P2.2
	for _, c := range [][2]api.Reach{
		{from(0, 9), from(10, 12)}, {from(0, 0), from(1, 1)}, {from(0, 9), from(11, 12)}, {from(0, 0x7fffffff), from(0x80000000, last)},
		{from(0, last-1), from(last, last)}, {from(0, 0), from(1, last)}, {from(0, 0), from(last, last)},
		{from(5, 3), from(0, 9)}, {from(5, 3), from(4, 4)}, {from(5, 3), from(5, 5)}, {from(5, 3), from(5, 3)}, {from(9, 0), from(0, 9)}, {from(last, 0), from(0, last)},
	} {
		for _, two := range [][2]api.Reach{{c[0], c[1]}, {c[1], c[0]}} {
			if got, is := reach.Meet(two[0], two[1]); got != (api.Reach{}) || is {
				t.Errorf("Meet(%v, %v) is %v, %v", two[0], two[1], got, is)
			}
		}
	}
}

func TestOfTwoAll(t *testing.T) { // P2.2
	for _, a := range all() {
		for _, b := range all() {
			both := in(a) & in(b)
			if got, want := reach.In(a, b), in(a) != 0 && both == in(a); got != want {
				t.Errorf("In(%v, %v) is %v", a, b, got)
			}
			got, is := reach.Meet(a, b)
			if is != (both != 0) || is && in(got) != both || !is && got != (api.Reach{}) {
				t.Errorf("Meet(%v, %v) is %v, %v", a, b, got, is)
			}
			if got, want := reach.Apart(a, b), in(a) != 0 && in(b) != 0 && both == 0; got != want {
				t.Errorf("Apart(%v, %v) is %v", a, b, got)
			}
		}
	}
}

func TestApart(t *testing.T) { // P2.2
	for _, c := range []struct {
		l    []api.Reach
		want bool
	}{
		{nil, true}, {[]api.Reach{}, true}, {[]api.Reach{from(0, 0)}, true}, {[]api.Reach{from(0, last)}, true},
		{[]api.Reach{from(1, 0)}, false}, {[]api.Reach{from(last, 0)}, false},
		{[]api.Reach{from(0, 9), from(10, 12)}, true}, {[]api.Reach{from(10, 12), from(0, 9)}, true}, {[]api.Reach{from(0, 9), from(9, 12)}, false}, {[]api.Reach{from(9, 12), from(0, 9)}, false},
		{[]api.Reach{from(4, 4), from(4, 4)}, false}, {[]api.Reach{from(0, 0), from(last, last)}, true}, {[]api.Reach{from(0, last-1), from(last, last)}, true},
		{[]api.Reach{from(0, 9), from(20, 29), from(10, 19)}, true}, {[]api.Reach{from(0, 9), from(20, 29), from(9, 19)}, false}, {[]api.Reach{from(0, 9), from(20, 29), from(10, 20)}, false},
		{[]api.Reach{from(0, 99), from(10, 19), from(30, 39)}, false}, {[]api.Reach{from(30, 39), from(10, 19), from(0, 99)}, false}, {[]api.Reach{from(50, 50), from(0, 9), from(20, 29), from(0, last)}, false},
		{[]api.Reach{from(0, 9), from(20, 29), from(19, 10)}, false}, {[]api.Reach{from(19, 10), from(20, 29)}, false}, {[]api.Reach{from(0, 9), from(29, 20)}, false}, {[]api.Reach{from(5, 3), from(5, 3)}, false},
	} {
		was := slices.Clone(c.l)
		if got := reach.Apart(c.l...); got != c.want {
			t.Errorf("Apart(%v) is %v", was, got)
		}
		if !slices.Equal(c.l, was) { // R3
			t.Errorf("Apart(%v) changed it to %v", was, c.l)
		}
	}
}

func TestApartThree(t *testing.T) { // P2.2: all rows of three, in each order
	row := all()
	for _, a := range row {
		for _, b := range row {
			for _, c := range row {
				x, y, z := in(a), in(b), in(c)
				want := x != 0 && y != 0 && z != 0 && x&y == 0 && y&z == 0 && x&z == 0
				if got := reach.Apart(a, b, c); got != want {
					t.Fatalf("Apart(%v, %v, %v) is %v", a, b, c, got)
				}
			}
		}
	}
}

func TestApartMany(t *testing.T) { // P2.2
	const n = 1 << 16
	row := make([]api.Reach, n)
	for i := range row { // neither rising nor falling, each address in one
		at := uint32(i*40503%n) << 16
		row[i] = from(at, at+0xffff)
	}
	if !reach.Apart(row...) {
		t.Fatal("they are apart")
	}
	for _, i := range []int{0, 1, n / 2, n - 2, n - 1} {
		was := row[i]
		for _, r := range []api.Reach{from(was.To, was.From), row[(i+n/3)%n], from(0, last)} {
			row[i] = r
			if reach.Apart(row...) {
				t.Errorf("they are not apart: %v is in the place %d", r, i)
			}
		}
		row[i] = was
	}
	if !reach.Apart(row...) {
		t.Error("they are apart again")
	}
}

func TestLess(t *testing.T) { // P2.3
	for _, c := range []struct {
		a, b api.Reach
		want bool
	}{
		{from(0, 9), from(1, 2), true}, {from(1, 2), from(0, 9), false}, {from(1, 2), from(1, 3), true}, {from(1, 3), from(1, 2), false}, {from(1, 2), from(1, 2), false},
		{from(0, 0), from(0, last), true}, {from(0, last), from(last, last), true}, {from(last, last), from(0, last), false}, {from(0x7fffffff, 0), from(0x80000000, 0), true}, {from(0x80000000, 0), from(0x7fffffff, last), false},
		{from(5, 3), from(5, 4), true}, {from(5, 4), from(5, 3), false}, {from(5, 3), from(6, 0), true}, {from(6, 0), from(5, 9), false}, {from(5, 3), from(5, 3), false},
		{from(0, 0x7fffffff), from(0, 0x80000000), true}, {from(0, 0x80000000), from(0, 0x7fffffff), false},
	} {
		if got := reach.Less(c.a, c.b); got != c.want {
			t.Errorf("Less(%v, %v) is %v", c.a, c.b, got)
		}
	}
}

func TestLessAll(t *testing.T) { // P2.3: the reaches of all stand in this order, and those that are not right have their place
	row := all()
	for i, a := range row {
		for k, b := range row {
			if got := reach.Less(a, b); got != (i < k) {
				t.Errorf("Less(%v, %v) is %v", a, b, got)
			}
		}
	}
}

func TestWhatFollows(t *testing.T) { // P2.4
	row := all()
	for _, a := range row {
		for _, b := range row {
			meet, is := reach.Meet(a, b)
			if want := max(a.From, b.From) <= min(a.To, b.To); is != want {
				t.Errorf("Meet(%v, %v) is %v, %v", a, b, meet, is)
			}
			if is && !(reach.In(meet, a) && reach.In(meet, b)) {
				t.Errorf("%v does not lie in %v and %v", meet, a, b)
			}
			if !reach.Apart(a, b) {
				continue
			}
			for _, c := range row {
				if _, meets := reach.Meet(c, b); meets && reach.In(c, a) {
					t.Errorf("%v lies in %v, and meets %v", c, a, b)
				}
			}
		}
	}
}
