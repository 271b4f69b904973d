package lane_test

import (
	"encoding/binary"
	"math"
	"slices"
	"testing"

	"septum/lane"
)

const last = math.MaxUint32

var sizes = []int{1, 2, 4}

// noSizes are numbers that are no size, some of which are one when they are cut to fewer bits.
var noSizes = []int{math.MinInt, -1 << 32, 1 - 1<<32, -8, -4, -3, -2, -1, 0, 3, 5, 6, 7, 8, 16, 32, 0x101, 0x102, 0x104, 0x10001, 1 << 31, 1 << 32, 1<<32 + 1, 1<<32 + 2, 1<<32 + 4, math.MaxInt - 3, math.MaxInt}

// words have other bytes in each lane, or the same in all, or such as show where a sign or a lane is lost.
var words = []uint32{0, 1, 0x80, 0xff, 0x100, 0xff00, 0xffff, 0x10000, 0xff0000, 0xffff00, 0xff000000, 0xffff0000, 0x80000000, 0x7fffffff, 0x01234567, 0x89abcdef, 0x12345678, 0xdeadbeef, 0x80808080, 0x7f7f7f7f, 0xaaaaaaaa, 0x55555555, last - 1, last}

// addrs are the first addresses, those around a byte, the halves, and the last ones.
func addrs() []uint32 {
	var all []uint32
	for _, from := range []uint32{0, 0xf8, 0xfff8, 0x7ffffff8, last - 15} {
		for i := range uint32(16) {
			all = append(all, from+i)
		}
	}
	return all
}

// lanes are those of an aligned place, told address by address; false of what is none.
func lanes(addr uint32, size int) ([]int, bool) {
	if !slices.Contains(sizes, size) || uint64(addr)%uint64(size) != 0 {
		return nil, false
	}
	var all []int
	for i := range size {
		all = append(all, int(addr%4)+i)
	}
	return all, true
}

// bytesOf are a word's bytes, the lowest first.
func bytesOf(v uint32) []byte { return binary.LittleEndian.AppendUint32(nil, v) }

// meantTake is what P3.2 says of Take, told byte by byte.
func meantTake(v, addr uint32, size int) (uint32, bool) {
	at, is := lanes(addr, size)
	low := make([]byte, 4)
	for i, l := range at {
		low[i] = bytesOf(v)[l]
	}
	return binary.LittleEndian.Uint32(low), is
}

// meantPut is what P3.2 says of Put, told byte by byte.
func meantPut(v, addr uint32, size int, data uint32) (uint32, bool) {
	at, is := lanes(addr, size)
	if !is {
		return 0, false
	}
	all := bytesOf(v)
	for i, l := range at {
		all[l] = bytesOf(data)[i]
	}
	return binary.LittleEndian.Uint32(all), true
}

func TestAligned(t *testing.T) { // P3.1
	for _, c := range []struct {
		addr uint32
		size int
		want bool
	}{
		{0, 1, true}, {0, 2, true}, {0, 4, true}, {1, 1, true}, {1, 2, false}, {1, 4, false}, {2, 1, true}, {2, 2, true}, {2, 4, false}, {3, 1, true}, {3, 2, false}, {3, 4, false},
		{4, 4, true}, {6, 2, true}, {6, 4, false}, {7, 1, true}, {12, 4, true}, {14, 4, false}, {0x7fffffff, 1, true}, {0x7fffffff, 2, false}, {0x80000000, 4, true},
		{last, 1, true}, {last, 2, false}, {last, 4, false}, {last - 1, 1, true}, {last - 1, 2, true}, {last - 1, 4, false}, {last - 2, 2, false}, {last - 2, 4, false}, {last - 3, 2, true}, {last - 3, 4, true},
		{0, 0, false}, {0, -1, false}, {0, -2, false}, {0, -4, false}, {0, 3, false}, {3, 3, false}, {8, 8, false}, {0, 8, false}, {16, 16, false}, {4, -4, false}, {0, math.MinInt, false}, {0, math.MaxInt, false}, {0, 1<<32 + 1, false},
	} {
		if got := lane.Aligned(c.addr, c.size); got != c.want {
			t.Errorf("Aligned(%#x, %d) is %v", c.addr, c.size, got)
		}
	}
}

func TestMask(t *testing.T) { // P3.1
	for _, c := range []struct {
		addr uint32
		size int
		want uint32
	}{
		{0, 1, 1}, {1, 1, 2}, {2, 1, 4}, {3, 1, 8}, {0, 2, 3}, {2, 2, 12}, {0, 4, 15},
		{4, 1, 1}, {5, 1, 2}, {6, 1, 4}, {7, 1, 8}, {4, 2, 3}, {6, 2, 12}, {4, 4, 15},
		{last, 1, 8}, {last - 1, 1, 4}, {last - 1, 2, 12}, {last - 2, 1, 2}, {last - 3, 1, 1}, {last - 3, 2, 3}, {last - 3, 4, 15}, {0x80000000, 4, 15}, {0x7fffffff, 1, 8},
	} {
		if got, is := lane.Mask(c.addr, c.size); got != c.want || !is {
			t.Errorf("Mask(%#x, %d) is %d, %v, not %d", c.addr, c.size, got, is, c.want)
		}
	}
}

func TestPlaces(t *testing.T) { // P3.1: each lane of each place, and of all that is none
	for _, addr := range addrs() {
		for _, size := range slices.Concat(sizes, noSizes) {
			at, want := lanes(addr, size)
			mask := uint32(0)
			for _, l := range at {
				mask |= 1 << l
			}
			if is := lane.Aligned(addr, size); is != want {
				t.Errorf("Aligned(%#x, %d) is %v", addr, size, is)
			}
			if got, is := lane.Mask(addr, size); got != mask || is != want {
				t.Errorf("Mask(%#x, %d) is %d, %v, not %d, %v", addr, size, got, is, mask, want)
			}
		}
	}
}

func TestWide(t *testing.T) { // P3.1: each mask there is, and those with bits above the lanes
	for mask, want := range []uint32{
		0, 0xff, 0xff00, 0xffff, 0xff0000, 0xff00ff, 0xffff00, 0xffffff,
		0xff000000, 0xff0000ff, 0xff00ff00, 0xff00ffff, 0xffff0000, 0xffff00ff, 0xffffff00, 0xffffffff,
	} {
		for _, above := range []uint32{0, 1 << 4, 1 << 5, 1 << 7, 1 << 8, 1 << 12, 1 << 16, 1 << 24, 1 << 28, 1 << 31, 0xf0, 0xfff0, 0x12345670, last &^ 15} {
			if got := lane.Wide(uint32(mask) | above); got != want {
				t.Errorf("Wide(%#x) is %#x, not %#x", uint32(mask)|above, got, want)
			}
		}
	}
}

func TestTake(t *testing.T) { // P3.2
	for _, c := range []struct {
		addr uint32
		size int
		want uint32
	}{
		{0, 1, 0xef}, {1, 1, 0xcd}, {2, 1, 0xab}, {3, 1, 0x89}, {0, 2, 0xcdef}, {2, 2, 0x89ab}, {0, 4, 0x89abcdef},
		{5, 1, 0xcd}, {6, 2, 0x89ab}, {8, 4, 0x89abcdef}, {last, 1, 0x89}, {last - 1, 2, 0x89ab}, {last - 3, 4, 0x89abcdef}, {last - 3, 1, 0xef}, {last - 3, 2, 0xcdef},
	} {
		if got, is := lane.Take(0x89abcdef, c.addr, c.size); got != c.want || !is {
			t.Errorf("Take(0x89abcdef, %#x, %d) is %#x, %v, not %#x", c.addr, c.size, got, is, c.want)
		}
	}
}

func TestPut(t *testing.T) { // P3.2
	for _, c := range []struct {
		addr uint32
		size int
		want uint32
	}{
		{0, 1, 0xaaaaaa67}, {1, 1, 0xaaaa67aa}, {2, 1, 0xaa67aaaa}, {3, 1, 0x67aaaaaa}, {0, 2, 0xaaaa4567}, {2, 2, 0x4567aaaa}, {0, 4, 0x01234567},
		{6, 2, 0x4567aaaa}, {9, 1, 0xaaaa67aa}, {12, 4, 0x01234567}, {last, 1, 0x67aaaaaa}, {last - 1, 2, 0x4567aaaa}, {last - 3, 4, 0x01234567}, {last - 3, 1, 0xaaaaaa67}, {last - 3, 2, 0xaaaa4567},
	} {
		if got, is := lane.Put(0xaaaaaaaa, c.addr, c.size, 0x1234567); got != c.want || !is {
			t.Errorf("Put(0xaaaaaaaa, %#x, %d, 0x1234567) is %#x, %v, not %#x", c.addr, c.size, got, is, c.want)
		}
	}
}

func TestNotAligned(t *testing.T) { // P3.1, P3.2: nothing beside the false
	for _, addr := range addrs() {
		for _, size := range slices.Concat(sizes, noSizes) {
			if _, is := lanes(addr, size); is {
				continue
			}
			if got, is := lane.Mask(addr, size); got != 0 || is {
				t.Errorf("Mask(%#x, %d) is %d, %v", addr, size, got, is)
			}
			if got, is := lane.Take(last, addr, size); got != 0 || is {
				t.Errorf("Take(%#x, %d) is %#x, %v", addr, size, got, is)
			}
			if got, is := lane.Put(last, addr, size, last); got != 0 || is {
				t.Errorf("Put(%#x, %d) is %#x, %v", addr, size, got, is)
			}
		}
	}
}

func TestTakeAndPutOfAll(t *testing.T) { // P3.2: held against what is told byte by byte
	for _, addr := range addrs() {
		for _, size := range slices.Concat(sizes, noSizes) {
			for _, v := range words {
				want, wantIs := meantTake(v, addr, size)
				if got, is := lane.Take(v, addr, size); got != want || is != wantIs {
					t.Errorf("Take(%#x, %#x, %d) is %#x, %v, not %#x, %v", v, addr, size, got, is, want, wantIs)
				}
				for _, data := range words {
					want, wantIs := meantPut(v, addr, size, data)
					if got, is := lane.Put(v, addr, size, data); got != want || is != wantIs {
						t.Errorf("Put(%#x, %#x, %d, %#x) is %#x, %v, not %#x, %v", v, addr, size, data, got, is, want, wantIs)
					}
				}
			}
		}
	}
}

func TestPutIsTaken(t *testing.T) { // P3.3
	for _, addr := range addrs() {
		for _, size := range sizes {
			if !lane.Aligned(addr, size) {
				continue
			}
			for _, v := range words {
				for _, data := range words {
					put, _ := lane.Put(v, addr, size, data)
					low := uint64(data) % (1 << (8 * size))
					if got, is := lane.Take(put, addr, size); uint64(got) != low || !is {
						t.Errorf("%#x was put into %#x at %#x, %d: %#x, %v is taken", data, v, addr, size, got, is)
					}
				}
			}
		}
	}
}

func TestOtherLanesAreNotTouched(t *testing.T) { // P3.3
	type place struct {
		addr uint32
		size int
	}
	all := []place{{0, 1}, {1, 1}, {2, 1}, {3, 1}, {0, 2}, {2, 2}, {0, 4}}
	for _, a := range all {
		for _, b := range all {
			one, _ := lane.Mask(a.addr, a.size)
			other, _ := lane.Mask(b.addr, b.size)
			if one&other != 0 {
				continue
			}
			for _, v := range words {
				was, _ := lane.Take(v, a.addr, a.size)
				put, _ := lane.Put(v, b.addr, b.size, ^v)
				if got, is := lane.Take(put, a.addr, a.size); got != was || !is {
					t.Errorf("put into %#x at %v: at %v was %#x, is %#x", v, b, a, was, got)
				}
			}
		}
	}
}

func TestAllLanes(t *testing.T) { // P3.3: of size 4 all lanes are the place's
	for addr := uint32(0); addr < 64; addr += 4 {
		for _, at := range []uint32{addr, last - 3 - addr} {
			mask, _ := lane.Mask(at, 4)
			if lane.Wide(mask) != last {
				t.Errorf("of %#x not all lanes are the place's: %d", at, mask)
			}
			for _, v := range words {
				if got, is := lane.Take(v, at, 4); got != v || !is {
					t.Errorf("Take(%#x, %#x, 4) is %#x, %v", v, at, got, is)
				}
				if got, is := lane.Put(^v, at, 4, v); got != v || !is {
					t.Errorf("Put(%#x, %#x, 4, %#x) is %#x, %v", ^v, at, v, got, is)
				}
			}
		}
	}
}

func TestExample(t *testing.T) { // the chapter's example 1
	mask, is := lane.Mask(6, 2)
	if mask != 12 || !is || lane.Wide(mask) != 0xffff0000 {
		t.Errorf("Mask(6, 2) is %d, %v, wide %#x", mask, is, lane.Wide(mask))
	}
	if got, is := lane.Put(0xaaaaaaaa, 6, 2, 0x1234567); got != 0x4567aaaa || !is {
		t.Errorf("Put at 6 is %#x, %v", got, is)
	}
	if lane.Aligned(6, 4) {
		t.Error("6 is no aligned place of size 4")
	}
}
