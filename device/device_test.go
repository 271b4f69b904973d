package device_test

import (
	"math"
	"slices"
	"testing"

	"septum/api"
	"septum/device"
	"septum/window"
)

func TestExample(t *testing.T) { // the chapter's example 1
	d, err := device.New(api.Device{Kind: api.Timer, Size: 32, Owner: -1, Line: -1})
	if err != api.OK || !d.Write(4, 4, 2) || !d.Write(8, 4, 7) {
		t.Fatal(d, err)
	}
	for range 2 {
		if b, is := d.Tick(); b != 0 || is {
			t.Errorf("Tick() is %d, %v", b, is)
		}
	}
	if v, is := d.Read(12, 4); v != 1 || !is || !d.Line() {
		t.Errorf("Read(12, 4) is %d, %v, Line() is %v", v, is, d.Line())
	}
	if v, is := d.Read(12, 2); v != 0 || is {
		t.Errorf("Read(12, 2) is %d, %v", v, is)
	}
	if l := d.Look(); !slices.Equal(l, []uint32{0, 2, 7, 1}) || d.Fresh() {
		t.Errorf("Look() is %v", l)
	}
	d.Reset()
	if !d.Fresh() {
		t.Errorf("Look() is %v behind Reset()", d.Look())
	}
}

func TestNew(t *testing.T) { // P15.1: a fresh device of each Kind, a new one each time; a Ram of its Size
	for _, k := range kinds {
		d, m := fresh(t, k, 64)
		check(t, d, m)
		if other, _ := fresh(t, k, 64); other == d {
			t.Errorf("New of Kind %d is one device twice", k)
		}
	}
	for bytes := 4; bytes <= 4096; bytes += 4 {
		d, err := device.New(right(api.Ram, bytes))
		if err != api.OK || len(d.Look()) != bytes/4 || !d.Fresh() || d.Write(bytes, 1, 1) || !d.Write(bytes-1, 1, 1) {
			t.Fatalf("New of a Ram of %d bytes is %x, %d", bytes, d.Look(), err)
		}
	}
}

// checkNew holds New against whether a device is right.
func checkNew(t *testing.T, of api.Device) {
	t.Helper()
	d, err := device.New(of)
	if window.Device(of) {
		if d == nil || err != api.OK || d.Kind() != of.Kind || !d.Fresh() {
			t.Errorf("New(%+v) is %p, %d", of, d, err)
		}
		return
	}
	if d != nil || err != api.ErrArg {
		t.Errorf("New(%+v) is %p, %d", of, d, err)
	}
}

func TestNewOfNotRight(t *testing.T) { // P15.1: each of its parts at the edges, right and not
	for _, k := range kinds {
		d := right(k, 32)
		for size := -9; size <= 5000; size++ {
			d.Size = size
			checkNew(t, d)
		}
		for _, size := range []int{math.MinInt, 4 - 1<<32, 32 - 1<<32, 1<<16 + 32, 1 << 32, 1<<32 + 4, 1<<32 + 32, math.MaxInt - 3, math.MaxInt} {
			d.Size = size
			checkNew(t, d)
		}
		for n := -9; n <= 20; n++ {
			d = right(k, 32)
			d.Base = uint32(0xfffffff0 + n)
			checkNew(t, d)
			d.Base = uint32(0xffffffe0 + n)
			checkNew(t, d)
			d = right(k, 32)
			d.Owner = n
			checkNew(t, d)
			d = right(k, 32)
			d.Line = n
			checkNew(t, d)
		}
	}
	for _, k := range noKinds {
		checkNew(t, api.Device{Kind: k, Size: 32})
		checkNew(t, api.Device{Kind: k})
	}
}

func TestNewOfNotRightByName(t *testing.T) { // P15.1: none, and ErrArg
	for _, d := range []api.Device{
		{},
		{Kind: 7, Size: 32},
		{Kind: api.Ram}, {Kind: api.Ram, Size: 6}, {Kind: api.Ram, Size: 4100}, {Kind: api.Ram, Size: -4},
		{Kind: api.Timer}, {Kind: api.Timer, Size: 4}, {Kind: api.Uart, Size: 28}, {Kind: api.Mail, Size: 36}, {Kind: api.Rotor, Size: 64}, {Kind: api.Dma, Size: 4096},
		{Kind: api.Ram, Size: 8, Base: 2}, {Kind: api.Timer, Size: 32, Base: 1}, {Kind: api.Dma, Size: 32, Base: top - 3}, {Kind: api.Ram, Size: 8, Base: top - 3},
		{Kind: api.Ram, Size: 8, Owner: -2}, {Kind: api.Ram, Size: 8, Owner: 8}, {Kind: api.Uart, Size: 32, Line: -2}, {Kind: api.Uart, Size: 32, Line: 8},
	} {
		if got, err := device.New(d); got != nil || err != api.ErrArg {
			t.Errorf("New(%+v) is %p, %d", d, got, err)
		}
	}
	if got, err := device.New(api.Device{Kind: api.Ram, Size: 4, Base: top - 3, Owner: 7, Line: 7}); got == nil || err != api.OK {
		t.Errorf("New of the last word is %p, %d", got, err)
	}
}

func TestTime(t *testing.T) { // P15.1: of each Kind, and of one that is none
	want := map[api.Kind]int{1: 16, 2: 2, 3: 4, 4: 3, 5: 2, 6: 5}
	for k := api.Kind(-300); k <= 300; k++ {
		if n := device.Time(k); n != want[k] {
			t.Errorf("Time(%d) is %d", k, n)
		}
	}
	for _, k := range noKinds {
		if n := device.Time(k); n != 0 {
			t.Errorf("Time(%d) is %d", k, n)
		}
	}
}

func TestKindStays(t *testing.T) { // P15.1: whatever was done
	for _, k := range kinds {
		d, m := used(t, k)
		check(t, d, m)
		d.Reset()
		if got := d.Kind(); got != k || d.Copy().Kind() != k {
			t.Errorf("Kind() is %d, not %d", got, k)
		}
	}
}

func TestRegisters(t *testing.T) { // P15.2: each of them, of each Kind, fresh and used, with each value
	for _, k := range kinds {
		for off := 0; off < 32; off += 4 {
			for _, v := range values {
				d, m := fresh(t, k, 32)
				write(t, d, m, off, 4, v)
				check(t, d, m)
				d, m = used(t, k)
				write(t, d, m, off, 4, v)
				check(t, d, m)
				read(t, d, m, off, 4)
				check(t, d, m)
			}
		}
	}
}

func TestRegisterNumbers(t *testing.T) { // P15.2: of a few of them, what is read behind what was written
	for _, c := range []struct {
		kind  api.Kind
		wrote [][2]uint32
		reads [8]uint32
	}{
		{api.Timer, [][2]uint32{{0, 5}, {4, 6}, {8, 0xff}, {12, 3}, {16, 1}, {28, 1}}, [8]uint32{5, 6, 7}},
		{api.Uart, [][2]uint32{{0, 0x141}, {4, 9}, {8, 3}, {16, 1}, {28, 1}}, [8]uint32{0, 256, 1}},
		{api.Mail, [][2]uint32{{0, 5}, {0, 6}, {4, 9}, {8, 3}, {16, 1}, {28, 1}}, [8]uint32{5, 1, 1}}, // of 4 behind a read of 0
		{api.Rotor, [][2]uint32{{0, 0x00020003}, {4, 1}, {8, 2}, {12, 2}, {16, 9}, {28, 9}}, [8]uint32{0xfffcfff8, 0, 0, 0, 3}},
		{api.Dma, [][2]uint32{{0, 5}, {4, 6}, {8, 7}, {12, 0x101}, {16, 1}, {0, 9}, {28, 1}}, [8]uint32{5, 6, 7, 257}},
		{api.Ram, [][2]uint32{{0, 5}, {4, 6}, {8, 7}, {12, 8}, {16, 9}, {28, top}}, [8]uint32{5, 6, 7, 8, 9, 0, 0, top}},
	} {
		d, _ := fresh(t, c.kind, 32)
		for _, w := range c.wrote {
			if !d.Write(int(w[0]), 4, w[1]) {
				t.Errorf("of Kind %d Write(%d) is not done", c.kind, w[0])
			}
		}
		for n, want := range c.reads {
			if v, is := d.Read(4*n, 4); v != want || !is {
				t.Errorf("of Kind %d Read(%d, 4) is %#x, %v, not %#x", c.kind, 4*n, v, is, want)
			}
		}
	}
}

func TestWhatFits(t *testing.T) { // P15.2, P15.5: each offset near, and far beyond, with each size, both ways; what does not fit changes nothing
	for _, k := range kinds {
		for _, bytes := range []int{4, 32, 4096} {
			d, m := fresh(t, k, bytes)
			for _, size := range slices.Concat([]int{1, 2, 4}, noSizes) {
				for _, off := range offsets(bytes) {
					if m.fits(off, size) {
						continue
					}
					if d.Write(off, size, 0x01010101) {
						t.Fatalf("of Kind %d Write(%d, %d) is done", k, off, size)
					}
					if v, is := d.Read(off, size); v != 0 || is {
						t.Fatalf("of Kind %d Read(%d, %d) is %#x, %v", k, off, size, v, is)
					}
				}
			}
			check(t, d, m)
		}
		d, m := used(t, k)
		checkReads(t, d, m, noSizes)
		for _, off := range offsets(40) {
			for _, size := range slices.Concat([]int{1, 2, 4}, noSizes) {
				if !m.fits(off, size) {
					write(t, d, m, off, size, top)
				}
			}
		}
		check(t, d, m)
	}
}

func TestWhereItIsRegisters(t *testing.T) { // P15.2: each offset from -1 to 33, each size from -1 to 9
	for _, k := range kinds[1:] {
		for off := -1; off <= 33; off++ {
			for size := -1; size <= 9; size++ {
				d, _ := fresh(t, k, 0)
				fits := size == 4 && off >= 0 && off < 32 && off%4 == 0
				if is := d.Write(off, size, 1); is != fits {
					t.Errorf("of Kind %d Write(%d, %d) is %v", k, off, size, is)
				}
				if !fits && !d.Fresh() {
					t.Errorf("of Kind %d Write(%d, %d) did something", k, off, size)
				}
				if _, is := d.Read(off, size); is != fits {
					t.Errorf("of Kind %d Read(%d, %d) is %v", k, off, size, is)
				}
			}
		}
	}
}

func TestRamByAllSizes(t *testing.T) { // P15.2: by bytes, halves and words, at its ends and beyond them
	for _, bytes := range []int{4, 8, 40, 4092, 4096} {
		for _, size := range []int{1, 2, 4} {
			d, m := fresh(t, api.Ram, bytes)
			for _, off := range offsets(bytes) {
				write(t, d, m, off, size, 0x89abcdef+uint32(off)*0x01010101)
			}
			check(t, d, m)
		}
	}
	d, _ := fresh(t, api.Ram, 8)
	d.Write(2, 2, 0x1234)
	d.Write(7, 1, 0x1ff)
	if v, is := d.Read(0, 4); v != 0x12340000 || !is || !slices.Equal(d.Look(), []uint32{0x12340000, 0xff000000}) {
		t.Errorf("Read(0, 4) is %#x, %v, Look() %x", v, is, d.Look())
	}
}

func TestWhatAReadTakes(t *testing.T) { // P15.5: at the register 0 of a Uart and of a Mail alone
	for _, k := range kinds {
		d, m := used(t, k)
		for off := 0; off < 32; off += 4 {
			for range 10 {
				was := d.Look()
				read(t, d, m, off, 4)
				if same := slices.Equal(was, d.Look()); !same && !m.takes(off, 4) {
					t.Fatalf("of Kind %d Read(%d, 4) changed %x to %x", k, off, was, d.Look())
				}
				check(t, d, m)
			}
		}
	}
	d, _ := fresh(t, api.Uart, 0)
	d.Input(65)
	e, _ := fresh(t, api.Mail, 0)
	e.Write(0, 4, 66)
	for _, c := range []struct {
		read func(off, size int) (uint32, bool)
		want uint32
	}{{d.Read, 321}, {d.Read, 0}, {e.Read, 66}, {e.Read, 0}} {
		if v, is := c.read(0, 2); v != 0 || is {
			t.Errorf("Read(0, 2) is %d, %v", v, is)
		}
		if v, is := c.read(0, 4); v != c.want || !is {
			t.Errorf("Read(0, 4) is %d, %v, not %d", v, is, c.want)
		}
	}
}
