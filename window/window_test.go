package window_test

import (
	"math"
	"math/rand"
	"slices"
	"testing"

	"septum/api"
	"septum/window"
)

const last = math.MaxUint32

// kinds are the six.
var kinds = []api.Kind{api.Ram, api.Timer, api.Uart, api.Mail, api.Rotor, api.Dma}

// noKinds are numbers that are no kind, some of which are one when they are cut to fewer bits.
var noKinds = []api.Kind{math.MinInt, 1 - 1<<32, -1 << 32, -256, -6, -1, 0, 7, 8, 64, 0x100, 0x101, 0x10006, 1 << 31, 1 << 32, 1<<32 + 1, 1<<32 + 6, 1 << 62, math.MaxInt}

// noNumbers are below -1 or above 7: no Owner and no Line; some of them are one when they are cut to fewer bits.
var noNumbers = []int{math.MinInt, 1 - 1<<32, -1 << 32, -256, -8, -3, -2, 8, 9, 16, 0xff, 0x100, 0x101, 0x10001, 1 << 31, 1<<32 - 1, 1 << 32, 1<<32 + 1, 1 << 62, math.MaxInt}

// noRams are no Size of a Ram, noWindows of no other kind.
var (
	noRams    = []int{math.MinInt, math.MinInt + 4, -1 << 32, 4 - 1<<32, -4096, -32, -8, -4, -1, 0, 1, 2, 3, 5, 6, 7, 9, 30, 33, 4093, 4094, 4095, 4097, 4100, 4104, 8192, 1 << 16, 0x10004, 1 << 31, 1 << 32, 1<<32 + 4, 1<<32 + 4096, 1 << 62, math.MaxInt - 3, math.MaxInt}
	noWindows = []int{math.MinInt, 32 - 1<<32, -64, -32, -1, 0, 1, 4, 8, 16, 28, 31, 33, 34, 36, 48, 64, 128, 4096, 0x120, 0x10020, 1 << 31, 1 << 32, 1<<32 + 32, math.MaxInt - 31, math.MaxInt}
)

// ram is one that is nobody's and calls on no line.
func ram(base uint32, size int) api.Device {
	return api.Device{Kind: api.Ram, Base: base, Size: size, Owner: -1, Line: -1}
}

// of is a device of any kind, of 32 bytes.
func of(kind api.Kind, base uint32) api.Device {
	return api.Device{Kind: kind, Base: base, Size: 32, Owner: 1, Line: 2}
}

func with(d api.Device, change func(d *api.Device)) api.Device {
	change(&d)
	return d
}

func read(addr uint32, size int) api.Access {
	return api.Access{World: 1, Addr: addr, Size: size}
}

func write(addr uint32, size int, data uint32) api.Access {
	return api.Access{World: 2, Write: true, Addr: addr, Size: size, Data: data}
}

// some are so many devices of all kinds, side by side from 0x100 on.
func some(many int) []api.Device {
	var l []api.Device
	for n := range many {
		l = append(l, of(kinds[n%6], 0x100+32*uint32(n)))
	}
	return l
}

// nobodys are devices of which but one part is wrong, and, ahead of them, the zero one.
func nobodys() []api.Device {
	good, plain := of(api.Ram, 0x100), of(api.Timer, 0x100)
	l := []api.Device{{}}
	for _, kind := range noKinds {
		l = append(l, of(kind, 0x100))
	}
	for _, size := range noRams {
		l = append(l, ram(0x100, size))
	}
	for _, size := range noWindows {
		for _, kind := range kinds[1:] {
			l = append(l, with(plain, func(d *api.Device) { d.Kind, d.Size = kind, size }))
		}
	}
	for _, base := range []uint32{0xff, 0xfe, 0xfd, 0x101, last, last - 1, last - 2} {
		l = append(l, of(api.Mail, base), ram(base, 4))
	}
	for _, base := range []uint32{last - 27, last - 11, last - 3} {
		l = append(l, of(api.Dma, base), of(api.Ram, base))
	}
	l = append(l, ram(last-3, 8), ram(last-4091, 4096), ram(last-7, 12))
	for _, n := range noNumbers {
		for _, d := range []api.Device{good, plain} {
			l = append(l, with(d, func(d *api.Device) { d.Owner = n }), with(d, func(d *api.Device) { d.Line = n }))
		}
	}
	return l
}

// wrong are rows that are not right, each for one reason; most have a device that is right, and has 0x100.
func wrong() [][]api.Device {
	good, far := of(api.Uart, 0x100), of(api.Timer, 0x8000)
	l := [][]api.Device{
		some(17), some(32), append(some(16), far), append([]api.Device{far}, some(16)...), slices.Repeat([]api.Device{good}, 4096),
		{good, good}, {good, far, good}, slices.Repeat([]api.Device{good}, 16), {good, with(good, func(d *api.Device) { d.Owner, d.Line = 3, 4 })},
		{good, ram(0x11c, 4)}, {good, ram(0x11c, 4096)}, {ram(0xfc, 8), good}, {good, far, ram(0xf0, 20)}, {good, ram(0, 4096)}, {ram(0x104, 4), far, good}, {ram(0x100, 4), ram(0x104, 4), ram(0x104, 4)}, {good, of(api.Dma, last-31), ram(last-3, 4)},
	}
	for _, d := range nobodys() {
		l = append(l, []api.Device{d}, []api.Device{d, good}, []api.Device{good, d}, []api.Device{far, d, good})
	}
	return l
}

// meantDevice is what the chapter says of a device, told another way.
func meantDevice(d api.Device) bool {
	most := map[bool]int64{true: 4096, false: 32}[d.Kind == 1]
	least := map[bool]int64{true: 4, false: 32}[d.Kind == 1]
	size := int64(d.Size)
	parts := []int{-1, 0, 1, 2, 3, 4, 5, 6, 7}
	return d.Kind > 0 && d.Kind < 7 && size >= least && size <= most && size&3 == 0 &&
		d.Base&3 == 0 && int64(d.Base)+size <= 1<<32 && slices.Contains(parts, d.Owner) && slices.Contains(parts, d.Line)
}

// meantIn says whether a device that is right has an address.
func meantIn(d api.Device, addr int64) bool {
	return addr >= int64(d.Base) && addr < int64(d.Base)+int64(d.Size)
}

// meantRight asks of each two: where their windows meet, one of them begins in the other one.
func meantRight(l []api.Device) bool {
	is := len(l) < 17
	for i, d := range l {
		is = is && meantDevice(d)
		for _, e := range l[:i] {
			is = is && !meantIn(d, int64(e.Base)) && !meantIn(e, int64(d.Base))
		}
	}
	return is
}

func meantAt(l []api.Device, addr uint32) (int, bool) {
	for n, d := range l {
		if meantRight(l) && meantIn(d, int64(addr)) {
			return n, true
		}
	}
	return 0, false
}

// meantAsked is what layer 4 says of a right access, told another way.
func meantAsked(a api.Access) bool {
	most := map[int]uint32{1: 0xff, 2: 0xffff, 4: last}
	data, is := most[a.Size]
	if !a.Write {
		data = 0
	}
	return is && a.World > -1 && a.World < 8 && int64(a.Addr)%int64(a.Size) == 0 && a.Data <= data
}

// meantDecode goes through the addresses of an access one by one.
func meantDecode(l []api.Device, a api.Access) (dev, off int, is bool) {
	if !meantAsked(a) || !meantRight(l) {
		return 0, 0, false
	}
	for n, d := range l {
		all := true
		for i := range a.Size {
			all = all && meantIn(d, int64(a.Addr)+int64(i))
		}
		if all {
			return n, int(int64(a.Addr) - int64(d.Base)), true
		}
	}
	return 0, 0, false
}

// checkDevice asks for its window, too.
func checkDevice(t *testing.T, d api.Device, want bool) {
	t.Helper()
	if is := window.Device(d); is != want {
		t.Errorf("Device(%+v) is %v", d, is)
	}
	w := api.Reach{}
	if want {
		w = api.Reach{From: d.Base, To: d.Base + uint32(d.Size) - 1}
	}
	if got, is := window.Reach(d); got != w || is != want {
		t.Errorf("Reach(%+v) is %+v, %v, not %+v, %v", d, got, is, w, want)
	}
}

func checkRight(t *testing.T, l []api.Device, want bool) {
	t.Helper()
	if is := window.Right(l); is != want {
		t.Errorf("Right(%+v) is %v", l, is)
	}
}

func checkDecode(t *testing.T, l []api.Device, a api.Access, dev, off int, is bool) {
	t.Helper()
	if d, o, got := window.Decode(l, a); d != dev || o != off || got != is {
		t.Errorf("Decode(%+v, %+v) is %d, %d, %v, not %d, %d, %v", l, a, d, o, got, dev, off, is)
	}
}

func checkAt(t *testing.T, l []api.Device, addr uint32, dev int, is bool) {
	t.Helper()
	if d, got := window.At(l, addr); d != dev || got != is {
		t.Errorf("At(%+v, %#x) is %d, %v, not %d, %v", l, addr, d, got, dev, is)
	}
}

func TestExample(t *testing.T) { // the chapter's example 1
	l := []api.Device{ram(0x10, 8), of(api.Timer, 0x18)}
	checkRight(t, l, true)
	checkDecode(t, l, read(0x14, 4), 0, 4, true)
	checkDecode(t, l, read(0x18, 4), 1, 0, true)
	checkDecode(t, l, read(0x38, 4), 0, 0, false)
	checkDevice(t, ram(0x12, 8), false)
}

func TestKinds(t *testing.T) { // P8.1
	for _, kind := range kinds {
		checkDevice(t, of(kind, 0x100), true)
	}
	for _, kind := range noKinds {
		checkDevice(t, of(kind, 0x100), false)
		checkDevice(t, with(ram(0x100, 4), func(d *api.Device) { d.Kind = kind }), false)
	}
	for kind := range api.Kind(600) {
		checkDevice(t, of(kind-300, 0x100), kind > 300 && kind <= 306)
	}
}

func TestSizes(t *testing.T) { // P8.1: each near those that are one, and numbers that are cut to them
	for size := -40; size < 8300; size++ {
		checkDevice(t, ram(0x100, size), size%4 == 0 && size >= 4 && size <= 4096)
		for _, kind := range kinds[1:] {
			checkDevice(t, with(of(kind, 0x100), func(d *api.Device) { d.Size = size }), size == 32)
		}
	}
	for _, size := range noRams {
		checkDevice(t, ram(0x100, size), false)
	}
	for _, size := range noWindows {
		for _, kind := range kinds[1:] {
			checkDevice(t, with(of(kind, 0x100), func(d *api.Device) { d.Size = size }), false)
		}
	}
}

func TestBases(t *testing.T) { // P8.1: multiples of 4, as long as the window ends at 2^32 - 1
	for _, size := range []int{4, 8, 32, 1024, 4092, 4096} {
		for _, from := range []uint32{0, 0x7ffff000, 0x7ffffff0, last - 4200} {
			for i := range uint32(4201) {
				base := from + i
				checkDevice(t, ram(base, size), base%4 == 0 && uint64(base)+uint64(size) <= 1<<32)
			}
		}
	}
	for _, kind := range kinds {
		for i := range uint32(80) {
			checkDevice(t, of(kind, i), i%4 == 0)
			checkDevice(t, of(kind, last-i), i%4 == 3 && i >= 31)
			checkDevice(t, of(kind, 1<<31-40+i), i%4 == 0)
		}
	}
}

func TestOwnersAndLines(t *testing.T) { // P8.1
	for _, kind := range kinds {
		for n := -600; n <= 600; n++ {
			checkDevice(t, with(of(kind, 0x100), func(d *api.Device) { d.Owner = n }), n >= -1 && n <= 7)
			checkDevice(t, with(of(kind, 0x100), func(d *api.Device) { d.Line = n }), n >= -1 && n <= 7)
		}
		for _, n := range noNumbers {
			checkDevice(t, with(of(kind, 0x100), func(d *api.Device) { d.Owner = n }), false)
			checkDevice(t, with(of(kind, 0x100), func(d *api.Device) { d.Line = n }), false)
			checkDevice(t, with(of(kind, 0x100), func(d *api.Device) { d.Owner, d.Line = n, n }), false)
		}
	}
	for owner := -2; owner <= 8; owner++ {
		for line := -2; line <= 8; line++ {
			want := owner > -2 && owner < 8 && line > -2 && line < 8
			checkDevice(t, api.Device{Kind: api.Ram, Base: last - 4095, Size: 4096, Owner: owner, Line: line}, want)
		}
	}
}

func TestNotRightDevice(t *testing.T) { // P8.1: where but one part is wrong
	for _, d := range nobodys() {
		checkDevice(t, d, false)
		if meantDevice(d) {
			t.Errorf("%+v is right", d)
		}
	}
}

func TestRight(t *testing.T) { // P8.1
	good := of(api.Uart, 0x100)
	for _, l := range [][]api.Device{
		nil, {}, {good}, {ram(0, 4)}, {ram(last-4095, 4096)}, {ram(last-3, 4), ram(0, 4)},
		{good, ram(0x120, 4)}, {ram(0xfc, 4), good}, {ram(0x120, 4), ram(0xfc, 4), good}, {good, ram(0x200, 4096), of(api.Dma, 0x1200), of(api.Dma, 0x1e0)},
		{of(api.Timer, last-31), ram(last-35, 4)}, {ram(last-3, 4), of(api.Timer, last-35)}, {good, with(good, func(d *api.Device) { d.Base = 0x140 })},
	} {
		checkRight(t, l, true)
	}
	for many := range 34 {
		checkRight(t, some(many), many <= 16)
	}
}

func TestNotRight(t *testing.T) { // P8.1, P8.2: nothing is told of it
	for _, l := range wrong() {
		checkRight(t, l, false)
		for _, addr := range []uint32{0x100, 0x104, 0x11c, 0x8000, 0, last - 3} {
			checkDecode(t, l, read(addr, 4), 0, 0, false)
			checkDecode(t, l, write(addr, 1, 9), 0, 0, false)
			checkAt(t, l, addr, 0, false)
		}
	}
}

func TestRightAtEachNumber(t *testing.T) { // P8.1: each device is asked about, and each two
	for n := range 16 {
		for _, d := range nobodys() {
			l := some(16)
			l[n] = d
			checkRight(t, l, false)
		}
		for k := range 16 {
			l := some(16)
			l[n] = of(api.Dma, 0x8000)
			l[k] = ram(0x801c, 4)
			checkRight(t, l, n == k)
			l[k].Base = 0x8020
			checkRight(t, l, true)
			l[k] = ram(0x7ffc, 8)
			checkRight(t, l, n == k)
			l[k].Size = 4
			checkRight(t, l, true)
		}
	}
}

func TestMeetOrTouch(t *testing.T) { // P8.1: each two sizes, as far as one reaches behind the other
	for _, size := range []int{4, 8, 32, 4096} {
		for _, other := range []int{4, 12, 32, 4096} {
			for base := 0x10000 - other - 8; base <= 0x10000+size+8; base += 4 {
				apart := base+other <= 0x10000 || base >= 0x10000+size
				a, b := ram(0x10000, size), ram(uint32(base), other)
				checkRight(t, []api.Device{a, b}, apart)
				checkRight(t, []api.Device{b, of(api.Timer, 0), a}, apart)
			}
		}
	}
}

func TestDecode(t *testing.T) { // P8.2
	l := []api.Device{of(api.Mail, 0x100), ram(0xf0, 16), ram(last-7, 8), of(api.Dma, 0x140), ram(0, 8)}
	for _, c := range []struct {
		a        api.Access
		dev, off int
		is       bool
	}{
		{read(0x100, 4), 0, 0, true}, {read(0x100, 1), 0, 0, true}, {read(0x103, 1), 0, 3, true}, {read(0x11c, 4), 0, 28, true}, {read(0x11e, 2), 0, 30, true}, {read(0x11f, 1), 0, 31, true}, {write(0x11f, 1, 0xff), 0, 31, true}, {write(0x104, 4, last), 0, 4, true},
		{read(0x120, 4), 0, 0, false}, {read(0x120, 1), 0, 0, false}, {read(0x13f, 1), 0, 0, false}, {write(0x13c, 4, 9), 0, 0, false}, {read(0x140, 2), 3, 0, true}, {read(0x15c, 4), 3, 28, true}, {read(0x160, 1), 0, 0, false},
		{read(0xff, 1), 1, 15, true}, {read(0xfe, 2), 1, 14, true}, {read(0xfc, 4), 1, 12, true}, {read(0xf0, 4), 1, 0, true}, {read(0xef, 1), 0, 0, false}, {read(0xec, 4), 0, 0, false},
		{read(last, 1), 2, 7, true}, {read(last-1, 2), 2, 6, true}, {read(last-3, 4), 2, 4, true}, {write(last-7, 4, 1), 2, 0, true}, {read(last-8, 1), 0, 0, false}, {read(last-11, 4), 0, 0, false}, {read(0x80000000, 4), 0, 0, false},
		{read(0, 1), 4, 0, true}, {read(7, 1), 4, 7, true}, {read(4, 4), 4, 4, true}, {read(8, 4), 0, 0, false}, {write(0, 4, 0), 4, 0, true},
	} {
		checkDecode(t, l, c.a, c.dev, c.off, c.is)
	}
	checkDecode(t, nil, read(0x100, 4), 0, 0, false)
	checkDecode(t, []api.Device{}, read(0, 1), 0, 0, false)
	checkDecode(t, []api.Device{ram(0, 4096)}, read(4095, 1), 0, 4095, true)
	checkDecode(t, []api.Device{ram(last-4095, 4096)}, read(last, 1), 0, 4095, true)
}

func TestDecodeEachNumber(t *testing.T) { // P8.2: the first and the last address of each of 16, and each place between them
	l := some(16)
	for n := range 16 {
		for off := range 32 {
			addr := 0x100 + uint32(32*n+off)
			for _, size := range []int{1, 2, 4} {
				if off%size == 0 {
					checkDecode(t, l, read(addr, size), n, off, true)
					checkDecode(t, l, write(addr, size, 9), n, off, true)
				}
			}
			checkAt(t, l, addr, n, true)
			checkAt(t, slices.Delete(slices.Clone(l), n, n+1), addr, 0, false)
			checkDecode(t, slices.Delete(slices.Clone(l), n, n+1), read(addr, 1), 0, 0, false)
		}
	}
}

func TestDecodeAccessNotRight(t *testing.T) { // P8.2
	l := []api.Device{ram(0, 4096), ram(0x1000, 4096), ram(last-4095, 4096)}
	for _, a := range []api.Access{
		{}, {World: 1}, {World: 1, Write: true}, read(0x101, 2), read(0x101, 4), read(0x102, 4), write(0x103, 2, 0), write(0x102, 4, 0), read(0x100, 0), read(0x100, -1), read(0x100, -4), read(0x100, 3), read(0x100, 8), read(0x100, 1<<32+4), read(0x100, math.MinInt), read(0x100, math.MaxInt),
		read(0xffe, 4), read(0xfff, 2), read(0xfff, 4), write(0xffd, 4, 0), read(0xffc, 8), read(0x1ffe, 4), read(0x1fff, 2), write(0x1fff, 2, 9), read(last, 2), read(last-1, 4), write(last-2, 4, 9), read(last-3, 8), read(0, 4097), read(0, 4096), read(0xfffc, 4096),
		{World: 1, Addr: 0x100, Size: 4, Data: 1}, {World: 1, Addr: 0x100, Size: 1, Data: last}, write(0x100, 1, 0x100), write(0x100, 2, 0x10000), write(0, 1, last),
	} {
		checkDecode(t, l, a, 0, 0, false)
	}
	for _, world := range append(slices.Clone(noNumbers), -1) {
		checkDecode(t, l, api.Access{World: world, Addr: 0x100, Size: 4}, 0, 0, false)
		checkDecode(t, l, api.Access{World: world, Write: true, Addr: 0, Size: 1, Data: 9}, 0, 0, false)
	}
	checkDecode(t, []api.Device{ram(4, 8)}, read(2, 4), 0, 0, false) // it ends in the window, and begins ahead of it
	checkDecode(t, []api.Device{ram(4, 8)}, read(10, 4), 0, 0, false)
	checkDecode(t, []api.Device{ram(4, 8), ram(12, 4)}, read(10, 4), 0, 0, false)
}

func TestAt(t *testing.T) { // P8.2: at either end, and just outside
	l := []api.Device{of(api.Rotor, 0x100), ram(0x200, 4), ram(last-4095, 4096), ram(0, 4), of(api.Uart, 0x120)}
	for _, c := range []struct {
		addr uint32
		dev  int
		is   bool
	}{
		{0xff, 0, false}, {0x100, 0, true}, {0x101, 0, true}, {0x11e, 0, true}, {0x11f, 0, true}, {0x120, 4, true}, {0x13f, 4, true}, {0x140, 0, false},
		{0x1ff, 0, false}, {0x200, 1, true}, {0x203, 1, true}, {0x204, 0, false}, {last - 4096, 0, false}, {last - 4095, 2, true}, {last - 1, 2, true}, {last, 2, true},
		{0, 3, true}, {3, 3, true}, {4, 0, false}, {0x7fffffff, 0, false}, {0x80000000, 0, false},
	} {
		checkAt(t, l, c.addr, c.dev, c.is)
	}
	checkAt(t, nil, 0, 0, false)
	checkAt(t, []api.Device{}, 0x100, 0, false)
	checkAt(t, []api.Device{of(api.Timer, 0)}, 0, 0, true)
}

func TestWhoHasItCountsNot(t *testing.T) { // P8.3: whoever asks, whoever has it, on whichever line it calls
	for owner := -1; owner <= 7; owner++ {
		for world := range 8 {
			l := []api.Device{of(api.Mail, 0x100), ram(0x120, 8)}
			l[1].Owner, l[1].Line = owner, world-1
			a, w := read(0x124, 2), write(0x126, 1, 0xff)
			a.World, w.World = world, world
			checkDecode(t, l, a, 1, 4, true)
			checkDecode(t, l, w, 1, 6, true)
			checkAt(t, l, 0x127, 1, true)
			a.Addr = 0x128
			checkDecode(t, l, a, 0, 0, false)
		}
	}
}

// bases are near each other, so that windows meet, and at the ends of all addresses.
var bases = []uint32{0, 4, 8, 0x18, 0x1c, 0x20, 0x24, 0x40, 0x60, 0x1000, 0x1020, 0x2000, 1 << 31, last - 0x101f, last - 0xfff, last - 35, last - 31, last - 3}

// one makes a device that is seldom not right.
func one(rnd *rand.Rand) api.Device {
	d := api.Device{Kind: kinds[rnd.Intn(6)], Base: bases[rnd.Intn(len(bases))], Size: 32, Owner: rnd.Intn(9) - 1, Line: rnd.Intn(9) - 1}
	if d.Kind == api.Ram {
		d.Size = []int{4, 8, 28, 32, 36, 4096}[rnd.Intn(6)]
	}
	switch rnd.Intn(40) {
	case 0:
		d.Base += uint32(rnd.Intn(4))
	case 1:
		d.Size = []int{0, 4, 30, 36, 4100, -4}[rnd.Intn(6)]
	case 2:
		d.Kind = api.Kind(rnd.Intn(9) - 1)
	case 3:
		d.Owner = rnd.Intn(11) - 2
	case 4:
		d.Line = rnd.Intn(11) - 2
	}
	return d
}

// row makes one that is seldom not right: of devices that are not right, or meet, most are left out.
func row(rnd *rand.Rand) []api.Device {
	l := make([]api.Device, 0, 40)
	for range rnd.Intn(50) {
		d := one(rnd)
		if rnd.Intn(50) == 0 || meantRight(append(l[:len(l):len(l)], d)) {
			l = append(l, d)
		}
	}
	return l
}

// points are addresses at the ends of what windows there may be, and beside these.
func points() []uint32 {
	var l []uint32
	for _, base := range bases {
		for _, end := range []uint32{0, 4, 32, 4096} {
			for i := range uint32(8) {
				l = append(l, base+end+i-4)
			}
		}
	}
	slices.Sort(l)
	return slices.Compact(l)
}

func TestOfMany(t *testing.T) { // P8.1 to P8.3: held against what is told another way
	rnd := rand.New(rand.NewSource(8))
	at := points()
	right, had := map[bool]int{}, map[bool]int{}
	for range 1000 {
		l := row(rnd)
		right[meantRight(l)]++
		checkRight(t, l, meantRight(l))
		for _, d := range l {
			checkDevice(t, d, meantDevice(d))
		}
		for range 100 {
			addr := at[rnd.Intn(len(at))]
			dev, is := meantAt(l, addr)
			checkAt(t, l, addr, dev, is)
			a := read(addr, []int{1, 2, 4, 3}[rnd.Intn(4)])
			a.World, a.Write = rnd.Intn(9), rnd.Intn(2) == 0
			dev, off, is := meantDecode(l, a)
			had[is]++
			checkDecode(t, l, a, dev, off, is)
		}
		if t.Failed() {
			return
		}
	}
	if right[true] < 100 || right[false] < 100 || had[true] < 1000 || had[false] < 1000 {
		t.Errorf("of the rows were right, or not: %v; of the accesses had a device, or not: %v", right, had)
	}
}

func TestWhatFollows(t *testing.T) { // P8.3: one device or none, and the one that has each of its addresses
	rnd := rand.New(rand.NewSource(3))
	at := points()
	asked := 0
	for range 300 {
		l := row(rnd)
		if !window.Right(l) {
			continue
		}
		asked++
		for _, addr := range at {
			checkOneDevice(t, l, addr)
		}
		if t.Failed() {
			return
		}
	}
	if asked < 100 {
		t.Errorf("%d rows were right", asked)
	}
}

// checkOneDevice holds the windows of a right row against what is told of accesses and an address.
func checkOneDevice(t *testing.T, l []api.Device, addr uint32) {
	t.Helper()
	n, is := window.At(l, addr)
	have := 0
	for _, d := range l {
		w, right := window.Reach(d)
		if right && w.From <= addr && addr <= w.To {
			have++
		}
	}
	if have > 1 || is != (have == 1) {
		t.Errorf("%#x is in %d windows of %+v", addr, have, l)
	}
	for _, size := range []int{1, 2, 4} {
		if addr%uint32(size) != 0 {
			continue
		}
		off := 0
		if is {
			off = int(addr - l[n].Base)
		}
		checkDecode(t, l, read(addr, size), n, off, is)
	}
}

func TestNothingIsChangedOrKept(t *testing.T) { // R3
	for _, many := range []int{1, 15, 16, 17} {
		full := some(24)
		full[0].Base, full[many-1].Base = 0x8000, 0x100
		was := slices.Clone(full)
		l := full[:many]
		n := many - 1
		for range 2 { // a row that is changed, and changed back, is told as it is each time
			right := many < 17
			wantDev, wantOff := 0, 0
			if right {
				wantDev, wantOff = n, 4
			}
			checkRight(t, l, right)
			checkDecode(t, l, read(0x104, 4), wantDev, wantOff, right)
			checkAt(t, l, 0x11f, wantDev, right)
			if !slices.Equal(full, was) {
				t.Fatalf("%+v was changed to %+v", was, full)
			}
			l[n].Base = 0x9000
			checkRight(t, l, right)
			checkDecode(t, l, read(0x104, 4), 0, 0, false)
			checkAt(t, l, 0x11f, 0, false)
			checkAt(t, l, 0x9000, wantDev, right)
			l[n].Kind = 0
			checkRight(t, l, false)
			checkAt(t, l, 0x9000, 0, false)
			checkDecode(t, l, read(0x9000, 4), 0, 0, false)
			l[n] = was[n]
		}
	}
}
