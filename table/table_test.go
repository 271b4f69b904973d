package table_test

import (
	"cmp"
	"math"
	"math/rand"
	"slices"
	"testing"

	"septum/api"
	"septum/region"
	"septum/table"
)

const last = math.MaxUint32

// noNumbers are numbers that no region has, some of which are one when they are cut to fewer bits.
var noNumbers = []int{math.MinInt, 1 - 1<<32, -1 << 32, -256, -33, -32, -31, -2, -1, 32, 33, 63, 64, 0x100, 0x10001, 1 << 31, 1 << 32, 1<<32 + 1, 1 << 62, math.MaxInt}

// noWorlds are numbers that are no world, some of which are one when they are cut to fewer bits.
var noWorlds = []int{math.MinInt, 1 - 1<<32, -1 << 32, -256, -8, -7, -1, 8, 9, 16, 0x100, 0x101, 0x10001, 1 << 31, 1 << 32, 1<<32 + 1, 1 << 62, math.MaxInt}

// of is a region that lets both through.
func of(world int, from, to uint32, rank int) api.Region {
	return api.Region{On: true, World: world, Reach: api.Reach{From: from, To: to}, Read: true, Write: true, Rank: rank}
}

func with(r api.Region, change func(r *api.Region)) api.Region {
	change(&r)
	return r
}

func locked(r api.Region) api.Region {
	return with(r, func(r *api.Region) { r.Locked = true })
}

func reads(r api.Region) api.Region {
	return with(r, func(r *api.Region) { r.Write = false })
}

func writes(r api.Region) api.Region {
	return with(r, func(r *api.Region) { r.Read = false })
}

func read(world int, addr uint32, size int) api.Access {
	return api.Access{World: world, Addr: addr, Size: size}
}

func write(world int, addr uint32, size int, data uint32) api.Access {
	return api.Access{World: world, Write: true, Addr: addr, Size: size, Data: data}
}

// full are 32 regions, four of each world, that meet only those of their own worlds.
func full() []api.Region {
	var l []api.Region
	for n := range 32 {
		base := uint32(n%8) << 12
		l = append(l, of(n%8, base, base+0xfff, n/8))
	}
	return l
}

// noRegions are not right, each for one reason, or right but not On: the zero one is the last.
func noRegions() []api.Region {
	good := of(1, 0x100, 0x1ff, 3)
	l := []api.Region{
		with(good, func(r *api.Region) { r.On = false }),
		with(good, func(r *api.Region) { r.Reach.To = 0xff }),
		with(good, func(r *api.Region) { r.Rank = -1 }),
		with(good, func(r *api.Region) { r.Rank = 256 }),
		{World: 1}, {Reach: api.Reach{To: 1}}, {Read: true}, {Write: true}, {Rank: 1}, {Locked: true},
	}
	for _, world := range noWorlds {
		l = append(l, with(good, func(r *api.Region) { r.World = world }))
	}
	return append(l, api.Region{})
}

// wrong are tables that are not right, each for one reason; the regions of 0x100 to 0x1ff are world 1's.
func wrong() [][]api.Region {
	good := of(1, 0x100, 0x1ff, 3)
	l := [][]api.Region{
		make([]api.Region, 33), append(full(), api.Region{}), append(full(), of(0, 0, 0, 0)), append([]api.Region{good}, make([]api.Region, 32)...), make([]api.Region, 4096),
		{good, of(2, 0x1ff, 0x2ff, 3)}, {of(2, 0x1ff, 0x2ff, 3), good}, {good, of(0, 0, last, 0)}, {good, {}, {}, of(7, 0x180, 0x180, 255)}, {{}, good, locked(good), of(2, 0, 0x100, 3)}, {of(3, 0, 1, 1), of(3, 5, 9, 1), of(2, 9, 9, 1), good},
	}
	no := noRegions()
	for _, r := range no[:len(no)-1] {
		l = append(l, []api.Region{r}, []api.Region{r, good}, []api.Region{good, r}, []api.Region{good, {}, r, {}})
	}
	return l
}

// meantRight asks of each two.
func meantRight(l []api.Region) bool {
	is := len(l) <= 32
	for i, r := range l {
		is = is && region.Right(r)
		for k := range i {
			is = is && !region.Clash(r, l[k])
		}
	}
	return is
}

// meantOrder are the numbers of a world's regions, as they decide.
func meantOrder(l []api.Region, world int) []int {
	var numbers []int
	if !meantRight(l) {
		return nil
	}
	for rank := 255; rank >= 0; rank-- {
		for n, r := range l {
			if r.On && r.World == world && r.Rank == rank {
				numbers = append(numbers, n)
			}
		}
	}
	return numbers
}

func meantDecides(l []api.Region, a api.Access) (int, bool) {
	for _, n := range meantOrder(l, a.World) {
		if region.Has(l[n], a) {
			return n, true
		}
	}
	return 0, false
}

func meantMay(l []api.Region, a api.Access) bool {
	n, is := meantDecides(l, a)
	return is && region.Lets(l[n], a)
}

func meantMap(l []api.Region, world int) []api.Region {
	var m []api.Region
	for _, n := range meantOrder(l, world) {
		m = append(m, l[n])
	}
	return m
}

// meantHeld is the first error of those that do not hang on what the region is to be.
func meantHeld(l []api.Region, n int) api.Errno {
	switch {
	case !meantRight(l):
		return api.ErrShape
	case n < 0 || n > 31:
		return api.ErrRange
	case n < len(l) && l[n].Locked:
		return api.ErrHeld
	}
	return api.OK
}

func meantSet(l []api.Region, n int, r api.Region) ([]api.Region, api.Errno) {
	if err := meantHeld(l, n); err != api.OK {
		return nil, err
	}
	if !region.Right(r) || r == (api.Region{}) {
		return nil, api.ErrShape
	}
	told := slices.Clone(l)
	for len(told) <= n {
		told = append(told, api.Region{})
	}
	told[n] = r
	if !meantRight(told) {
		return nil, api.ErrShare
	}
	return told, api.OK
}

func meantClear(l []api.Region, n int) ([]api.Region, api.Errno) {
	if err := meantHeld(l, n); err != api.OK {
		return nil, err
	}
	told := slices.Clone(l)
	for k := range told {
		if k == n {
			told[k] = api.Region{}
		}
	}
	return told, api.OK
}

func checkRight(t *testing.T, l []api.Region, want bool) {
	t.Helper()
	if is := table.Right(l); is != want {
		t.Errorf("Right(%+v) is %v", l, is)
	}
}

func checkDecides(t *testing.T, l []api.Region, a api.Access, number int, is, may bool) {
	t.Helper()
	if n, got := table.Decides(l, a); n != number || got != is {
		t.Errorf("Decides(%+v, %+v) is %d, %v, not %d, %v", l, a, n, got, number, is)
	}
	if got := table.May(l, a); got != may {
		t.Errorf("May(%+v, %+v) is %v", l, a, got)
	}
}

// told holds what Set, or Clear, told against what it had to.
func told(t *testing.T, call string, got []api.Region, err api.Errno, want []api.Region, wantErr api.Errno) {
	t.Helper()
	if !slices.Equal(got, want) || err != wantErr {
		t.Errorf("%s is %+v, %d, not %+v, %d", call, got, err, want, wantErr)
	}
}

func checkSet(t *testing.T, l []api.Region, n int, r api.Region, want []api.Region, wantErr api.Errno) {
	t.Helper()
	got, err := table.Set(l, n, r)
	told(t, "Set", got, err, want, wantErr)
}

func checkClear(t *testing.T, l []api.Region, n int, want []api.Region, wantErr api.Errno) {
	t.Helper()
	got, err := table.Clear(l, n)
	told(t, "Clear", got, err, want, wantErr)
}

func checkMap(t *testing.T, l []api.Region, world int, want ...api.Region) {
	t.Helper()
	if got := table.Map(l, world); !slices.Equal(got, want) {
		t.Errorf("Map(%+v, %d) is %+v, not %+v", l, world, got, want)
	}
}

func checkAmong(t *testing.T, m []api.Region, a api.Access, want bool) {
	t.Helper()
	if is := table.Among(m, a); is != want {
		t.Errorf("Among(%+v, %+v) is %v", m, a, is)
	}
}

func TestExample(t *testing.T) { // the chapter's example 1
	l := []api.Region{of(1, 0, 0xfff, 1), reads(of(1, 0x100, 0x1ff, 2))}
	checkRight(t, l, true)
	checkDecides(t, l, write(1, 0x100, 4, 9), 1, true, false)
	checkDecides(t, l, read(1, 0x100, 4), 1, true, true)
	checkDecides(t, l, write(1, 0xfe, 4, 9), 0, false, false)
	checkDecides(t, l, write(1, 0xfc, 4, 9), 0, true, true)
	checkSet(t, l, 2, of(2, 0x800, 0x8ff, 0), nil, api.ErrShare)
	checkMap(t, l, 1, l[1], l[0])
}

func TestRight(t *testing.T) { // P7.1
	good := of(1, 0x100, 0x1ff, 3)
	for _, l := range [][]api.Region{
		nil, {}, {{}}, {good}, {locked(good)}, {{}, {}, good, {}, {}}, make([]api.Region, 31), make([]api.Region, 32), full(), full()[:31],
		{good, of(2, 0x200, 0x2ff, 3)}, {good, of(2, 0, 0xff, 3), of(0, 0x200, last, 3)}, {good, {}, of(2, 0x200, 0x2ff, 3)}, {of(2, last, last, 3), of(1, 0, last-1, 3)},
		{good, good, good}, {good, of(1, 0, last, 3), of(1, 0x1ff, 0x200, 4)}, {{On: true}, {On: true, Rank: 255}}, {of(0, 0, last, 0), {}, {}},
		append(make([]api.Region, 31), good), append([]api.Region{good}, make([]api.Region, 31)...), slices.Repeat([]api.Region{good}, 32),
	} {
		checkRight(t, l, true)
	}
}

func TestNotRight(t *testing.T) { // P7.1: nothing is told of it
	for _, l := range append(wrong(), slices.Repeat([]api.Region{of(1, 0x100, 0x1ff, 3)}, 33)) {
		checkRight(t, l, false)
		for _, a := range []api.Access{read(1, 0x180, 4), write(1, 0x180, 4, 9), read(1, 0x100, 1), read(0, 0, 1), read(7, 0x180, 1), read(0, 0x8000, 1)} {
			checkDecides(t, l, a, 0, false, false)
		}
		for world := -1; world <= 8; world++ {
			checkMap(t, l, world)
		}
	}
}

func TestRightAtEachNumber(t *testing.T) { // P7.1: each region is asked about, and each two
	no := noRegions()
	for n := range 32 {
		for _, r := range no[:len(no)-1] {
			l := full()
			l[n] = r
			checkRight(t, l, false)
		}
		for k := range 32 {
			l := make([]api.Region, 32)
			l[n], l[k] = of(1, 0x100, 0x1ff, 3), of(2, 0x1ff, 0x2ff, 3)
			checkRight(t, l, n == k)
			l[k].Reach.From = 0x200
			checkRight(t, l, true)
		}
	}
}

func TestDecides(t *testing.T) { // P7.1
	wide, narrow := of(1, 0, 0xfff, 1), of(1, 0x100, 0x1ff, 2)
	a, w := read(1, 0x140, 4), write(1, 0x140, 2, 0xffff)
	for _, c := range []struct {
		l      []api.Region
		a      api.Access
		number int
		is     bool
		may    bool
	}{
		{nil, a, 0, false, false}, {[]api.Region{}, a, 0, false, false}, {[]api.Region{{}}, a, 0, false, false}, {[]api.Region{{}, {}, wide}, a, 2, true, true},
		{[]api.Region{wide, narrow}, a, 1, true, true}, {[]api.Region{narrow, wide}, a, 0, true, true}, {[]api.Region{{}, narrow, {}, wide}, w, 1, true, true}, {[]api.Region{{}, wide, {}, narrow}, w, 3, true, true},
		{[]api.Region{wide, writes(narrow)}, a, 1, true, false}, {[]api.Region{writes(narrow), wide}, a, 0, true, false}, {[]api.Region{wide, writes(narrow)}, w, 1, true, true}, {[]api.Region{wide, reads(narrow)}, w, 1, true, false}, {[]api.Region{wide, reads(narrow)}, a, 1, true, true}, {[]api.Region{wide, reads(writes(narrow))}, a, 1, true, false}, {[]api.Region{reads(writes(wide)), narrow}, w, 1, true, true},
		{[]api.Region{narrow, reads(narrow)}, w, 0, true, true}, {[]api.Region{reads(narrow), narrow}, w, 0, true, false}, {[]api.Region{wide, reads(narrow), narrow, writes(narrow)}, w, 1, true, false}, {[]api.Region{of(1, 0x144, 0x1ff, 2), narrow, narrow}, a, 1, true, true}, {[]api.Region{of(1, 0, 1, 255), of(1, 0, last, 0), of(1, 0, last, 0)}, a, 1, true, true},
		{[]api.Region{wide, of(1, 0x142, 0x1ff, 2)}, a, 0, true, true}, {[]api.Region{wide, of(1, 0x142, 0x1ff, 2)}, read(1, 0x142, 2), 1, true, true}, {[]api.Region{wide, of(1, 0, 0x142, 255)}, a, 0, true, true}, {[]api.Region{of(1, 0, 0x141, 9), of(1, 0x142, 0xfff, 9)}, a, 0, false, false},
		{[]api.Region{narrow}, read(1, 0xfc, 4), 0, false, false}, {[]api.Region{narrow}, read(1, 0x200, 1), 0, false, false}, {[]api.Region{narrow}, read(1, 0x1fc, 4), 0, true, true}, {[]api.Region{{}, narrow}, read(1, 0x100, 1), 1, true, true},
		{[]api.Region{narrow}, read(2, 0x140, 4), 0, false, false}, {[]api.Region{narrow, of(2, 0x200, 0x2ff, 0)}, read(2, 0x140, 4), 0, false, false}, {[]api.Region{narrow, of(2, 0x200, 0x2ff, 0)}, read(2, 0x240, 4), 1, true, true}, {[]api.Region{narrow, of(2, 0x200, 0x2ff, 0)}, read(1, 0x240, 4), 0, false, false},
		{[]api.Region{{}, narrow}, read(0, 0, 1), 0, false, false}, {[]api.Region{{}, {On: true}}, read(0, 0, 1), 1, true, false}, {[]api.Region{{}, of(0, 0, 0, 0)}, read(0, 0, 1), 1, true, true}, {[]api.Region{{}, of(0, last, last, 255)}, write(0, last, 1, 0xff), 1, true, true},
		{[]api.Region{locked(wide), narrow}, a, 1, true, true}, {[]api.Region{wide, locked(reads(narrow))}, w, 1, true, false}, {full(), read(7, 0x7ffc, 4), 31, true, true}, {full(), write(0, 0, 4, last), 24, true, true}, {full()[:31], read(7, 0x7ffc, 4), 23, true, true}, {full(), read(7, 0x6ffc, 4), 0, false, false}, {full(), read(0, 0x8000, 1), 0, false, false},
	} {
		checkRight(t, c.l, true)
		checkDecides(t, c.l, c.a, c.number, c.is, c.may)
	}
}

func TestDecidesRanks(t *testing.T) { // P7.1: each two ranks, both ways round
	for r := range 256 {
		for s := range 256 {
			l := []api.Region{{}, of(1, 0x100, 0x1ff, r), reads(of(1, 0, 0xfff, s))}
			number := 1
			if s > r {
				number = 2
			}
			checkDecides(t, l, write(1, 0x1fc, 4, 9), number, true, number == 1)
		}
	}
}

func TestDecidesAccessNotRight(t *testing.T) { // P7.1
	l := []api.Region{{}, of(1, 0x100, last, 3), of(0, 0, 0xff, 3)}
	for _, a := range []api.Access{
		{}, {World: 1}, read(1, 0x101, 2), read(1, 0x102, 4), read(1, 0x100, 0), read(1, 0x100, 3), read(1, 0x100, -4), read(1, 0x100, 8), read(1, 0x100, 1<<32+4), read(1, last, 2), read(1, last-1, 4),
		{World: 1, Addr: 0x100, Size: 4, Data: 1}, write(1, 0x100, 1, 0x100), write(1, 0x100, 2, 0x10000), write(0, 0x10, 1, last),
	} {
		checkDecides(t, l, a, 0, false, false)
		checkAmong(t, l, a, false)
	}
	for _, world := range noWorlds {
		checkDecides(t, l, read(world, 0x100, 4), 0, false, false)
		checkDecides(t, l, write(world, 0, 1, 9), 0, false, false)
	}
}

func TestSet(t *testing.T) { // P7.2
	r, s := of(1, 0x100, 0x1ff, 3), reads(of(2, 0x200, 0x2ff, 4))
	none := make([]api.Region, 32)
	checkSet(t, nil, 0, r, []api.Region{r}, api.OK)
	checkSet(t, []api.Region{}, 0, locked(r), []api.Region{locked(r)}, api.OK)
	checkSet(t, nil, 1, r, []api.Region{{}, r}, api.OK)
	checkSet(t, nil, 31, r, append(none[:31:31], r), api.OK)
	checkSet(t, []api.Region{{}}, 0, r, []api.Region{r}, api.OK)
	checkSet(t, []api.Region{r}, 0, s, []api.Region{s}, api.OK)
	checkSet(t, []api.Region{r}, 0, r, []api.Region{r}, api.OK)
	checkSet(t, []api.Region{r}, 1, s, []api.Region{r, s}, api.OK)
	checkSet(t, []api.Region{r}, 2, s, []api.Region{r, {}, s}, api.OK)
	checkSet(t, []api.Region{r, {}, {}}, 1, s, []api.Region{r, s, {}}, api.OK)
	checkSet(t, []api.Region{locked(r)}, 7, r, []api.Region{locked(r), {}, {}, {}, {}, {}, {}, r}, api.OK)
	checkSet(t, []api.Region{r}, 31, s, append(append([]api.Region{r}, none[:30]...), s), api.OK)
	checkSet(t, none, 31, s, append(none[:31:31], s), api.OK)
	checkSet(t, none, 0, s, append([]api.Region{s}, none[:31]...), api.OK)
	checkSet(t, nil, 0, api.Region{On: true}, []api.Region{{On: true}}, api.OK)
	checkSet(t, []api.Region{r}, 1, of(1, 0, last, 255), []api.Region{r, of(1, 0, last, 255)}, api.OK)
	for n := range 32 {
		l := full()
		l[n] = with(of(n%8, 0x8000, 0x8fff, 200), func(r *api.Region) { r.Locked = true })
		checkSet(t, full(), n, l[n], l, api.OK)
	}
}

func TestSetErrors(t *testing.T) { // P7.2: each error with all that come behind it
	r, s := of(1, 0x100, 0x1ff, 3), of(2, 0x1ff, 0x2ff, 4)
	no := append(noRegions(), locked(api.Region{}), with(s, func(r *api.Region) { r.On = false }))
	for _, l := range wrong() {
		for _, n := range append([]int{0, 1, 31}, noNumbers...) {
			checkSet(t, l, n, s, nil, api.ErrShape)
			checkSet(t, l, n, of(7, 0x9000, 0x9fff, 0), nil, api.ErrShape)
			checkSet(t, l, n, no[n&3], nil, api.ErrShape)
		}
	}
	for _, n := range noNumbers {
		for _, l := range [][]api.Region{nil, {locked(r)}, {r}, full()} {
			checkSet(t, l, n, s, nil, api.ErrRange)
			checkSet(t, l, n, r, nil, api.ErrRange)
			checkSet(t, l, n, no[1], nil, api.ErrRange)
			checkSet(t, l, n, api.Region{}, nil, api.ErrRange)
		}
	}
	for _, bad := range no {
		checkSet(t, []api.Region{locked(r)}, 0, bad, nil, api.ErrHeld)
		for _, l := range [][]api.Region{nil, {{}}, {r}, {r, locked(of(1, 0, 0xff, 3))}, {r, of(2, 0x200, 0x2ff, 4)}} {
			checkSet(t, l, 0, bad, nil, api.ErrShape)
			checkSet(t, l, 2, bad, nil, api.ErrShape)
			checkSet(t, l, 31, bad, nil, api.ErrShape)
		}
	}
	held := []api.Region{{}, of(1, 0, 0xff, 3), locked(r)}
	checkSet(t, held, 2, s, nil, api.ErrHeld)
	checkSet(t, held, 2, r, nil, api.ErrHeld)
	checkSet(t, held, 2, locked(r), nil, api.ErrHeld)
	checkSet(t, held, 2, of(2, 0xff, 0xff, 0), nil, api.ErrHeld)
	checkSet(t, held, 1, r, []api.Region{{}, r, locked(r)}, api.OK)
}

func TestSetShares(t *testing.T) { // P7.2: with none but the one that it replaces
	r, s := of(1, 0x100, 0x1ff, 3), of(2, 0x1ff, 0x2ff, 4)
	for n := range 32 {
		l := make([]api.Region, 32)
		l[n] = r
		for k := range 32 {
			if k == n {
				checkSet(t, l, k, s, append(append(make([]api.Region, n), s), make([]api.Region, 31-n)...), api.OK)
				continue
			}
			checkSet(t, l, k, s, nil, api.ErrShare)
			checkSet(t, l[:n+1], k, s, nil, api.ErrShare)
			checkSet(t, l, k, locked(reads(writes(s))), nil, api.ErrShare)
		}
	}
	checkSet(t, []api.Region{r, of(1, 0, 0x1ff, 0)}, 0, s, nil, api.ErrShare)
	checkSet(t, []api.Region{of(1, 0, 0x1ff, 0), r}, 1, s, nil, api.ErrShare)
	checkSet(t, []api.Region{r, of(1, 0, 0x1fe, 0)}, 0, s, []api.Region{s, of(1, 0, 0x1fe, 0)}, api.OK)
	checkSet(t, []api.Region{r, s}[:1], 1, of(2, 0x200, 0x2ff, 4), []api.Region{r, of(2, 0x200, 0x2ff, 4)}, api.OK)
	checkSet(t, []api.Region{locked(r)}, 1, s, nil, api.ErrShare)
}

func TestClear(t *testing.T) { // P7.2
	r, s := of(1, 0x100, 0x1ff, 3), of(2, 0x200, 0x2ff, 4)
	for _, n := range []int{0, 1, 30, 31} {
		checkClear(t, nil, n, nil, api.OK)
		checkClear(t, []api.Region{}, n, nil, api.OK)
	}
	checkClear(t, []api.Region{r}, 0, []api.Region{{}}, api.OK)
	checkClear(t, []api.Region{{}}, 0, []api.Region{{}}, api.OK)
	checkClear(t, []api.Region{r, {}, s}, 0, []api.Region{{}, {}, s}, api.OK)
	checkClear(t, []api.Region{r, {}, s}, 1, []api.Region{r, {}, s}, api.OK)
	checkClear(t, []api.Region{r, {}, s}, 2, []api.Region{r, {}, {}}, api.OK)
	checkClear(t, []api.Region{r, {}, s}, 3, []api.Region{r, {}, s}, api.OK)
	checkClear(t, []api.Region{r, {}, locked(s)}, 31, []api.Region{r, {}, locked(s)}, api.OK)
	checkClear(t, []api.Region{r, {}, locked(s)}, 0, []api.Region{{}, {}, locked(s)}, api.OK)
	for n := range 32 {
		l := full()
		l[n] = api.Region{}
		checkClear(t, full(), n, l, api.OK)
	}
}

func TestClearErrors(t *testing.T) { // P7.2: each error with all that come behind it
	r := locked(of(1, 0x100, 0x1ff, 3))
	for _, l := range wrong() {
		for _, n := range append([]int{0, 1, 2, 31}, noNumbers...) {
			checkClear(t, l, n, nil, api.ErrShape)
		}
	}
	for _, n := range noNumbers {
		for _, l := range [][]api.Region{nil, {{}}, {r}, slices.Repeat([]api.Region{r}, 32), full()} {
			checkClear(t, l, n, nil, api.ErrRange)
		}
	}
	for n := range 32 {
		l := full()
		l[n].Locked = true
		checkClear(t, l, n, nil, api.ErrHeld)
		checkClear(t, l[:n+1], n, nil, api.ErrHeld)
		checkClear(t, l[:n], n, l[:n], api.OK)
	}
}

func TestMap(t *testing.T) { // P7.3
	r := func(n uint32, rank int) api.Region { return of(1, n, n+0xff, rank) }
	checkMap(t, nil, 0)
	checkMap(t, []api.Region{}, 1)
	checkMap(t, make([]api.Region, 32), 0)
	checkMap(t, []api.Region{{}, {On: true}, {}}, 0, api.Region{On: true})
	checkMap(t, []api.Region{r(0, 3), r(1, 3), {}, r(2, 3)}, 1, r(0, 3), r(1, 3), r(2, 3))
	checkMap(t, []api.Region{r(2, 3), r(1, 3), {}, r(0, 3)}, 1, r(2, 3), r(1, 3), r(0, 3))
	checkMap(t, []api.Region{r(0, 0), r(1, 255), r(2, 0), r(3, 7), r(4, 255), r(5, 7)}, 1, r(1, 255), r(4, 255), r(3, 7), r(5, 7), r(0, 0), r(2, 0))
	checkMap(t, []api.Region{locked(reads(r(0, 1))), writes(reads(r(1, 2)))}, 1, writes(reads(r(1, 2))), locked(reads(r(0, 1))))
	l := full()
	for world := range 8 {
		checkMap(t, l, world, l[24+world], l[16+world], l[8+world], l[world])
		checkMap(t, l[world+1:world+8], world)
		checkMap(t, []api.Region{{}, l[(world+1)%8], {}}, world)
	}
	for _, world := range noWorlds {
		checkMap(t, l, world)
		checkMap(t, make([]api.Region, 3), world)
	}
	same := slices.Repeat([]api.Region{of(5, 0, last, 9)}, 32)
	for n := range same { // of one rank: the order is that of the numbers
		same[n].Reach.To -= uint32(n * n % 32)
	}
	checkMap(t, same, 5, same...)
}

func TestAmong(t *testing.T) { // P7.3: the first that has it, whatever the row is
	wide, narrow := of(1, 0, 0xfff, 1), of(1, 0x100, 0x1ff, 2)
	a, w := read(1, 0x140, 4), write(1, 0x140, 4, 9)
	no := noRegions()
	for _, c := range []struct {
		m          []api.Region
		read, both bool
	}{
		{nil, false, false}, {[]api.Region{}, false, false}, {[]api.Region{{}}, false, false}, {no, false, false}, {append(noRegions(), wide), true, true},
		{[]api.Region{wide}, true, true}, {[]api.Region{reads(wide)}, true, false}, {[]api.Region{writes(reads(wide)), wide}, false, false},
		{[]api.Region{reads(narrow), wide}, true, false}, {[]api.Region{wide, reads(narrow)}, true, true}, {[]api.Region{of(1, 0x142, 0x1ff, 9), reads(wide), wide}, true, false}, {[]api.Region{of(1, 0, 0x13f, 9), of(1, 0x144, last, 9)}, false, false},
		{[]api.Region{of(2, 0, last, 255)}, false, false}, {[]api.Region{writes(reads(of(2, 0, last, 255))), reads(wide), wide}, true, false}, {append(make([]api.Region, 40), wide), true, true}, {append(full(), wide, writes(wide)), true, true},
	} {
		checkAmong(t, c.m, a, c.read)
		checkAmong(t, c.m, w, c.both)
	}
	checkAmong(t, []api.Region{writes(wide), wide}, a, false)
	checkAmong(t, []api.Region{writes(wide), reads(wide)}, w, true)
}

// points are addresses near each other, so that regions meet, and ends of all.
var points = []uint32{0, 3, 4, 5, 7, 8, 11, 12, 13, 16, last - 4, last - 3, last - 1, last}

// one makes a region of few worlds, ranks and addresses; seldom one that is not right.
func one(rnd *rand.Rand) api.Region {
	from, to := rnd.Intn(len(points)), rnd.Intn(len(points))
	r := of(rnd.Intn(3), points[min(from, to)], points[max(from, to)], rnd.Intn(3))
	r.Read, r.Write, r.Locked = rnd.Intn(3) > 0, rnd.Intn(3) > 0, rnd.Intn(5) == 0
	switch rnd.Intn(60) {
	case 0:
		r.On = false
	case 1:
		r.Rank = []int{-1, 256, 255}[rnd.Intn(3)]
	case 2:
		r.World = []int{-1, 7, 8}[rnd.Intn(3)]
	case 3, 4, 5, 6, 7, 8, 9, 10, 11, 12, 13, 14, 15:
		return api.Region{}
	}
	return r
}

// some makes a table that is seldom not right: of regions that are not right, or clash, most are left out.
func some(rnd *rand.Rand) []api.Region {
	l := make([]api.Region, 0, 40)
	for range rnd.Intn(34) {
		r := one(rnd)
		if rnd.Intn(40) == 0 || meantRight(append(l[:len(l):len(l)], r)) {
			l = append(l, r)
		}
	}
	return l
}

// accesses are at all points, of three worlds, of each size, aligned or not.
func accesses() []api.Access {
	var l []api.Access
	for world := range 3 {
		for _, addr := range points {
			for _, size := range []int{1, 2, 4} {
				l = append(l, read(world, addr, size), write(world, addr, size, 9))
			}
		}
	}
	return l
}

func TestOfMany(t *testing.T) { // P7.1 to P7.3: held against what is told another way
	rnd := rand.New(rand.NewSource(7))
	asked := accesses()
	seen := map[bool]int{}
	errs := map[api.Errno]int{}
	for range 500 {
		l := some(rnd)
		checkRight(t, l, meantRight(l))
		seen[meantRight(l)]++
		for _, a := range asked {
			number, is := meantDecides(l, a)
			checkDecides(t, l, a, number, is, meantMay(l, a))
		}
		for world := -1; world < 4; world++ {
			checkMap(t, l, world, meantMap(l, world)...)
		}
		for range 8 {
			n, r := rnd.Intn(36)-2, one(rnd)
			want, err := meantSet(l, n, r)
			errs[err]++
			checkSet(t, l, n, r, want, err)
			want, err = meantClear(l, n)
			checkClear(t, l, n, want, err)
		}
		if t.Failed() {
			return
		}
	}
	if seen[true] < 50 || seen[false] < 50 {
		t.Errorf("of the tables were right, or not: %v", seen)
	}
	for _, err := range []api.Errno{api.OK, api.ErrShape, api.ErrRange, api.ErrHeld, api.ErrShare} {
		if errs[err] < 50 {
			t.Errorf("told were %v", errs)
		}
	}
}

func TestWhatFollows(t *testing.T) { // P7.4
	rnd := rand.New(rand.NewSource(4))
	asked := accesses()
	var l []api.Region
	for range 1500 {
		n, r := rnd.Intn(40)-4, one(rnd)
		next, err := table.Set(l, n, r)
		if rnd.Intn(3) == 0 {
			next, err = table.Clear(l, n)
		}
		if rnd.Intn(100) == 0 {
			next, err = nil, api.OK
		}
		if err != api.OK {
			continue
		}
		l = next
		if !table.Right(l) || !meantRight(l) {
			t.Fatalf("%+v is told, and is not right", l)
		}
		for _, a := range asked {
			if table.May(l, a) != table.Among(table.Map(l, a.World), a) {
				t.Fatalf("of %+v the verdict on %+v is not that of the map", l, a)
			}
		}
		checkWorldsApart(t, l)
	}
}

// checkWorldsApart asks for each point which worlds have regions there.
func checkWorldsApart(t *testing.T, l []api.Region) {
	t.Helper()
	for _, addr := range points {
		var worlds []int
		for world := range 8 {
			if _, is := table.Decides(l, read(world, addr, 1)); is {
				worlds = append(worlds, world)
			}
		}
		if len(worlds) > 1 {
			t.Fatalf("in %+v the worlds %v have %#x", l, worlds, addr)
		}
	}
}

// rows are copies of a table: one with no room behind it, one with room in which something stands, one without.
func rows(l []api.Region) [][]api.Region {
	roomy := append(slices.Clone(l), full()...)[:len(l)]
	return [][]api.Region{slices.Clip(slices.Clone(l)), roomy, roomy[:len(l):len(l)]}
}

func TestNothingIsChangedOrKept(t *testing.T) { // R3
	base := []api.Region{of(1, 0x100, 0x1ff, 3), {}, of(2, 0x200, 0x2ff, 1), of(1, 0, 0xff, 9)}
	r := of(3, 0x300, 0x3ff, 1)
	calls := []func(l []api.Region) []api.Region{
		func(l []api.Region) []api.Region { return table.Map(l, 1) },
		func(l []api.Region) []api.Region { table.Right(l); table.Among(l, read(1, 0x100, 4)); return nil },
		func(l []api.Region) []api.Region {
			table.Decides(l, read(1, 0, 4))
			table.May(l, read(1, 0, 4))
			return nil
		},
	}
	for _, n := range []int{-1, 0, 1, 3, 4, 5, 31, 32} {
		calls = append(calls,
			func(l []api.Region) []api.Region { m, _ := table.Set(l, n, r); return m },
			func(l []api.Region) []api.Region { m, _ := table.Clear(l, n); return m })
	}
	for n, call := range calls {
		for _, l := range rows(base) {
			all := l[:cap(l)]
			was := slices.Clone(all)
			got := call(l)
			if !slices.Equal(all, was) {
				t.Errorf("call %d changed %+v to %+v", n, was, all)
			}
			kept := slices.Clone(got)
			clear(all)
			if !slices.Equal(got, kept) {
				t.Errorf("what call %d told hangs on what it was given", n)
			}
			copy(all, was)
			clear(got[:cap(got)])
			if !slices.Equal(all, was) {
				t.Errorf("what call %d was given hangs on what it told", n)
			}
			if again := call(l); !slices.Equal(again, kept) {
				t.Errorf("call %d tells %+v, then %+v", n, kept, again)
			}
		}
	}
}

func TestOrderIsThatOfRanksAndNumbers(t *testing.T) { // P7.3, R4: of all 32, each rank more than once
	for step := range 32 {
		var l []api.Region
		for n := range 32 {
			l = append(l, of(4, uint32(n), last, (n*(2*step+1)/3)%5))
		}
		want := slices.Clone(l)
		slices.SortStableFunc(want, func(r, s api.Region) int { return cmp.Compare(s.Rank, r.Rank) })
		checkMap(t, l, 4, want...)
	}
}
