package region_test

import (
	"math"
	"slices"
	"testing"

	"septum/api"
	"septum/region"
)

const last = math.MaxUint32

// points are addresses near which something ends: the first ones, the halves, the last ones; rising.
var points = []uint32{0, 1, 3, 4, 0x100, 0x1fd, 0x1ff, 0x7fffffff, 0x80000000, last - 3, last - 1, last}

// noWorlds are numbers that are no world, some of which are one when they are cut to fewer bits.
var noWorlds = []int{math.MinInt, -1 << 32, 1 - 1<<32, -256, -8, -7, -1, 8, 9, 16, 0xff, 0x100, 0x101, 0x107, 0x10001, 1 << 31, 1 << 32, 1<<32 + 1, 1 << 62, math.MaxInt}

// noRanks are numbers that are no rank, some of which are one when they are cut to fewer bits.
var noRanks = []int{math.MinInt, -1 << 32, 3 - 1<<32, -256, -255, -2, -1, 256, 257, 511, 0x103, 0x10000, 0x10003, 1 << 31, 1 << 32, 1<<32 + 3, 1 << 62, math.MaxInt}

// of is a region that lets both through.
func of(world int, from, to uint32, rank int) api.Region {
	return api.Region{On: true, World: world, Reach: api.Reach{From: from, To: to}, Read: true, Write: true, Rank: rank}
}

func with(r api.Region, change func(r *api.Region)) api.Region {
	change(&r)
	return r
}

func read(world int, addr uint32, size int) api.Access {
	return api.Access{World: world, Addr: addr, Size: size}
}

func write(world int, addr uint32, size int, data uint32) api.Access {
	return api.Access{World: world, Write: true, Addr: addr, Size: size, Data: data}
}

// meantStands is what the chapter says of a region that is right and On, told another way.
func meantStands(r api.Region) bool {
	return r.On && slices.Contains([]int{0, 1, 2, 3, 4, 5, 6, 7}, r.World) && int64(r.Reach.To)-int64(r.Reach.From) >= 0 && r.Rank > -1 && r.Rank < 256
}

func meantRight(r api.Region) bool {
	zero := !r.On && r.World == 0 && r.Reach.From == 0 && r.Reach.To == 0 && !r.Read && !r.Write && r.Rank == 0 && !r.Locked
	return zero || meantStands(r)
}

// meantAsked is what layer 4 says of a right access, told another way.
func meantAsked(a api.Access) bool {
	most := map[int]uint32{1: 0xff, 2: 0xffff, 4: last}
	data, is := most[a.Size]
	if !a.Write {
		data = 0
	}
	return is && a.World > -1 && a.World < 8 && int64(a.Addr)%int64(a.Size) == 0 && a.Data <= data
}

// meantHas goes through the addresses of an access one by one.
func meantHas(r api.Region, a api.Access) bool {
	if !meantStands(r) || !meantAsked(a) || r.World != a.World {
		return false
	}
	for i := range a.Size {
		at := int64(a.Addr) + int64(i)
		if at < int64(r.Reach.From) || at > int64(r.Reach.To) {
			return false
		}
	}
	return true
}

func meantLets(r api.Region, a api.Access) bool {
	return meantHas(r, a) && (a.Write && r.Write || !a.Write && r.Read)
}

// meantClash goes through the addresses at which a reach begins: where two meet, one of them begins in the other one.
func meantClash(r, s api.Region) bool {
	if !meantStands(r) || !meantStands(s) || r.World == s.World {
		return false
	}
	in := func(at uint32, r api.Reach) bool { return at >= r.From && at <= r.To }
	return in(r.Reach.From, s.Reach) || in(s.Reach.From, r.Reach)
}

// nobodys are regions of which but one part is wrong, and, ahead of them, the zero one.
func nobodys() []api.Region {
	good := of(1, 0x100, 0x1ff, 3)
	l := []api.Region{
		{}, {Reach: api.Reach{To: last}, Read: true, Write: true},
		with(good, func(r *api.Region) { r.On = false }),
		of(1, 0x1ff, 0x100, 3), of(1, 0x101, 0x100, 3), of(1, 1, 0, 3), of(1, last, 0, 3), of(1, last, last-1, 3),
	}
	for _, world := range noWorlds {
		l = append(l, with(good, func(r *api.Region) { r.World = world }))
	}
	for _, rank := range noRanks {
		l = append(l, with(good, func(r *api.Region) { r.Rank = rank }))
	}
	return l
}

// regions are those of some worlds whose ends are points, right or not.
func regions() []api.Region {
	l := nobodys()
	for _, world := range []int{-1, 0, 1, 7, 8} {
		for i, from := range points {
			for k, to := range points {
				r := of(world, from, to, []int{-1, 0, 1, 255, 256}[(i+k)%5])
				r.On, r.Read, r.Write, r.Locked = (i+3*k)%7 != 0, i%2 == 0, k%2 == 0, (i+k)%2 == 0
				l = append(l, r)
			}
		}
	}
	return l
}

// accesses are at points and beside them, of each size, right or not.
func accesses() []api.Access {
	var l []api.Access
	for _, world := range []int{-1, 0, 1, 7, 8} {
		for _, p := range points {
			for beside := range uint32(7) {
				for _, size := range []int{0, 1, 2, 4, 8} {
					l = append(l, read(world, p-3+beside, size), write(world, p-3+beside, size, 0x9a))
				}
			}
		}
	}
	return l
}

func TestExample(t *testing.T) { // the chapter's example 1
	r := with(of(1, 0x100, 0x1ff, 3), func(r *api.Region) { r.Write = false })
	if !region.Right(r) {
		t.Errorf("%+v is not right", r)
	}
	checkLets(t, r, read(1, 0x1fc, 4), true, true)
	checkLets(t, r, write(1, 0x1fc, 4, 9), true, false)
	checkLets(t, r, read(1, 0x1fe, 4), false, false)
	checkLets(t, r, read(1, 0x1fe, 2), true, true)
	checkClash(t, r, of(2, 0x1ff, 0x2ff, 0), true)
	checkClash(t, r, of(2, 0x200, 0x2ff, 0), false)
}

func checkRight(t *testing.T, r api.Region, want bool) {
	t.Helper()
	if is := region.Right(r); is != want {
		t.Errorf("Right(%+v) is %v", r, is)
	}
}

func checkLets(t *testing.T, r api.Region, a api.Access, has, lets bool) {
	t.Helper()
	if is := region.Has(r, a); is != has {
		t.Errorf("Has(%+v, %+v) is %v", r, a, is)
	}
	if is := region.Lets(r, a); is != lets {
		t.Errorf("Lets(%+v, %+v) is %v", r, a, is)
	}
}

// checkClash asks both ways round.
func checkClash(t *testing.T, r, s api.Region, want bool) {
	t.Helper()
	for _, two := range [][2]api.Region{{r, s}, {s, r}} {
		if is := region.Clash(two[0], two[1]); is != want {
			t.Errorf("Clash(%+v, %+v) is %v", two[0], two[1], is)
		}
	}
}

func checkAbove(t *testing.T, r, s api.Region, want bool) {
	t.Helper()
	if is := region.Above(r, s); is != want {
		t.Errorf("Above(%+v, %+v) is %v", r, s, is)
	}
}

func TestRight(t *testing.T) { // P6.1
	for _, r := range []api.Region{
		{}, {On: true}, {On: true, Locked: true}, {On: true, Read: true}, {On: true, Write: true}, {On: true, Rank: 255}, {On: true, World: 7},
		of(0, 0, 0, 0), of(7, 0, last, 255), of(1, last, last, 3), of(1, last-1, last, 3), of(6, 0x7fffffff, 0x80000000, 254), of(1, 0x100, 0x1ff, 1),
		with(of(1, 0x100, 0x1ff, 3), func(r *api.Region) { r.Read, r.Write = false, false }), with(of(1, 0x100, 0x1ff, 3), func(r *api.Region) { r.Locked = true }),
	} {
		checkRight(t, r, true)
	}
}

func TestNotRight(t *testing.T) { // P6.1: where but one thing is wrong
	for _, r := range nobodys()[1:] {
		checkRight(t, r, false)
	}
}

func TestNoneHasNoPart(t *testing.T) { // P6.1: not On, each part by itself
	for _, r := range []api.Region{
		{World: 1}, {World: -1}, {World: 8}, {World: 1 << 32}, {World: math.MinInt}, {Reach: api.Reach{To: 1}}, {Reach: api.Reach{From: 1}}, {Reach: api.Reach{From: 7, To: 7}}, {Reach: api.Reach{To: last}}, {Reach: api.Reach{From: 1 << 31}},
		{Read: true}, {Write: true}, {Rank: 1}, {Rank: -1}, {Rank: 255}, {Rank: 256}, {Rank: 1 << 32}, {Locked: true},
	} {
		checkRight(t, r, false)
		on := with(r, func(r *api.Region) { r.On = true })
		checkRight(t, on, meantRight(on))
	}
	checkRight(t, api.Region{}, true)
}

func TestWorldsAndRanks(t *testing.T) { // P6.1: each that is one, and those beside them
	for n := -600; n <= 600; n++ {
		checkRight(t, of(n, 0x100, 0x1ff, 3), n >= 0 && n <= 7)
		checkRight(t, of(3, 0x100, 0x1ff, n), n >= 0 && n <= 255)
	}
}

func TestHas(t *testing.T) { // P6.1: just in it, and just not
	for _, c := range []struct {
		from, to uint32
		addr     uint32
		size     int
		want     bool
	}{
		{0x100, 0x1ff, 0x100, 4, true}, {0x100, 0x1ff, 0x1fc, 4, true}, {0x100, 0x1ff, 0xfc, 4, false}, {0x100, 0x1ff, 0x200, 4, false},
		{0x100, 0x1ff, 0x100, 1, true}, {0x100, 0x1ff, 0xff, 1, false}, {0x100, 0x1ff, 0x1ff, 1, true}, {0x100, 0x1ff, 0x200, 1, false},
		{0x100, 0x1ff, 0xfe, 2, false}, {0x100, 0x1ff, 0x1fe, 2, true}, {0x100, 0x1ff, 0x200, 2, false}, {0x100, 0x1ff, 0x180, 2, true},
		{0x101, 0x1ff, 0x100, 4, false}, {0x101, 0x1ff, 0x100, 2, false}, {0x101, 0x1ff, 0x100, 1, false}, {0x101, 0x1ff, 0x101, 1, true}, {0x102, 0x1ff, 0x100, 4, false}, {0x102, 0x1ff, 0x102, 2, true}, {0x103, 0x1ff, 0x100, 4, false},
		{0x100, 0x1fe, 0x1fc, 4, false}, {0x100, 0x1fe, 0x1fe, 2, false}, {0x100, 0x1fe, 0x1fe, 1, true}, {0x100, 0x1fc, 0x1fc, 4, false}, {0x100, 0x1fc, 0x1fc, 2, false}, {0x100, 0x1fc, 0x1fc, 1, true}, {0x100, 0x1fd, 0x1fc, 2, true},
		{0x101, 0x102, 0x100, 4, false}, {0x100, 0x100, 0x100, 1, true}, {0x100, 0x100, 0x100, 2, false}, {0x100, 0x103, 0x100, 4, true},
		{0, 0, 0, 1, true}, {0, 0, 0, 2, false}, {0, 3, 0, 4, true}, {0, 2, 0, 4, false}, {1, last, 0, 1, false}, {0, last, 0, 4, true}, {0, last, last - 3, 4, true}, {0, last, 0x80000000, 4, true},
		{last, last, last, 1, true}, {last, last, last - 1, 2, false}, {last - 1, last, last - 1, 2, true}, {last - 3, last, last - 3, 4, true}, {last - 3, last - 1, last - 3, 4, false}, {last - 2, last, last - 3, 4, false}, {last - 3, last, last, 1, true}, {last - 3, last, 0, 1, false}, {0, last - 1, last, 1, false},
		{0x7ffffffe, 0x80000001, 0x7ffffffe, 2, true}, {0x7ffffffe, 0x80000001, 0x80000000, 2, true}, {0x7fffffff, 0x7fffffff, 0x80000000, 1, false}, {0, 0x7fffffff, 0x80000000, 4, false}, {0x80000000, last, 0x7ffffffc, 4, false},
	} {
		r := of(1, c.from, c.to, 3)
		checkLets(t, r, read(1, c.addr, c.size), c.want, c.want)
		checkLets(t, r, write(1, c.addr, c.size, 9), c.want, c.want)
		r.Read, r.Write, r.Locked = false, false, true
		checkLets(t, r, read(1, c.addr, c.size), c.want, false)
		checkLets(t, r, write(1, c.addr, c.size, 9), c.want, false)
	}
}

func TestLets(t *testing.T) { // P6.1: one alone, both, neither; of each world
	for world := range 8 {
		for _, reads := range []bool{false, true} {
			for _, writes := range []bool{false, true} {
				r := with(of(world, 0x100, 0x1ff, 3), func(r *api.Region) { r.Read, r.Write = reads, writes })
				checkRight(t, r, true)
				checkLets(t, r, read(world, 0x180, 4), true, reads)
				checkLets(t, r, write(world, 0x180, 4, last), true, writes)
				checkLets(t, r, write(world, 0x180, 1, 0), true, writes)
				checkLets(t, r, read(world, 0x200, 4), false, false)
				checkLets(t, r, write(world, 0x200, 4, 9), false, false)
			}
		}
	}
}

func TestOfAnotherWorld(t *testing.T) { // P6.1
	for world := range 8 {
		r := of(world, 0, last, 3)
		for other := -2; other <= 9; other++ {
			checkLets(t, r, read(other, 0x100, 4), other == world, other == world)
			checkLets(t, r, write(other, 0x100, 4, 9), other == world, other == world)
		}
	}
	for _, world := range noWorlds { // the same number, that is no world
		checkLets(t, of(world, 0, last, 3), read(world, 0x100, 4), false, false)
		checkLets(t, of(world, 0, last, 3), write(1, 0x100, 4, 9), false, false)
		checkLets(t, of(1, 0, last, 3), write(world, 0x100, 4, 9), false, false)
	}
}

func TestAccessNotRight(t *testing.T) { // P6.1
	r := of(1, 0, last, 3)
	for _, a := range []api.Access{
		{}, {World: 1}, {World: 1, Write: true}, read(1, 0x101, 2), read(1, 0x101, 4), read(1, 0x102, 4), write(1, 0x103, 2, 0), write(1, 0x102, 4, 0),
		read(1, 0x100, 0), read(1, 0x100, -1), read(1, 0x100, 3), read(1, 0x100, 8), read(1, 0x100, 1<<32+4), read(1, 0x100, math.MinInt), read(1, 0x100, math.MaxInt), write(1, 0, 0, 0),
		{World: 1, Addr: 0x100, Size: 4, Data: 1}, {World: 1, Addr: 0x100, Size: 1, Data: last}, write(1, 0x100, 1, 0x100), write(1, 0x100, 2, 0x10000), write(1, 0x100, 2, last),
		read(1, last, 2), read(1, last-1, 4), write(1, last, 4, 0), {Addr: 0x100, Size: 0},
	} {
		checkLets(t, r, a, false, false)
		checkLets(t, of(0, 0, last, 3), a, false, false)
	}
}

func TestRegionNotRight(t *testing.T) { // P6.1: it has nothing, clashes with none, is above none and below none
	for _, r := range nobodys() {
		for _, a := range []api.Access{read(0, 0, 1), read(0, 0, 4), write(0, 0, 1, 0), read(1, 0x100, 4), write(1, 0x100, 4, 9), read(1, 0x180, 1), read(r.World, r.Reach.From, 1), write(r.World, r.Reach.To, 1, 9), read(r.World, 0, 4), read(1, last, 1)} {
			checkLets(t, r, a, false, false)
		}
		for _, s := range append(nobodys(), of(0, 0, last, 0), of(2, 0, last, 255), of(1, 0, last, 0), of(1, 0x100, 0x1ff, 255), of(2, 0x100, 0x1ff, 3)) {
			checkClash(t, r, s, false)
			checkAbove(t, r, s, false)
			checkAbove(t, s, r, false)
		}
	}
}

func TestClash(t *testing.T) { // P6.1: those that just meet, and just do not
	for _, c := range []struct {
		a, b api.Reach
		want bool
	}{
		{api.Reach{From: 0x100, To: 0x1ff}, api.Reach{From: 0x1ff, To: 0x2ff}, true}, {api.Reach{From: 0x100, To: 0x1ff}, api.Reach{From: 0x200, To: 0x2ff}, false},
		{api.Reach{From: 0x100, To: 0x1ff}, api.Reach{From: 0x140, To: 0x14f}, true}, {api.Reach{From: 0x100, To: 0x1ff}, api.Reach{From: 0x100, To: 0x1ff}, true},
		{api.Reach{From: 0x100, To: 0x1ff}, api.Reach{To: 0x100}, true}, {api.Reach{From: 0x100, To: 0x1ff}, api.Reach{To: 0xff}, false}, {api.Reach{}, api.Reach{To: last}, true}, {api.Reach{}, api.Reach{}, true}, {api.Reach{}, api.Reach{From: 1, To: last}, false},
		{api.Reach{From: last, To: last}, api.Reach{To: last}, true}, {api.Reach{From: last, To: last}, api.Reach{To: last - 1}, false}, {api.Reach{From: last, To: last}, api.Reach{}, false},
		{api.Reach{To: 0x7fffffff}, api.Reach{From: 0x80000000, To: last}, false}, {api.Reach{To: 0x80000000}, api.Reach{From: 0x80000000, To: last}, true},
	} {
		for one := range 8 {
			for other := range 8 {
				r := api.Region{On: true, World: one, Reach: c.a, Rank: 9, Read: true}
				s := api.Region{On: true, World: other, Reach: c.b, Rank: one, Write: true, Locked: true}
				checkClash(t, r, s, c.want && one != other)
			}
		}
	}
}

func TestAbove(t *testing.T) { // P6.1: whatever their worlds and reaches are
	for r := range 256 {
		for s := range 256 {
			checkAbove(t, of(1, 0x100, 0x1ff, r), of(1, 0x100, 0x1ff, s), r > s)
			checkAbove(t, of(7, 0, 0, r), api.Region{On: true, Reach: api.Reach{From: last, To: last}, Rank: s, Locked: true}, r > s)
		}
	}
}

func TestOfAll(t *testing.T) { // P6.1, P6.2: held against what is told another way
	asked := accesses()
	for _, r := range regions() {
		checkRight(t, r, meantRight(r))
		for _, a := range asked {
			has, lets := region.Has(r, a), region.Lets(r, a)
			if has != meantHas(r, a) || lets != meantLets(r, a) {
				t.Fatalf("%+v has %+v: %v, lets it through: %v", r, a, has, lets)
			}
			if lets && !has {
				t.Fatalf("%+v lets %+v through, that it has not", r, a)
			}
		}
	}
}

func TestOfTwoAll(t *testing.T) { // P6.1, P6.2: held against what is told another way
	row := regions()
	for _, r := range row {
		for _, s := range row {
			if is := region.Clash(r, s); is != meantClash(r, s) || is && r.World == s.World {
				t.Fatalf("Clash(%+v, %+v) is %v", r, s, is)
			}
			if is := region.Above(r, s); is != (meantStands(r) && meantStands(s) && r.Rank > s.Rank) {
				t.Fatalf("Above(%+v, %+v) is %v", r, s, is)
			}
		}
	}
}

func TestWhatFollows(t *testing.T) { // P6.2
	row := regions()
	both := 0
	for _, r := range row {
		for _, s := range row {
			if r.World == s.World && region.Clash(r, s) {
				t.Fatalf("%+v and %+v are of one world, and clash", r, s)
			}
			for _, p := range points {
				if r.World == s.World || !region.Has(r, read(r.World, p, 1)) || !region.Has(s, read(s.World, p, 1)) {
					continue
				}
				both++
				if !region.Clash(r, s) {
					t.Fatalf("%#x is in %+v and in %+v, that do not clash", p, r, s)
				}
			}
		}
	}
	if both == 0 {
		t.Error("no address was in two regions of unlike worlds")
	}
}

func TestLockedCountsNot(t *testing.T) { // P6.1: of a region that is On a lock says nothing here
	for _, r := range regions() {
		s := with(r, func(r *api.Region) { r.Locked = !r.Locked })
		if !r.On {
			continue
		}
		a := read(r.World, r.Reach.From, 1)
		if region.Right(r) != region.Right(s) || region.Has(r, a) != region.Has(s, a) || region.Lets(r, a) != region.Lets(s, a) || region.Clash(r, of(2, 0, last, 3)) != region.Clash(s, of(2, 0, last, 3)) {
			t.Errorf("%+v is not answered as with the other Locked", r)
		}
	}
}
