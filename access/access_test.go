package access_test

import (
	"math"
	"slices"
	"testing"

	"septum/access"
	"septum/api"
)

const last = math.MaxUint32

var sizes = []int{1, 2, 4}

// noSizes are numbers that are no size, some of which are one when they are cut to fewer bits.
var noSizes = []int{math.MinInt, -1 << 32, 1 - 1<<32, -4, -2, -1, 0, 3, 5, 6, 7, 8, 16, 32, 0x100, 0x101, 0x102, 0x104, 0x10001, 1 << 32, 1<<32 + 1, 1<<32 + 2, 1<<32 + 4, math.MaxInt - 3, math.MaxInt}

// noWorlds are numbers that are no world, some of which are one when they are cut to fewer bits.
var noWorlds = []int{math.MinInt, -1 << 32, 1 - 1<<32, -256, -255, -8, -7, -1, 8, 9, 15, 16, 0x80, 0xff, 0x100, 0x101, 0x107, 0x10000, 1 << 31, 1 << 32, 1<<32 + 1, 1<<32 + 7, 1 << 62, math.MaxInt - 7, math.MaxInt}

// datas are words near the greatest that fits a size, and some with other bytes.
var datas = []uint32{0, 1, 0x7f, 0x80, 0xfe, 0xff, 0x100, 0x101, 0x1234, 0x8000, 0xff00, 0xfffe, 0xffff, 0x10000, 0x10001, 0xff0000, 0x12345678, 0x7fffffff, 0x80000000, 0xff000000, last - 1, last}

// addrs are the first addresses, those around bytes and halves, and the last ones.
func addrs() []uint32 {
	var all []uint32
	for _, from := range []uint32{0, 0xfc, 0x100, 0xfffc, 0x12345678, 0x7ffffffc, 0x80000000, last - 7, last - 3} {
		for i := range uint32(4) {
			all = append(all, from+i)
		}
	}
	return all
}

func read(world int, addr uint32, size int) api.Access {
	return api.Access{World: world, Addr: addr, Size: size}
}

func write(world int, addr uint32, size int, data uint32) api.Access {
	return api.Access{World: world, Write: true, Addr: addr, Size: size, Data: data}
}

// meantRight is what the chapter says of a right access, told another way.
func meantRight(a api.Access) bool {
	most := uint64(0)
	if a.Write {
		most = uint64(math.Pow(2, 8*float64(a.Size))) - 1
	}
	return slices.Contains([]int{0, 1, 2, 3, 4, 5, 6, 7}, a.World) && slices.Contains(sizes, a.Size) && int(a.Addr)%a.Size == 0 && uint64(a.Data) <= most
}

// all are accesses of each world, place and size, right or not.
func all() []api.Access {
	var l []api.Access
	for _, world := range []int{-1, 0, 1, 3, 6, 7, 8, 256} {
		for _, addr := range addrs() {
			for _, size := range []int{0, 1, 2, 3, 4, 8} {
				for _, data := range datas {
					a := write(world, addr, size, data)
					l = append(l, a)
					a.Write = false
					l = append(l, a)
				}
			}
		}
	}
	return l
}

func TestRight(t *testing.T) { // P4.1
	for _, a := range []api.Access{
		read(0, 0, 1), read(0, 0, 2), read(0, 0, 4), read(1, 1, 1), read(3, 2, 2), read(3, 0x100, 4), read(6, 7, 1), read(7, 0, 4), read(7, last, 1),
		read(0, last, 1), read(0, last-1, 1), read(0, last-1, 2), read(0, last-3, 1), read(0, last-3, 2), read(0, last-3, 4), read(2, 0x80000000, 4), read(2, 0x7fffffff, 1),
		write(0, 0, 1, 0), write(0, 0, 2, 0), write(0, 0, 4, 0), write(3, 0x100, 2, 0x1234), write(7, last-3, 4, last), write(7, last-1, 2, 0xffff), write(7, last, 1, 0xff),
		write(0, 5, 1, 0xff), write(0, 6, 2, 0xffff), write(0, 8, 4, last), write(0, 6, 2, 0x100), write(0, 8, 4, 0x10000), write(0, 8, 4, 0x80000000),
	} {
		if !access.Right(a) {
			t.Errorf("%+v is not right", a)
		}
	}
}

func TestNotRight(t *testing.T) { // P4.1
	for _, a := range []api.Access{
		{}, {World: 1}, {Write: true}, read(-1, 0, 4), read(8, 0, 4), read(-1, 0, 1), read(8, last, 1), write(-1, 0, 4, 7), write(8, 0, 4, 7),
		read(1, 1, 2), read(1, 1, 4), read(1, 2, 4), read(1, 3, 2), read(1, 3, 4), write(1, 1, 2, 0), write(1, 2, 4, 0),
		read(1, last, 2), read(1, last, 4), read(1, last-1, 4), read(1, last-2, 2), read(1, last-2, 4), write(1, last, 2, 0), write(1, last-1, 4, 0),
		read(1, 0, 0), read(1, 0, 3), read(1, 0, -1), read(1, 0, 8), read(3, 3, 3), write(1, 0, 0, 0), write(1, 0, 3, 0), write(1, 0, 8, 0),
		write(1, 0, 1, 0x100), write(1, 0, 1, last), write(1, 0, 1, 0xff00), write(1, 0, 2, 0x10000), write(1, 0, 2, last), write(1, 0, 2, 0x80000000), write(1, 0, 1, 0x80000000),
		{World: 1, Size: 1, Data: 1}, {World: 1, Size: 2, Data: 1}, {World: 1, Size: 4, Data: 1}, {World: 1, Size: 4, Data: last}, {World: 1, Size: 1, Data: 0x100}, {World: 1, Size: 4, Data: 0x80000000},
	} {
		if access.Right(a) {
			t.Errorf("%+v is right", a)
		}
	}
}

func TestWorldsAndSizes(t *testing.T) { // P4.1: each that is one, and numbers that are none
	for _, a := range []api.Access{read(0, 0x100, 1), read(0, 0x100, 2), read(0, 0x100, 4), write(0, 0x100, 4, 9), write(0, last, 1, 9)} {
		for world := -300; world <= 300; world++ {
			a.World = world
			if is := access.Right(a); is != (world >= 0 && world <= 7) {
				t.Errorf("%+v: right is %v", a, is)
			}
		}
		for _, world := range noWorlds {
			a.World = world
			if access.Right(a) {
				t.Errorf("%+v is right", a)
			}
		}
		a.World = 5
		for _, size := range noSizes {
			a.Size = size
			for _, addr := range addrs() {
				a.Addr = addr
				if access.Right(a) {
					t.Errorf("%+v is right", a)
				}
			}
		}
	}
}

func TestReach(t *testing.T) { // P4.1
	for _, c := range []struct {
		a    api.Access
		want api.Reach
	}{
		{read(1, 0, 1), api.Reach{}}, {read(1, 0, 4), api.Reach{To: 3}}, {read(1, 16, 4), api.Reach{From: 16, To: 19}}, {read(1, 6, 2), api.Reach{From: 6, To: 7}}, {read(1, 7, 1), api.Reach{From: 7, To: 7}},
		{write(1, 0x100, 2, 0x1234), api.Reach{From: 0x100, To: 0x101}}, {write(0, 0x7ffffffe, 2, 0), api.Reach{From: 0x7ffffffe, To: 0x7fffffff}},
		{read(7, last, 1), api.Reach{From: last, To: last}}, {read(7, last-1, 2), api.Reach{From: last - 1, To: last}}, {write(7, last-3, 4, last), api.Reach{From: last - 3, To: last}}, {read(7, last-3, 2), api.Reach{From: last - 3, To: last - 2}},
	} {
		if got, is := access.Reach(c.a); got != c.want || !is {
			t.Errorf("the reach of %+v is %v, %v, not %v", c.a, got, is, c.want)
		}
	}
}

func TestOfAll(t *testing.T) { // P4.1: held against what is told another way
	for _, a := range all() {
		want := meantRight(a)
		if is := access.Right(a); is != want {
			t.Fatalf("%+v: right is %v", a, is)
		}
		reach := api.Reach{}
		if want {
			reach = api.Reach{From: a.Addr, To: a.Addr + uint32(a.Size) - 1}
		}
		if got, is := access.Reach(a); got != reach || is != want {
			t.Fatalf("the reach of %+v is %v, %v, not %v, %v", a, got, is, reach, want)
		}
	}
}

func TestReachOfNone(t *testing.T) { // P4.1: nothing beside the false, where but one thing is wrong
	l := []api.Access{{World: 1, Addr: 16, Size: 4, Data: 1}, read(1, 18, 4), write(1, 17, 2, 3), write(1, 16, 1, 0x100), write(1, last, 2, 3), read(1, last-1, 4)}
	for _, world := range noWorlds {
		l = append(l, read(world, 16, 4), write(world, 16, 1, 3))
	}
	for _, size := range noSizes {
		l = append(l, read(1, 0, size), write(1, 1<<31, size, 0))
	}
	for _, a := range l {
		if got, is := access.Reach(a); got != (api.Reach{}) || is {
			t.Errorf("the reach of %+v is %v, %v", a, got, is)
		}
	}
}

func TestReplies(t *testing.T) { // P4.3
	if got, want := access.Deny(), (api.Reply{Value: 0, Err: api.ErrDeny}); got != want {
		t.Errorf("Deny() is %v, not %v", got, want)
	}
	for _, v := range datas {
		if got, want := access.Done(v), (api.Reply{Value: v, Err: api.OK}); got != want {
			t.Errorf("Done(%#x) is %v, not %v", v, got, want)
		}
		if access.Done(v) == access.Deny() {
			t.Errorf("Done(%#x) is a denial", v)
		}
	}
}
