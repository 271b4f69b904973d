package fifo_test

import (
	"errors"
	"iter"
	"math"
	"slices"
	"testing"

	"septum/fifo"
)

// mosts are numbers for which a row is made: no room, room for one, for some, and for as many as there may ever be.
var mosts = []int{0, 1, 2, 3, 4, 5, 8, 13, 64, math.MaxInt - 1, math.MaxInt}

// of is a row of the things, put one by one.
func of[T any](t *testing.T, most int, things ...T) *fifo.Fifo[T] {
	t.Helper()
	f := fifo.New[T](most)
	if f == nil {
		t.Fatalf("New(%d) is none", most)
	}
	for i, x := range things {
		if !f.Put(x) {
			t.Fatalf("of %d there is no room for the thing %d", most, i)
		}
	}
	return f
}

// gone are what is gone through; their places must be those from 0 on.
func gone[T any](t *testing.T, all iter.Seq2[int, T]) []T {
	t.Helper()
	var l []T
	for i, x := range all {
		if i != len(l) {
			t.Errorf("the thing %d is told at the place %d", len(l), i)
		}
		l = append(l, x)
	}
	return l
}

// check holds all that a row tells, and leaves it as it is, against what it is meant to tell.
func check[T comparable](t *testing.T, f *fifo.Fifo[T], most int, things ...T) {
	t.Helper()
	if n, left := f.Len(), f.Left(); n != len(things) || left != most-len(things) {
		t.Fatalf("of %d there are %d, %d may be put still; not %d, %d", most, n, left, len(things), most-len(things))
	}
	var first T
	if len(things) > 0 {
		first = things[0]
	}
	if x, is := f.First(); x != first || is != (len(things) > 0) {
		t.Fatalf("First() is %v, %v, not %v", x, is, first)
	}
	if l := gone(t, f.All()); !slices.Equal(l, things) {
		t.Fatalf("%v are gone through, not %v", l, things)
	}
}

func checkPut[T any](t *testing.T, f *fifo.Fifo[T], x T, want bool) {
	t.Helper()
	if is := f.Put(x); is != want {
		t.Errorf("Put(%v) is %v", x, is)
	}
}

func checkTake[T comparable](t *testing.T, f *fifo.Fifo[T], want T) {
	t.Helper()
	if x, is := f.Take(); x != want || !is {
		t.Errorf("Take() is %v, %v, not %v", x, is, want)
	}
}

func checkTakeNone[T comparable](t *testing.T, f *fifo.Fifo[T]) {
	t.Helper()
	var none T
	if x, is := f.Take(); x != none || is {
		t.Errorf("Take() is %v, %v", x, is)
	}
}

func TestExample(t *testing.T) { // the chapter's example 1
	f := fifo.New[int](2)
	checkPut(t, f, 7, true)
	checkPut(t, f, 8, true)
	checkPut(t, f, 9, false)
	checkTake(t, f, 7)
	checkPut(t, f, 9, true)
	checkTake(t, f, 8)
	checkTake(t, f, 9)
	checkTakeNone(t, f)
}

func TestNew(t *testing.T) { // P5.1
	for _, most := range mosts {
		f := fifo.New[int](most)
		if f == nil {
			t.Fatalf("New(%d) is none", most)
		}
		check(t, f, most)
		checkTakeNone(t, f)
		if fifo.New[int](most) == f {
			t.Errorf("New(%d) is one row twice", most)
		}
	}
}

func TestNewBelowZero(t *testing.T) { // P5.1
	for _, most := range []int{-1, -2, -8, -1 << 31, 1 - 1<<32, 8 - 1<<32, -1 << 32, math.MinInt + 1, math.MinInt} {
		if fifo.New[int](most) != nil || fifo.New[struct{}](most) != nil || fifo.New[string](most) != nil {
			t.Errorf("New(%d) is a row", most)
		}
	}
}

func TestNoRoom(t *testing.T) { // P5.1
	f := fifo.New[int](0)
	for x := range 3 {
		checkPut(t, f, x, false)
		check(t, f, 0)
		checkTakeNone(t, f)
	}
	if n := f.Clear(); n != 0 {
		t.Errorf("Clear() is %d", n)
	}
	check(t, f.Copy(), 0)
}

func TestRoomForOne(t *testing.T) { // P5.1
	f := fifo.New[int](1)
	for x := range 9 {
		checkPut(t, f, x, true)
		checkPut(t, f, -1, false)
		check(t, f, 1, x)
		checkTake(t, f, x)
		check(t, f, 1)
		checkTakeNone(t, f)
	}
}

func TestGreatestRoom(t *testing.T) { // P5.1, P5.2
	for _, most := range []int{1 << 31, 1 << 32, 1 << 40, math.MaxInt - 1, math.MaxInt} {
		f := of(t, most, 1, 2, 3, 4, 5, 6, 7)
		checkTake(t, f, 1)
		check(t, f, most, 2, 3, 4, 5, 6, 7)
		check(t, f.Copy(), most, 2, 3, 4, 5, 6, 7)
		if n := f.Clear(); n != 6 {
			t.Errorf("Clear() is %d", n)
		}
		check(t, f, most)
	}
}

func TestFull(t *testing.T) { // P5.1: what has no room changes nothing, and there is room again for just what was taken
	for _, most := range []int{1, 2, 3, 4, 5, 7, 8, 9, 13, 16, 64, 100} {
		f := fifo.New[int](most)
		var want []int
		for x := range most {
			checkPut(t, f, x, true)
			want = append(want, x)
			check(t, f, most, want...)
		}
		for range 2 {
			checkPut(t, f, -1, false)
			check(t, f, most, want...)
		}
		checkTake(t, f, 0)
		checkPut(t, f, most, true)
		checkPut(t, f, -1, false)
		check(t, f, most, append(want[1:], most)...)
		for x := range most {
			checkTake(t, f, x+1)
		}
		check(t, f, most)
		checkTakeNone(t, f)
	}
}

func TestFirstStays(t *testing.T) { // P5.1
	f := of(t, 3, 7, 8)
	for range 3 {
		if x, is := f.First(); x != 7 || !is {
			t.Errorf("First() is %d, %v", x, is)
		}
		check(t, f, 3, 7, 8)
	}
	checkPut(t, f, 9, true)
	checkTake(t, f, 7)
	check(t, f, 3, 8, 9)
}

func TestEmpty(t *testing.T) { // P5.1, P5.2: one that never had a thing, one whose things were taken, one that was let go
	taken, cleared := of(t, 2, 7, 8), of(t, 2, 7, 8)
	checkTake(t, taken, 7)
	checkTake(t, taken, 8)
	cleared.Clear()
	for _, f := range []*fifo.Fifo[int]{fifo.New[int](2), taken, cleared} {
		for range 2 {
			checkTakeNone(t, f)
			check(t, f, 2)
			if n := f.Clear(); n != 0 {
				t.Errorf("Clear() is %d", n)
			}
			check(t, f.Copy(), 2)
		}
		checkPut(t, f, 9, true)
		check(t, f, 2, 9)
	}
}

func TestZeroThings(t *testing.T) { // P5.1: they are things like others
	f := of(t, 4, 0, 0, 5, 0)
	check(t, f, 4, 0, 0, 5, 0)
	checkPut(t, f, 0, false)
	for _, x := range []int{0, 0, 5, 0} {
		checkTake(t, f, x)
	}
	checkTakeNone(t, f)
}

func TestRoundAndRound(t *testing.T) { // P5.1, P5.4: at each fill, past the end of the places more than once
	for _, most := range mosts {
		for fill := 1; fill <= min(most, 20); fill++ {
			f := fifo.New[int](most)
			var want []int
			for x := range fill - 1 {
				checkPut(t, f, x, true)
				want = append(want, x)
			}
			for x := fill - 1; x < 100; x++ {
				checkPut(t, f, x, true)
				want = append(want, x)
				check(t, f, most, want...)
				checkTake(t, f, x-fill+1)
				want = want[1:]
				check(t, f, most, want...)
			}
		}
	}
}

func TestMany(t *testing.T) { // P5.1, P5.4
	const n = 1 << 18
	for _, most := range []int{n, n + 1, math.MaxInt} {
		f := fifo.New[int](most)
		for x := range n {
			f.Put(x)
		}
		if is := f.Put(n); is != (most > n) {
			t.Errorf("of %d the thing behind %d is put: %v", most, n, is)
		}
		for x := range n {
			if got, is := f.Take(); got != x || !is {
				t.Fatalf("of %d Take() is %d, %v, not %d", most, got, is, x)
			}
		}
	}
}

func TestClear(t *testing.T) { // P5.2
	for _, most := range []int{1, 2, 3, 5, 8, 64, math.MaxInt} {
		for turn := range 12 { // what stands first is another place each time
			f := fifo.New[int](most)
			for x := range turn {
				f.Put(x)
				f.Take()
			}
			for n := range min(most, 9) + 1 {
				var want []int
				for x := range n {
					checkPut(t, f, x+1, true)
					want = append(want, x+1)
				}
				check(t, f, most, want...)
				if got := f.Clear(); got != n {
					t.Fatalf("Clear() is %d, not %d", got, n)
				}
				check(t, f, most)
				checkTakeNone(t, f)
			}
		}
	}
}

func TestFilledAgain(t *testing.T) { // P5.2: a row that was let go has all its room
	f := of(t, 3, 1, 2, 3)
	checkTake(t, f, 1)
	f.Clear()
	for _, x := range []int{4, 5, 6} {
		checkPut(t, f, x, true)
	}
	checkPut(t, f, 7, false)
	check(t, f, 3, 4, 5, 6)
	checkTake(t, f, 4)
}

func TestAllStops(t *testing.T) { // P5.2: at each place, and changes nothing
	f := of(t, 5, 0, 0)
	f.Take()
	f.Take()
	want := []int{5, 6, 7, 8, 9}
	for _, x := range want {
		checkPut(t, f, x, true)
	}
	for stop := range want {
		var l []int
		f.All()(func(_, x int) bool {
			l = append(l, x)
			return len(l) <= stop
		})
		if !slices.Equal(l, want[:stop+1]) {
			t.Errorf("%v are gone through up to %d", l, stop)
		}
		check(t, f, 5, want...)
	}
}

func TestAllAgain(t *testing.T) { // P5.2: a going begins when it is begun, not when it is asked for
	f := of(t, 4, 1, 2)
	all := f.All()
	for range 2 {
		if l := gone(t, all); !slices.Equal(l, []int{1, 2}) {
			t.Errorf("%v are gone through", l)
		}
	}
	for range all {
		break
	}
	f.Take()
	f.Put(3)
	f.Put(4)
	if l := gone(t, all); !slices.Equal(l, []int{2, 3, 4}) {
		t.Errorf("%v are gone through", l)
	}
	f.Clear()
	if l := gone(t, all); len(l) != 0 {
		t.Errorf("%v are gone through", l)
	}
}

func TestChangedOnTheWay(t *testing.T) { // P5.2: what is gone through stands as it did at the beginning
	changes := map[string]func(f *fifo.Fifo[int]){
		"put":           func(f *fifo.Fifo[int]) { f.Put(9) },
		"take":          func(f *fifo.Fifo[int]) { f.Take() },
		"take and put":  func(f *fifo.Fifo[int]) { f.Take(); f.Put(9) },
		"clear":         func(f *fifo.Fifo[int]) { f.Clear() },
		"clear and put": func(f *fifo.Fifo[int]) { f.Clear(); f.Put(9); f.Put(9) },
		"put many":      func(f *fifo.Fifo[int]) { f.Put(9); f.Put(9); f.Put(9); f.Put(9); f.Put(9) },
	}
	for name, change := range changes {
		for _, most := range []int{4, 5, 64, math.MaxInt} {
			for turn := range 6 {
				f := fifo.New[int](most)
				for range turn {
					f.Put(0)
					f.Take()
				}
				want := []int{1, 2, 3, 4}
				for _, x := range want {
					f.Put(x)
				}
				var l []int
				for i, x := range f.All() {
					if i != len(l) {
						t.Errorf("%s: the thing %d is told at the place %d", name, len(l), i)
					}
					l = append(l, x)
					change(f)
				}
				if !slices.Equal(l, want) {
					t.Errorf("%s, of %d: %v are gone through", name, most, l)
				}
			}
		}
	}
}

func TestTakenOnTheWay(t *testing.T) { // P5.2: each change on the way is done, and one going does not touch another one
	f := of(t, 4, 1, 2, 3)
	var l []int
	for _, x := range f.All() {
		checkTake(t, f, x)
		for _, y := range f.All() {
			l = append(l, 10*x+y)
		}
		checkPut(t, f, x+3, true)
	}
	if want := []int{12, 13, 23, 24, 34, 35}; !slices.Equal(l, want) {
		t.Errorf("%v are gone through, not %v", l, want)
	}
	check(t, f, 4, 4, 5, 6)
}

func TestCopy(t *testing.T) { // P5.2
	for _, most := range []int{3, 4, 5, 64, math.MaxInt} {
		for turn := range 8 {
			f := fifo.New[int](most)
			for range turn {
				f.Put(0)
				f.Take()
			}
			for x := range 3 {
				f.Put(x)
			}
			c := f.Copy()
			if c == nil || c == f {
				t.Fatalf("Copy() is %p of %p", c, f)
			}
			check(t, c, most, 0, 1, 2)
			check(t, f, most, 0, 1, 2)
		}
	}
}

func TestCopyGoesApart(t *testing.T) { // P5.2: whichever of both is changed, whatever is done
	changes := map[string]struct {
		change func(f *fifo.Fifo[int])
		want   []int
	}{
		"put":          {func(f *fifo.Fifo[int]) { f.Put(9) }, []int{1, 2, 3, 9}},
		"take":         {func(f *fifo.Fifo[int]) { f.Take() }, []int{2, 3}},
		"take and put": {func(f *fifo.Fifo[int]) { f.Take(); f.Put(8); f.Put(9) }, []int{2, 3, 8, 9}},
		"clear":        {func(f *fifo.Fifo[int]) { f.Clear() }, nil},
		"filled again": {func(f *fifo.Fifo[int]) { f.Clear(); f.Put(7); f.Put(8) }, []int{7, 8}},
	}
	for name, c := range changes {
		t.Run(name, func(t *testing.T) {
			for _, most := range []int{4, 5, 64, math.MaxInt} {
				f := of(t, most, 0, 1, 2, 3)
				checkTake(t, f, 0)
				other := f.Copy()
				c.change(f)
				check(t, other, most, 1, 2, 3)
				check(t, f, most, c.want...)
				third := other.Copy()
				c.change(other)
				check(t, third, most, 1, 2, 3)
				check(t, other, most, c.want...)
				check(t, f, most, c.want...)
			}
		})
	}
}

func TestCopiesInTurn(t *testing.T) { // P5.2: both have room of their own
	f := of(t, 3, 1, 2)
	c := f.Copy()
	checkPut(t, f, 3, true)
	checkPut(t, c, 4, true)
	checkPut(t, f, 5, false)
	checkPut(t, c, 5, false)
	checkTake(t, f, 1)
	check(t, c, 3, 1, 2, 4)
	checkPut(t, f, 6, true)
	check(t, c, 3, 1, 2, 4)
	check(t, f, 3, 2, 3, 6)
}

// checkNone asks for all that is promised of no row, more than once, for nothing must have come of it.
func checkNone(t *testing.T, name string, f *fifo.Fifo[int]) {
	t.Helper()
	for range 2 {
		if f.Put(7) {
			t.Errorf("%s: there is room", name)
		}
		if x, is := f.Take(); x != 0 || is {
			t.Errorf("%s: Take() is %d, %v", name, x, is)
		}
		if x, is := f.First(); x != 0 || is {
			t.Errorf("%s: First() is %d, %v", name, x, is)
		}
		if n, left, gone := f.Len(), f.Left(), f.Clear(); n != 0 || left != 0 || gone != 0 {
			t.Errorf("%s: Len() is %d, Left() %d, Clear() %d", name, n, left, gone)
		}
		for i, x := range f.All() {
			t.Errorf("%s: %d is gone through at %d", name, x, i)
		}
		if f.Copy() != nil {
			t.Errorf("%s: there is a copy", name)
		}
	}
}

func TestNoRow(t *testing.T) { // P5.3
	checkNone(t, "nil", nil)
	checkNone(t, "of a number below 0", fifo.New[int](-1))
	var none *fifo.Fifo[int]
	checkNone(t, "a copy of none", none.Copy())
}

func TestRowOfNoCall(t *testing.T) { // P5.3, R5
	checkNone(t, "new", new(fifo.Fifo[int]))
	checkNone(t, "a literal", &fifo.Fifo[int]{})
	var zero fifo.Fifo[int]
	checkNone(t, "a variable", &zero)
	f := of(t, 4, 1, 2)
	value := *f
	checkNone(t, "a row's value", &value)
	check(t, f, 4, 1, 2) // what was asked of its value has not touched it
	for _, row := range []*fifo.Fifo[int]{fifo.New[int](0), f.Copy()} {
		value = *row
		checkNone(t, "another row's value", &value)
	}
}

func checkType[T comparable](t *testing.T, name string, things ...T) {
	t.Run(name, func(t *testing.T) {
		var none T
		f := fifo.New[T](len(things))
		for range 3 {
			for _, x := range things {
				checkPut(t, f, x, true)
			}
			checkPut(t, f, none, false)
			check(t, f, len(things), things...)
			check(t, f.Copy(), len(things), things...)
			for _, x := range things {
				checkTake(t, f, x)
			}
			checkTakeNone(t, f)
			check(t, f, len(things))
		}
	})
}

func TestTypes(t *testing.T) { // P5.1, P5.2: things of any type, their zero ones among them
	one, other := 1, 2
	err := errors.New("one")
	checkType(t, "int", 0, 1, -1, math.MaxInt, math.MinInt)
	checkType(t, "byte", byte(0), 255, 7, 0, 9)
	checkType(t, "uint32", uint32(0), math.MaxUint32, 1<<31)
	checkType(t, "bool", false, true, false)
	checkType(t, "string", "", "a", "", "ab")
	checkType(t, "float64", 0, 0.5, -1, math.Inf(1))
	checkType(t, "complex128", 0, 1i, -1-1i)
	checkType(t, "struct", struct{ a, b int }{}, struct{ a, b int }{1, 2}, struct{ a, b int }{})
	checkType(t, "empty struct", struct{}{}, struct{}{}, struct{}{})
	checkType(t, "array", [3]int{}, [3]int{1, 2, 3}, [3]int{0, 0, 4})
	checkType(t, "pointer", nil, &one, &other, nil, &one)
	checkType(t, "any", any(nil), 1, "a", nil, 2.5)
	checkType(t, "error", nil, err, nil)
	checkType(t, "row", nil, fifo.New[int](1), fifo.New[int](1))
}

func TestTypesThatAreNotHeldAgainstEachOther(t *testing.T) { // P5.1: slices, maps, functions
	slice := of(t, 3, []int{1}, nil, []int{2, 3})
	if l, is := slice.Take(); !slices.Equal(l, []int{1}) || !is {
		t.Errorf("Take() is %v, %v", l, is)
	}
	if l, is := slice.Take(); l != nil || !is {
		t.Errorf("Take() is %v, %v", l, is)
	}
	call := of(t, 1, func() int { return 7 })
	if f, is := call.Take(); !is || f() != 7 {
		t.Errorf("Take(): %v", is)
	}
	if f, is := call.Take(); f != nil || is {
		t.Errorf("Take(): %v", is)
	}
	table := of(t, 1, map[string]int{"a": 1})
	if m, is := table.First(); m["a"] != 1 || !is {
		t.Errorf("First() is %v, %v", m, is)
	}
}

func TestRowsAreApart(t *testing.T) { // R5: no row knows of another one
	a, b := of(t, 4, 1), of(t, 4, 2)
	checkPut(t, a, 3, true)
	check(t, b, 4, 2)
	b.Clear()
	check(t, a, 4, 1, 3)
}

// meant is a row that is told plainly: all that was put, and how many of these are gone.
type meant struct {
	most int
	put  []byte
	gone int
}

func (m *meant) things() []byte { return m.put[m.gone:] }

// play does to a row, and to what is meant, what a text says, and holds both against each other at each step.
func play(t *testing.T, most int, text []byte) {
	f, m := fifo.New[byte](most), &meant{most: most}
	for i, c := range text {
		switch c % 16 {
		case 0, 1, 2:
			if len(m.things()) == 0 {
				checkTakeNone(t, f)
				break
			}
			checkTake(t, f, m.things()[0])
			m.gone++
		case 3:
			if n := f.Clear(); n != len(m.things()) {
				t.Fatalf("Clear() is %d, not %d", n, len(m.things()))
			}
			m.gone = len(m.put)
		case 4: // goes on with the copy, and changes the row that was copied
			was := f
			f = f.Copy()
			was.Take()
			was.Put(c)
			was.Put(c)
		default:
			is := len(m.things()) < most
			checkPut(t, f, byte(i), is)
			if is {
				m.put = append(m.put, byte(i))
			}
		}
		check(t, f, most, m.things()...)
	}
}

func TestWhatFollows(t *testing.T) { // P5.4: what is taken is what was put, in that order; Len and Left are together the room
	seed := uint32(1)
	text := make([]byte, 2000)
	for i := range text {
		seed = seed*1664525 + 1013904223
		text[i] = byte(seed >> 24)
	}
	for _, most := range mosts {
		play(t, most, text)
	}
}

func FuzzRow(f *testing.F) { // P5.1, P5.2, P5.4
	f.Add(2, []byte{5, 5, 5, 0, 5, 0, 0, 0})
	f.Add(math.MaxInt, []byte{5, 6, 4, 7, 3, 8, 9, 0})
	f.Add(-1, []byte{5})
	f.Fuzz(func(t *testing.T, most int, text []byte) {
		if most < 0 {
			if fifo.New[byte](most) != nil {
				t.Errorf("New(%d) is a row", most)
			}
			return
		}
		play(t, most, text)
	})
}
