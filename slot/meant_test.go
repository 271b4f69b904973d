package slot_test

import (
	"iter"
	"math"
	"slices"
	"testing"

	"septum/slot"
)

const last = 1 << 40 // the last cycle

// far are numbers that are no world's, and no slots, some of which are when they are cut to fewer bits.
var far = []int{math.MinInt, math.MinInt + 1, -1 << 62, 1 - 1<<32, -1 << 32, -1<<32 - 1, -1 << 31, -1 << 16, -257, -256, -255, -128, 127, 128, 255, 256, 257, 263, 1 << 16, 1<<16 + 1, 1 << 31, 1<<32 - 1, 1 << 32, 1<<32 + 1, 1<<32 + 7, 1 << 62, math.MaxInt - 1, math.MaxInt}

// noWorlds are numbers that are no world's.
var noWorlds = slices.Concat(far, []int{-9, -8, -7, -3, -2, -1, 8, 9, 10, 15, 16})

// noSlots are numbers that no slot is.
var noSlots = slices.Concat(far, []int{-9, -8, -7, -3, -2, 8, 9, 10, 15, 16})

// noCycles are numbers that are no cycle.
var noCycles = []int{math.MinInt, math.MinInt + 1, -1 << 62, -last - 1, -last, -1 << 32, -1 << 31, -32, -4, -2, -1, last + 1, last + 2, last + 4, last + 32, 2 * last, 1 << 62, math.MaxInt - 1, math.MaxInt}

// turns are numbers by which slots are turned.
var turns = []int{math.MinInt, math.MinInt + 1, -1 << 62, -last, -1 << 32, -1<<32 - 1, -100, -65, -64, -63, -33, -32, -31, -8, -5, -4, -3, -2, -1, 0, 1, 2, 3, 4, 5, 8, 31, 32, 33, 63, 64, 65, 100, 1 << 31, 1 << 32, 1<<32 + 1, last, last + 1, 1 << 62, math.MaxInt - 1, math.MaxInt}

// same are so many slots of one world, or of nobody.
func same(count, w int) []int {
	l := make([]int, count)
	for k := range l {
		l[k] = w
	}
	return l
}

// several are so many slots, of nobody and of each world but 6.
func several(count int) []int {
	l := make([]int, count)
	for k := range l {
		l[k] = []int{3, -1, 0, 7, 3, 1, 4, -1, 5, 2, 2}[k%11]
	}
	return l
}

// rows are slots that are right, those that an edge is made of among them.
func rows() [][]int {
	l := [][]int{
		{0, 1, -1, 1}, {0, 1}, {1, 0}, {2, 2, 3}, {3, 2, 2}, {2, 3, 2}, {-1, 5}, {5, -1}, {-1, -1, 0}, {7, 6, 5, 4, 3, 2, 1, 0},
		append(same(31, -1), 4), append([]int{4}, same(31, -1)...), append(same(31, 4), 5), append(same(30, -1), 4, 4), append(append(same(16, 1), same(8, -1)...), same(8, 2)...),
	}
	for _, count := range []int{1, 2, 3, 4, 5, 7, 8, 16, 31, 32} {
		l = append(l, same(count, -1), same(count, 0), same(count, 7), several(count))
	}
	return l
}

// wrong are slots that are not right.
func wrong() [][]int {
	l := [][]int{nil, {}, several(33), several(34), several(64), several(4096), same(33, -1), same(33, 0), same(1<<20, 1)}
	for _, no := range noSlots {
		l = append(l, []int{no}, []int{no, 1}, []int{1, no}, []int{0, 1, no, 1}, same(32, no))
		for _, k := range []int{0, 15, 31} {
			row := several(32)
			row[k] = no
			l = append(l, row)
		}
	}
	return l
}

// meantOwner is whose a cycle's slot is, found by letting periods go, many at once first.
func meantOwner(l []int, t int) int {
	for many := len(l) << 45; many >= len(l); many >>= 1 {
		if t >= many {
			t -= many
		}
	}
	return l[t]
}

// meantNext is the next cycle of a world, found by going on cycle by cycle for more than any period.
func meantNext(l []int, w, t int) (int, bool) {
	for on := range 100 {
		if w >= 0 && meantOwner(l, t+on) == w {
			return t + on, true
		}
	}
	return 0, false
}

func meantCount(l []int, w int) int {
	if w < 0 {
		return 0
	}
	return len(l) - len(slices.DeleteFunc(slices.Clone(l), func(owner int) bool { return owner == w }))
}

// meantWait is the longest row of slots that are not a world's, found by going round twice.
func meantWait(l []int, w int) int {
	if meantCount(l, w) == 0 {
		return -1
	}
	most, now := 0, 0
	for _, owner := range slices.Concat(l, l) {
		now++
		if owner == w {
			now = 0
		}
		most = max(most, now)
	}
	return most
}

// turn is a cycle and whose it is.
type turn struct{ t, w int }

func meantAll(l []int, from, to int) []turn {
	var all []turn
	for t := from; t < to; t++ {
		if w := meantOwner(l, t); w >= 0 {
			all = append(all, turn{t, w})
		}
	}
	return all
}

// gone are what is gone through; where no test has so many, no more: one that fails ends, too.
func gone(all iter.Seq2[int, int]) []turn {
	var l []turn
	for t, w := range all {
		if len(l) > 40000 {
			break
		}
		l = append(l, turn{t, w})
	}
	return l
}

func checkOwner(t *testing.T, l []int, at, want int) {
	t.Helper()
	if w := slot.Owner(l, at); w != want {
		t.Errorf("Owner(%v, %d) is %d, not %d", l, at, w, want)
	}
}

func checkNext(t *testing.T, l []int, w, from, want int, wantIs bool) {
	t.Helper()
	if next, is := slot.Next(l, w, from); next != want || is != wantIs {
		t.Errorf("Next(%v, %d, %d) is %d, %v, not %d, %v", l, w, from, next, is, want, wantIs)
	}
}

func checkCount(t *testing.T, l []int, w, want int) {
	t.Helper()
	if n := slot.Count(l, w); n != want {
		t.Errorf("Count(%v, %d) is %d, not %d", l, w, n, want)
	}
}

func checkWait(t *testing.T, l []int, w, want int) {
	t.Helper()
	if n := slot.Wait(l, w); n != want {
		t.Errorf("Wait(%v, %d) is %d, not %d", l, w, n, want)
	}
}

func checkTurn(t *testing.T, l []int, by int, want []int) {
	t.Helper()
	if told := slot.Turn(l, by); !slices.Equal(told, want) {
		t.Errorf("Turn(%v, %d) is %v, not %v", l, by, told, want)
	}
}

func checkAll(t *testing.T, l []int, from, to int, want []turn) {
	t.Helper()
	if told := gone(slot.All(l, from, to)); !slices.Equal(told, want) {
		t.Errorf("All(%.40v, %d, %d) goes through %d, %v .., not %v", l, from, to, len(told), told[:min(len(told), 40)], want)
	}
}

// check holds all that is told of right slots, from a cycle on, against what is meant.
func check(t *testing.T, l []int, from, by int) {
	t.Helper()
	was := slices.Clone(l)
	checkOwner(t, l, from, meantOwner(l, from))
	for w := -2; w <= 9; w++ {
		next, is := meantNext(l, w, from)
		checkNext(t, l, w, from, next, is)
		checkCount(t, l, w, meantCount(l, w))
		checkWait(t, l, w, meantWait(l, w))
	}
	turned := slot.Turn(l, by)
	if len(turned) != len(l) {
		t.Fatalf("Turn(%v, %d) is %v", l, by, turned)
	}
	first := (by%len(l) + len(l)) % len(l)
	for k := range turned {
		if turned[k] != l[(k+first)%len(l)] {
			t.Errorf("Turn(%v, %d) is %v", l, by, turned)
		}
	}
	to := min(from+by&63, last)
	checkAll(t, l, from, to, meantAll(l, from, to))
	if !slot.Right(l) || !slices.Equal(l, was) {
		t.Errorf("%v is not right, or is %v now", was, l)
	}
}
