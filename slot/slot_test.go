package slot_test

import (
	"math"
	"math/rand"
	"slices"
	"testing"

	"septum/api"
	"septum/slot"
)

func TestExample(t *testing.T) { // the chapter's example 1
	l := []int{0, 1, -1, 1}
	checkOwner(t, l, 6, -1)
	checkNext(t, l, 0, 1, 4, true)
	checkWait(t, l, 0, 3)
	checkWait(t, l, 1, 1)
	checkCount(t, l, 1, 2)
	checkTurn(t, l, 1, []int{1, -1, 1, 0})
}

func TestRightLengths(t *testing.T) { // P17.1: none, one, thirty-two, thirty-three, many
	for count := range 70 {
		for w := -1; w <= 7; w++ {
			if l := same(count, w); slot.Right(l) != (count >= 1 && count <= 32) {
				t.Errorf("Right(%v) is %v", l, slot.Right(l))
			}
		}
	}
	for _, l := range [][]int{nil, {}, make([]int, 0, 32), same(256, 0), same(257, 0), same(1<<16+1, 0), same(1<<20, 0)} {
		if slot.Right(l) {
			t.Errorf("%d slots are right", len(l))
		}
	}
}

func TestRightSlots(t *testing.T) { // P17.1: from -1 to 7, at each place
	for _, count := range []int{1, 2, 31, 32} {
		for k := range count {
			l := several(count)
			for w := -1; w <= 7; w++ {
				l[k] = w
				if !slot.Right(l) {
					t.Errorf("Right(%v) is false", l)
				}
			}
			for _, no := range noSlots {
				l[k] = no
				if slot.Right(l) {
					t.Errorf("Right(%v) is true", l)
				}
			}
		}
	}
}

func TestOwner(t *testing.T) { // P17.1: of the first cycle, the last one of a period, the first one of the next, the last one of all
	l := []int{3, -1, 0, 7, 5} // 2^40 is one more than a multiple of 5
	for at, want := range map[int]int{0: 3, 1: -1, 2: 0, 3: 7, 4: 5, 5: 3, 6: -1, 9: 5, 10: 3, last - 2: 5, last - 1: 3, last: -1} {
		checkOwner(t, l, at, want)
	}
	thirtyTwo := several(32)
	checkOwner(t, thirtyTwo, 31, thirtyTwo[31])
	checkOwner(t, thirtyTwo, 32, thirtyTwo[0])
	checkOwner(t, thirtyTwo, last-1, thirtyTwo[31])
	checkOwner(t, thirtyTwo, last, thirtyTwo[0])
	checkOwner(t, []int{6}, 0, 6)
	checkOwner(t, []int{6}, last, 6)
	checkOwner(t, []int{-1}, 7, -1)
}

func TestNoCycle(t *testing.T) { // P17.3: -1 of Owner, none of Next, All; whatever the slots and the world
	for _, l := range rows() {
		for _, no := range noCycles {
			checkOwner(t, l, no, -1)
			for w := -1; w <= 8; w++ {
				checkNext(t, l, w, no, 0, false)
			}
			for _, is := range []int{0, 1, 32, last - 1, last} {
				checkAll(t, l, no, is, nil)
				checkAll(t, l, is, no, nil)
			}
			for _, other := range noCycles {
				checkAll(t, l, no, other, nil)
			}
		}
	}
}

func TestNext(t *testing.T) { // P17.1: from its own cycle, from the one behind it, from the last one of a period, of a world that has none
	l := []int{0, 1, -1, 1}
	checkNext(t, l, 0, 0, 0, true)
	checkNext(t, l, 0, 1, 4, true)
	checkNext(t, l, 0, 3, 4, true)
	checkNext(t, l, 0, 4, 4, true)
	checkNext(t, l, 1, 0, 1, true)
	checkNext(t, l, 1, 1, 1, true)
	checkNext(t, l, 1, 2, 3, true)
	checkNext(t, l, 1, 3, 3, true)
	checkNext(t, l, 1, 4, 5, true)
	checkNext(t, l, 2, 0, 0, false)
	checkNext(t, same(32, -1), 0, 5, 0, false)
	checkNext(t, []int{7}, 7, 5, 5, true)
	checkNext(t, append(same(31, -1), 4), 4, 32, 63, true)
	checkNext(t, append([]int{4}, same(31, -1)...), 4, 33, 64, true)
}

func TestNextBehindTheLastCycle(t *testing.T) { // P17.1: what is next may lie a period behind 2^40
	l := []int{0, 1, -1, 1} // 2^40 is a multiple of 4
	checkNext(t, l, 0, last-1, last, true)
	checkNext(t, l, 0, last, last, true)
	checkNext(t, l, 1, last, last+1, true)
	checkNext(t, l, 2, last, 0, false)
	checkNext(t, append(same(31, -1), 4), 4, last, last+31, true)
	checkNext(t, []int{3, -1, 0, 7, 5}, 3, last, last+4, true) // and one more than one of 5
}

func TestNoWorld(t *testing.T) { // P17.3: though -1 is what a slot is that is nobody's
	for _, l := range rows() {
		for _, no := range noWorlds {
			for _, from := range []int{0, 1, 31, 32, last, -1, last + 1} {
				checkNext(t, l, no, from, 0, false)
			}
			checkCount(t, l, no, 0)
			checkWait(t, l, no, -1)
		}
	}
}

func TestCount(t *testing.T) { // P17.1
	l := []int{2, 0, 2, -1, 7, 2, 0, -1}
	for w, want := range []int{2, 0, 3, 0, 0, 0, 0, 1} {
		checkCount(t, l, w, want)
	}
	for _, count := range []int{1, 2, 31, 32} {
		checkCount(t, same(count, -1), 0, 0)
		checkCount(t, same(count, 5), 5, count)
		checkCount(t, same(count, 5), 4, 0)
	}
}

func TestWait(t *testing.T) { // P17.2: of one that has one slot of many, all, two side by side, none
	checkWait(t, append(same(31, -1), 4), 4, 31)
	checkWait(t, append([]int{4}, same(31, 2)...), 4, 31)
	checkWait(t, append([]int{4}, same(31, 2)...), 2, 1)
	checkWait(t, same(32, 6), 6, 0)
	checkWait(t, []int{6}, 6, 0)
	checkWait(t, []int{1, 2, 2, 1, 1}, 2, 3)
	checkWait(t, []int{2, 1, 1, 1, 2}, 2, 3) // side by side over the end of the period
	checkWait(t, []int{2, 1, 2, 1, 1, 1}, 2, 3)
	checkWait(t, []int{1, 1, 2, 1, 2, 1}, 2, 3)
	checkWait(t, []int{1, 1, 2, 1, 2, 1}, 3, -1)
	checkWait(t, same(32, 6), 5, -1)
	checkWait(t, same(32, -1), 0, -1)
}

func TestTurn(t *testing.T) { // P17.2: by nothing, by one, by the period, by more, by less than nothing, by numbers far beyond
	l := []int{0, 1, 2, -1, 7}
	for by, want := range map[int][]int{
		0: {0, 1, 2, -1, 7}, 1: {1, 2, -1, 7, 0}, 2: {2, -1, 7, 0, 1}, 4: {7, 0, 1, 2, -1}, 5: {0, 1, 2, -1, 7}, 6: {1, 2, -1, 7, 0}, 13: {-1, 7, 0, 1, 2},
		-1: {7, 0, 1, 2, -1}, -4: {1, 2, -1, 7, 0}, -5: {0, 1, 2, -1, 7}, -6: {7, 0, 1, 2, -1},
		math.MaxInt: {2, -1, 7, 0, 1}, math.MaxInt - 2: {0, 1, 2, -1, 7}, math.MinInt: {2, -1, 7, 0, 1}, math.MinInt + 3: {0, 1, 2, -1, 7}, // 2^63 is three more than a multiple of 5
	} {
		checkTurn(t, l, by, want)
	}
	for _, by := range turns {
		checkTurn(t, []int{3}, by, []int{3})
		checkTurn(t, same(32, -1), by, same(32, -1))
	}
}

func TestTurnIsNewMemory(t *testing.T) { // P17.2, R3: what was handed in stays, what is told is its own
	for _, l := range rows() {
		was := slices.Clone(l)
		for _, by := range turns {
			told := slot.Turn(l, by)
			again := slices.Clone(told)
			for k := range told {
				told[k] = 99
			}
			if !slices.Equal(l, was) {
				t.Fatalf("Turn(%v, %d) has it be %v", was, by, l)
			}
			checkTurn(t, l, by, again)
		}
	}
}

func TestTurnKeepsNothing(t *testing.T) { // R3: what was told stays when what was handed in is changed
	l := several(32)
	told := slot.Turn(l, 0)
	for k := range l {
		l[k] = 6
	}
	if !slices.Equal(told, several(32)) {
		t.Errorf("what was told is %v now", told)
	}
}

func TestAll(t *testing.T) { // P17.2: to one below, to the same one, to the next, to one far on
	l := []int{0, 1, -1, 1}
	checkAll(t, l, 1, 8, []turn{{1, 1}, {3, 1}, {4, 0}, {5, 1}, {7, 1}})
	checkAll(t, l, 3, 2, nil)
	checkAll(t, l, last, 0, nil)
	checkAll(t, l, 3, 3, nil)
	checkAll(t, l, 0, 0, nil)
	checkAll(t, l, last, last, nil)
	checkAll(t, l, 3, 4, []turn{{3, 1}})
	checkAll(t, l, 2, 3, nil)
	checkAll(t, l, 2, 4, []turn{{3, 1}})
	checkAll(t, l, last-4, last, []turn{{last - 4, 0}, {last - 3, 1}, {last - 1, 1}})
	checkAll(t, append(same(31, -1), 4), 0, 100, []turn{{31, 4}, {63, 4}, {95, 4}})
	checkAll(t, []int{7}, 5, 9, []turn{{5, 7}, {6, 7}, {7, 7}, {8, 7}})
	far := gone(slot.All(l, 0, 40000))
	if len(far) != 30000 || !slices.Equal(far, meantAll(l, 0, 40000)) {
		t.Errorf("to one far on there are %d", len(far))
	}
}

func TestAllOfNobody(t *testing.T) { // P17.2, R1: none, however far on the end is
	for _, count := range []int{1, 2, 31, 32} {
		for _, from := range []int{0, 1, 31, 32, last - 1, last} {
			checkAll(t, same(count, -1), from, last, nil)
		}
	}
}

func TestAllLeft(t *testing.T) { // P17.2: left in the midst, and gone through twice
	l := []int{0, 1, -1, 1}
	all := slot.All(l, 1, last)
	for most := range 6 {
		var told []turn
		for at, w := range all {
			if len(told) == most {
				break
			}
			told = append(told, turn{at, w})
		}
		if want := []turn{{1, 1}, {3, 1}, {4, 0}, {5, 1}, {7, 1}}[:most]; !slices.Equal(told, want) {
			t.Errorf("%v are gone through, not %v", told, want)
		}
	}
	all = slot.All(l, 2, 9)
	for range 2 {
		if told := gone(all); !slices.Equal(told, []turn{{3, 1}, {4, 0}, {5, 1}, {7, 1}, {8, 0}}) {
			t.Errorf("%v are gone through", told)
		}
	}
}

func TestAllOneInTheOther(t *testing.T) { // R4: each goes from the beginning on
	all := slot.All([]int{0, 1}, 4, 6)
	var told []turn
	for at, w := range all {
		told = append(told, turn{at, w})
		told = append(told, gone(all)...)
	}
	if !slices.Equal(told, []turn{{4, 0}, {4, 0}, {5, 1}, {5, 1}, {4, 0}, {5, 1}}) {
		t.Errorf("%v are gone through", told)
	}
}

func TestAllKeepsItsArgument(t *testing.T) { // R3: what was handed in may be changed ahead of it and on the way
	l := []int{0, 1, -1, 1}
	want := []turn{{0, 0}, {1, 1}, {3, 1}, {4, 0}, {5, 1}}
	all := slot.All(l, 0, 6)
	var told []turn
	for at, w := range all {
		told = append(told, turn{at, w})
		for k := range l {
			l[k] = 1<<40 + k
		}
	}
	if !slices.Equal(told, want) {
		t.Errorf("%v are gone through", told)
	}
	if told = gone(all); !slices.Equal(told, want) {
		t.Errorf("%v are gone through, behind a change", told)
	}
	wrong := []int{8}
	none := slot.All(wrong, 0, 6)
	wrong[0] = 1
	if told = gone(none); told != nil {
		t.Errorf("%v are gone through, of slots that were not right", told)
	}
}

func TestNotRight(t *testing.T) { // P17.3: at every call
	for _, l := range wrong() {
		was := slices.Clone(l)
		if slot.Right(l) {
			t.Errorf("Right(%.40v) is true", l)
		}
		for _, at := range []int{0, 1, 31, 32, last, -1, last + 1, math.MinInt, math.MaxInt} {
			checkOwner(t, l, at, -1)
			for w := -1; w <= 8; w++ {
				checkNext(t, l, w, at, 0, false)
			}
			if told := slot.Turn(l, at); told != nil {
				t.Errorf("Turn(%.40v, %d) is %.40v", l, at, told)
			}
			checkAll(t, l, 0, at, nil)
			checkAll(t, l, at, last, nil)
		}
		for _, w := range slices.Concat([]int{0, 1, 2, 3, 4, 5, 6, 7}, noWorlds) {
			checkCount(t, l, w, 0)
			checkWait(t, l, w, -1)
		}
		if !slices.Equal(l, was) {
			t.Errorf("%.40v is changed", was)
		}
	}
}

func TestNextOfNoSlot(t *testing.T) { // P17.3: what makes slots wrong is no one's either
	for _, no := range noSlots {
		l := []int{no, 1, no}
		checkNext(t, l, no, 0, 0, false)
		checkCount(t, l, no, 0)
		checkWait(t, l, no, -1)
	}
}

// froms are cycles about the edges of a period, from both ends.
func froms(period int) []int {
	l := []int{0, 1, last - 1, last}
	for _, many := range []int{1, 2, 1 << 20, last/period - 1, last / period} {
		for near := -2; near <= 2; near++ {
			if at := many*period + near; at >= 0 && at <= last {
				l = append(l, at)
			}
		}
	}
	return l
}

func TestPeriods(t *testing.T) { // P17.4: in each period as many as Count tells; from each cycle less than a period
	for _, l := range rows() {
		for _, from := range froms(len(l)) {
			var counts [api.MaxWorlds]int
			to := from + len(l)
			for at := from; at < min(to, last+1); at++ {
				if w := slot.Owner(l, at); w != -1 {
					checkNext(t, l, w, at, at, true)
				}
			}
			for _, w := range slot.All(l, from, to) { // none, if that is no cycle
				counts[w]++
			}
			for w, n := range counts {
				if to <= last {
					checkCount(t, l, w, n)
				}
			}
			for w := range counts {
				next, is := slot.Next(l, w, from)
				if is != (slot.Count(l, w) > 0) || is && (next < from || next-from > slot.Wait(l, w) || slot.Wait(l, w) >= len(l)) {
					t.Errorf("of %v %d waits from %d to %d, %v; %d at most", l, w, from, next, is, slot.Wait(l, w))
				}
			}
		}
	}
}

func TestWaitIsWaited(t *testing.T) { // P17.2, P17.4: from a cycle just so many, from none more
	for _, l := range rows() {
		for w := range api.MaxWorlds {
			most := -1
			for from := range 2 * len(l) {
				if next, is := slot.Next(l, w, from); is {
					most = max(most, next-from)
				}
			}
			checkWait(t, l, w, most)
		}
	}
}

func TestRows(t *testing.T) { // P17.1 to P17.4: the edges' rows from the edges' cycles
	for _, l := range rows() {
		for k, from := range froms(len(l)) {
			check(t, l, from, turns[k%len(turns)])
		}
		for _, by := range turns {
			check(t, l, 3, by)
		}
	}
}

func TestShortRows(t *testing.T) { // P17.1 to P17.4: all rows of up to five slots of nobody and of two worlds
	var all [][]int
	ends := [][]int{nil}
	for range 5 {
		var longer [][]int
		for _, l := range ends {
			for _, w := range []int{-1, 0, 7} {
				longer = append(longer, append(slices.Clone(l), w))
			}
		}
		ends = longer
		all = append(all, longer...)
	}
	for _, l := range all {
		for from := range 2*len(l) + 1 {
			check(t, l, from, from-len(l))
		}
	}
}

func TestRandomRows(t *testing.T) { // P17.1 to P17.4
	r := rand.New(rand.NewSource(17))
	for range 4000 {
		l := make([]int, 1+r.Intn(32))
		worlds := 1 + r.Intn(9)
		for k := range l {
			l[k] = r.Intn(worlds) - 1
		}
		from := r.Intn(200)
		if r.Intn(2) == 0 {
			from = r.Intn(last + 1)
		}
		check(t, l, from, int(r.Uint64()))
	}
}

func FuzzSlots(f *testing.F) { // P17.1 to P17.4
	f.Add([]byte{1, 2, 0, 2}, 6, 1)
	f.Add([]byte{8, 8, 8}, last, -1)
	f.Add([]byte{9}, -1, 0)
	f.Fuzz(func(t *testing.T, text []byte, from, by int) {
		l := make([]int, min(len(text), 40))
		right := len(l) >= 1 && len(l) <= 32
		for k := range l {
			l[k] = int(text[k])%11 - 2
			right = right && l[k] >= -1 && l[k] <= 7
		}
		switch {
		case !right && slot.Right(l):
			t.Errorf("Right(%v) is true", l)
		case !right:
			checkOwner(t, l, from, -1)
			checkNext(t, l, 1, from, 0, false)
			checkAll(t, l, from, last, nil)
		case from < 0 || from > last:
			checkOwner(t, l, from, -1)
			checkNext(t, l, l[0], from, 0, false)
			checkAll(t, l, from, last, nil)
		default:
			check(t, l, from, by)
		}
	})
}
