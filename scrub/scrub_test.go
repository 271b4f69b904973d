package scrub_test

import (
	"math"
	"math/rand"
	"slices"
	"testing"

	"septum/api"
	"septum/device"
	"septum/scrub"
	"septum/window"
)

func TestExample(t *testing.T) { // the chapter's example 1
	r, err := scrub.New([]api.Device{{Kind: api.Timer, Size: 32, Owner: 1, Line: -1}})
	if err != api.OK || r.Move(0, 2) != api.OK {
		t.Fatal(r, err)
	}
	if w, is := r.Owner(0); w != 0 || is || r.Take(0) != api.ErrBusy {
		t.Errorf("Owner(0) is %d, %v", w, is)
	}
	if l := r.Tick(); l != nil {
		t.Errorf("Tick() is %v", l)
	}
	if h, is := r.Hold(0); h != (api.Hold{Owner: -1, Left: 1, Next: 2}) || !is {
		t.Errorf("Hold(0) is %+v, %v", h, is)
	}
	if l := r.Tick(); !slices.Equal(l, []int{0}) {
		t.Errorf("Tick() is %v", l)
	}
	if w, is := r.Owner(0); w != 2 || !is || r.Give(0, 3) != api.ErrBusy || r.Take(0) != api.OK {
		t.Errorf("Owner(0) is %d, %v", w, is)
	}
	r.Tick()
	if l := r.Tick(); !slices.Equal(l, []int{0}) {
		t.Errorf("Tick() is %v", l)
	}
	if h, is := r.Hold(0); h != (api.Hold{Owner: -1, Left: 0, Next: -1}) || !is || r.Give(0, 3) != api.OK {
		t.Errorf("Hold(0) is %+v, %v", h, is)
	}
	if w, is := r.Owner(0); w != 3 || !is {
		t.Errorf("Owner(0) is %d, %v", w, is)
	}
}

func TestNew(t *testing.T) { // P16.1: a row of each length from none to sixteen, each device its Owner's or free
	for count := range 17 {
		l := full()[:count]
		r, m := made(t, l)
		for n := range l { // what was handed in is not kept
			l[n] = of(n, api.Ram, 7)
		}
		check(t, r, m)
		if other, _ := scrub.New(full()[:count]); other == r {
			t.Errorf("New of %d devices is one row twice", count)
		}
	}
	if r, err := scrub.New(nil); r == nil || err != api.OK || r.Len() != 0 {
		t.Errorf("New(nil) is %p, %d", r, err)
	}
}

func TestNewOfEachOwner(t *testing.T) { // P16.1: of each Kind, with each Owner and with none
	for _, k := range kinds {
		for owner := -1; owner <= 7; owner++ {
			r, m := made(t, []api.Device{of(0, k, owner)})
			check(t, r, m)
			if h, is := r.Hold(0); h != (api.Hold{Owner: owner, Next: -1}) || !is {
				t.Errorf("with the Owner %d Hold(0) is %+v, %v", owner, h, is)
			}
			if w, is := r.Owner(0); is != (owner >= 0) || w != max(owner, 0) {
				t.Errorf("with the Owner %d Owner(0) is %d, %v", owner, w, is)
			}
		}
	}
}

// wrong are rows of devices that are not right, each for one reason.
func wrong() [][]api.Device {
	good := of(1, api.Timer, 2)
	with := func(change func(d *api.Device)) []api.Device {
		d := good
		change(&d)
		return []api.Device{of(5, api.Mail, 1), d}
	}
	l := [][]api.Device{
		{{}}, make([]api.Device, 2), append(full(), of(16, api.Timer, 1)), make([]api.Device, 4096),
		{good, good}, {good, of(5, api.Mail, 1), good},
		with(func(d *api.Device) { d.Kind = 0 }), with(func(d *api.Device) { d.Kind = 7 }), with(func(d *api.Device) { d.Kind = -1 }), with(func(d *api.Device) { d.Kind = 1<<32 + 2 }),
		with(func(d *api.Device) { d.Size = 28 }), with(func(d *api.Device) { d.Size = 36 }), with(func(d *api.Device) { d.Size = 0 }), with(func(d *api.Device) { *d = of(1, api.Ram, 2); d.Size = 6 }), with(func(d *api.Device) { *d = of(1, api.Ram, 2); d.Size = 4100 }),
		with(func(d *api.Device) { d.Base = 0x42 }), with(func(d *api.Device) { d.Base = math.MaxUint32 - 27 }), with(func(d *api.Device) { d.Base = 0x124 }),
		with(func(d *api.Device) { d.Line = -2 }), with(func(d *api.Device) { d.Line = 8 }),
	}
	for _, owner := range noWorlds {
		if owner != -1 {
			l = append(l, with(func(d *api.Device) { d.Owner = owner }))
		}
	}
	return l
}

func TestNewOfNotRight(t *testing.T) { // P16.1: none, and ErrArg
	for _, l := range wrong() {
		if window.Right(l) {
			t.Fatalf("%+v is right", l)
		}
		was := slices.Clone(l)
		if r, err := scrub.New(l); r != nil || err != api.ErrArg {
			t.Errorf("New(%+v) is %p, %d", l, r, err)
		}
		if !slices.Equal(l, was) {
			t.Errorf("New has %+v be %+v", was, l)
		}
	}
}

func TestNewKeepsItsArgument(t *testing.T) { // P16.1, R3: what is handed in is not changed, whatever is done to the row
	l := full()
	r, _ := made(t, l)
	for n := range 16 {
		r.Give(n, 3)
		r.Move(n, 4)
	}
	r.Tick()
	if !slices.Equal(l, full()) {
		t.Errorf("what was handed in is %+v", l)
	}
}

func TestWhose(t *testing.T) { // P16.1: one that is free, a world's, scrubbed to be free, scrubbed to be a world's
	r, m := made(t, []api.Device{of(0, api.Uart, -1), of(1, api.Uart, 0), of(2, api.Uart, 5), of(3, api.Uart, 0), of(4, api.Uart, 5)})
	take(t, r, m, 2)
	move(t, r, m, 3, 5)
	tick(t, r, m)
	check(t, r, m)
	want := []api.Hold{{Owner: -1, Next: -1}, {Owner: 0, Next: -1}, {Owner: -1, Left: 3, Next: -1}, {Owner: -1, Left: 3, Next: 5}, {Owner: 5, Next: -1}}
	if l := r.All(); !slices.Equal(l, want) {
		t.Errorf("All() is %+v", l)
	}
	for n, h := range want {
		if told, is := r.Hold(n); told != h || !is {
			t.Errorf("Hold(%d) is %+v, %v", n, told, is)
		}
	}
	for n, want := range []int{-1, 0, -1, -1, 5} {
		if w, is := r.Owner(n); w != max(want, 0) || is != (want >= 0) {
			t.Errorf("Owner(%d) is %d, %v", n, w, is)
		}
	}
}

func TestOfWorlds(t *testing.T) { // P16.1: rising; of a world that has none, and of worlds that are none
	l := full()
	for n := range l {
		l[n].Owner = []int{3, -1, 0, 3, 7, 0, 3}[n%7]
	}
	r, m := made(t, l)
	check(t, r, m)
	for world, want := range map[int][]int{0: {2, 5, 9, 12}, 3: {0, 3, 6, 7, 10, 13, 14}, 7: {4, 11}, 1: nil, 2: nil, 4: nil, 5: nil, 6: nil} {
		if told := r.Of(world); !slices.Equal(told, want) || want == nil && told != nil {
			t.Errorf("Of(%d) is %v, not %v", world, told, want)
		}
	}
	for _, world := range noWorlds { // -1, too, though that is what a free one's Owner is
		if told := r.Of(world); told != nil {
			t.Errorf("Of(%d) is %v", world, told)
		}
	}
	take(t, r, m, 3)
	move(t, r, m, 6, 3) // neither is the world's while it is scrubbed
	if told := r.Of(3); !slices.Equal(told, []int{0, 7, 10, 13, 14}) {
		t.Errorf("Of(3) is %v", told)
	}
}

func TestNoDevice(t *testing.T) { // P16.1, P16.2: -1, the number behind the last one, numbers far beyond
	for count := range 17 {
		r, m := made(t, full()[:count])
		for _, n := range noDevices(count) {
			if h, is := r.Hold(n); h != (api.Hold{}) || is {
				t.Errorf("of %d devices Hold(%d) is %+v, %v", count, n, h, is)
			}
			if w, is := r.Owner(n); w != 0 || is {
				t.Errorf("of %d devices Owner(%d) is %d, %v", count, n, w, is)
			}
			for _, world := range []int{0, 1, 7, -1, 8} {
				if give, move := r.Give(n, world), r.Move(n, world); give != api.ErrRange || move != api.ErrRange {
					t.Errorf("of %d devices Give(%d, %d) is %d, Move %d", count, n, world, give, move)
				}
			}
			if err := r.Take(n); err != api.ErrRange {
				t.Errorf("of %d devices Take(%d) is %d", count, n, err)
			}
		}
		check(t, r, m)
	}
}

// states are rows of a device of each Kind that are all free, a world's, scrubbed to be free, scrubbed to be a world's.
func states(t *testing.T) map[string]func() (*scrub.Row, *meant) {
	had := func(does func(r *scrub.Row, m *meant, n int)) func() (*scrub.Row, *meant) {
		return func() (*scrub.Row, *meant) {
			r, m := made(t, each(3))
			for n := range kinds {
				does(r, m, n)
			}
			return r, m
		}
	}
	return map[string]func() (*scrub.Row, *meant){
		"free":          func() (*scrub.Row, *meant) { return made(t, each(-1)) },
		"root's":        func() (*scrub.Row, *meant) { return made(t, each(0)) },
		"a world's":     func() (*scrub.Row, *meant) { return made(t, each(7)) },
		"taken":         had(func(r *scrub.Row, m *meant, n int) { take(t, r, m, n) }),
		"moved":         had(func(r *scrub.Row, m *meant, n int) { move(t, r, m, n, 4) }),
		"moved to root": had(func(r *scrub.Row, m *meant, n int) { move(t, r, m, n, 0) }),
	}
}

func TestErrors(t *testing.T) { // P16.2: each error in its order, of what is free, a world's, scrubbed; with one nothing changes
	errs := map[string][2]api.Errno{ // of Give, and of Take and Move
		"free":          {api.OK, api.ErrNone},
		"root's":        {api.ErrBusy, api.OK},
		"a world's":     {api.ErrBusy, api.OK},
		"taken":         {api.ErrBusy, api.ErrBusy},
		"moved":         {api.ErrBusy, api.ErrBusy},
		"moved to root": {api.ErrBusy, api.ErrBusy},
	}
	for name, state := range states(t) {
		for n := range kinds {
			for world := range 8 {
				r, m := state()
				if err := give(t, r, m, n, world); err != errs[name][0] {
					t.Errorf("of one that is %s Give is %d", name, err)
				}
				check(t, r, m)
				r, m = state()
				if err := move(t, r, m, n, world); err != errs[name][1] {
					t.Errorf("of one that is %s Move is %d", name, err)
				}
				check(t, r, m)
			}
			r, m := state()
			if err := take(t, r, m, n); err != errs[name][1] {
				t.Errorf("of one that is %s Take is %d", name, err)
			}
			check(t, r, m)
		}
	}
}

func TestNoWorld(t *testing.T) { // P16.2: ErrRange ahead of all others, at both ends and far beyond; nothing changes
	for name, state := range states(t) {
		r, m := state()
		for n := range kinds {
			for _, world := range noWorlds {
				if give, move := r.Give(n, world), r.Move(n, world); give != api.ErrRange || move != api.ErrRange {
					t.Errorf("of one that is %s Give(%d, %d) is %d, Move %d", name, n, world, give, move)
				}
			}
		}
		check(t, r, m)
	}
}

func TestScrubbed(t *testing.T) { // P16.2, P16.3, P16.4: for as many ticks as its kind's time, whoever had it, whoever has it then
	for n, k := range kinds {
		for owner := range 8 {
			for next := -1; next <= 7; next++ {
				r, m := made(t, each(owner))
				if next == -1 {
					take(t, r, m, n)
				} else {
					move(t, r, m, n, next)
				}
				ticks := 0
				for {
					check(t, r, m)
					h, _ := r.Hold(n)
					if h.Left == 0 {
						break
					}
					if h != (api.Hold{Owner: -1, Left: device.Time(k) - ticks, Next: next}) {
						t.Fatalf("of Kind %d behind %d ticks Hold is %+v", k, ticks, h)
					}
					told := tick(t, r, m)
					ticks++
					if done := ticks == times[k]; slices.Equal(told, []int{n}) != done || (told == nil) == done {
						t.Fatalf("of Kind %d the tick %d tells %v", k, ticks, told)
					}
				}
				if h, _ := r.Hold(n); ticks != times[k] || h != (api.Hold{Owner: next, Next: -1}) {
					t.Errorf("of Kind %d Hold is %+v behind %d ticks", k, h, ticks)
				}
			}
		}
	}
}

func TestGivenBehindTaken(t *testing.T) { // P16.2, P16.3: given, and taken again, as from the beginning; scrubbed as long each time
	r, m := made(t, each(1))
	for round := range 3 {
		for n, k := range kinds {
			take(t, r, m, n)
			for range times[k] {
				if err := give(t, r, m, n, 2); err != api.ErrBusy {
					t.Fatalf("Give of what is scrubbed is %d", err)
				}
				tick(t, r, m)
			}
			if err := give(t, r, m, n, round); err != api.OK {
				t.Fatalf("Give of what was scrubbed is %d", err)
			}
			if err := give(t, r, m, n, round); err != api.ErrBusy { // to the one that has it, too
				t.Fatalf("Give of what was given is %d", err)
			}
			check(t, r, m)
		}
	}
}

func TestMovedToItsOwn(t *testing.T) { // P16.2, P16.4: it is scrubbed like any other
	r, m := made(t, each(6))
	for n := range kinds {
		move(t, r, m, n, 6)
	}
	if l := r.Of(6); l != nil {
		t.Errorf("Of(6) is %v", l)
	}
	var told []int
	for range 16 {
		told = append(told, tick(t, r, m)...)
		check(t, r, m)
	}
	if !slices.Equal(told, []int{1, 4, 3, 2, 5, 0}) || !slices.Equal(r.Of(6), []int{0, 1, 2, 3, 4, 5}) {
		t.Errorf("the ticks tell %v, Of(6) is %v", told, r.Of(6))
	}
}

func TestTicksOfSeveral(t *testing.T) { // P16.3: those that end at one tick are told together, rising, the others at theirs
	r, m := made(t, full())
	for n := 15; n >= 0; n-- { // those of nobody are not taken
		if n%2 == 0 {
			take(t, r, m, n)
		} else {
			move(t, r, m, n, 7-n/2)
		}
	}
	check(t, r, m)
	want := map[int][]int{2: {1, 4, 7, 10, 13}, 3: {3, 15}, 4: {2, 8, 14}, 5: {5, 11}, 16: {6, 12}}
	for cycle := 1; cycle <= 20; cycle++ {
		if told := tick(t, r, m); !slices.Equal(told, want[cycle]) {
			t.Errorf("the tick %d tells %v, not %v", cycle, told, want[cycle])
		}
		check(t, r, m)
	}
}

func TestTicksFromSeveralCycles(t *testing.T) { // P16.3: taken one behind the other, to end at one tick
	r, m := made(t, each(2))
	for cycle := range 16 {
		for n, k := range kinds {
			if 16-times[k] == cycle {
				move(t, r, m, n, 1)
			}
		}
		check(t, r, m)
		if told := tick(t, r, m); cycle < 15 && told != nil || cycle == 15 && !slices.Equal(told, []int{0, 1, 2, 3, 4, 5}) {
			t.Errorf("the tick %d tells %v", cycle, told)
		}
	}
	check(t, r, m)
}

func TestTicksWithoutScrubbed(t *testing.T) { // P16.3: nothing is told, nothing changes
	for _, l := range [][]api.Device{nil, each(-1), each(0), full()} {
		r, m := made(t, l)
		for range 40 {
			if told := tick(t, r, m); told != nil {
				t.Errorf("Tick() is %v", told)
			}
		}
		check(t, r, m)
	}
}

func TestWhatATickTellsIsNew(t *testing.T) { // P16.3, R3
	r, m := made(t, each(1))
	for n := range kinds {
		take(t, r, m, n)
	}
	for range 16 {
		want := m.tick()
		told := r.Tick()
		if !slices.Equal(told, want) {
			t.Fatalf("Tick() is %v, not %v", told, want)
		}
		for n := range told {
			told[n] = 0
		}
		check(t, r, m)
	}
}

func TestCopy(t *testing.T) { // P16.3: the same holds; either goes on by itself
	for seed := range int64(50) {
		by := rand.New(rand.NewSource(seed))
		r, m := made(t, full())
		for range 20 {
			some(t, by, r, m)
		}
		c, k := r.Copy(), m.copy()
		if c == nil || c == r {
			t.Fatalf("the copy of %p is %p", r, c)
		}
		check(t, c, k)
		for range 30 {
			some(t, by, r, m)
			check(t, c, k)
		}
		for range 30 {
			some(t, by, c, k)
			check(t, r, m)
		}
		check(t, c, k)
		check(t, c.Copy(), k)
	}
	empty, m := made(t, nil)
	if c := empty.Copy(); c == nil || c == empty {
		t.Errorf("the copy of a row of no device is %p", c)
	} else {
		check(t, c, m)
	}
}

// some does one of all that may be done.
func some(t *testing.T, by *rand.Rand, r *scrub.Row, m *meant) {
	t.Helper()
	n, world := by.Intn(len(m.l)+1), by.Intn(9)
	switch by.Intn(8) {
	case 0, 1:
		give(t, r, m, n, world)
	case 2:
		take(t, r, m, n)
	case 3, 4:
		move(t, r, m, n, world)
	default:
		tick(t, r, m)
	}
}

func TestNoDeviceIsTwoWorlds(t *testing.T) { // P16.4: each is one world's, or nobody's, whatever was done
	by := rand.New(rand.NewSource(1))
	r, m := made(t, full())
	for range 5000 {
		some(t, by, r, m)
		var count [16]int
		for world := -1; world <= 8; world++ {
			l := r.Of(world)
			for k, n := range l {
				count[n]++
				if w, is := r.Owner(n); w != world || !is || k > 0 && l[k-1] >= n {
					t.Fatalf("Of(%d) is %v, Owner(%d) %d, %v", world, l, n, w, is)
				}
			}
		}
		for n, h := range r.All() {
			if owned := h.Owner >= 0; count[n] > 1 || owned != (count[n] == 1) || owned && (h.Left != 0 || h.Next != -1) || h.Left < 0 || h.Left == 0 && h.Next != -1 {
				t.Fatalf("the hold %d is %+v, %d have it", n, h, count[n])
			}
		}
	}
	check(t, r, m)
}

// checkNone holds a row that is none against what is told of such.
func checkNone(t *testing.T, name string, r *scrub.Row) {
	t.Helper()
	for range 2 {
		for _, n := range slices.Concat([]int{0, 1, 5, 7, 15}, noDevices(0)) {
			h, is := r.Hold(n)
			w, owned := r.Owner(n)
			if h != (api.Hold{}) || is || w != 0 || owned || r.Of(n) != nil {
				t.Errorf("%s: Hold(%d) is %+v, %v, Owner %d, %v, Of %v", name, n, h, is, w, owned, r.Of(n))
			}
			for _, world := range []int{0, 3, 7, 8, -1, math.MinInt} { // ErrNil is ahead of ErrRange
				if give, move := r.Give(n, world), r.Move(n, world); give != api.ErrNil || move != api.ErrNil {
					t.Errorf("%s: Give(%d, %d) is %d, Move %d", name, n, world, give, move)
				}
			}
			if err := r.Take(n); err != api.ErrNil {
				t.Errorf("%s: Take(%d) is %d", name, n, err)
			}
		}
		if all, done, c := r.All(), r.Tick(), r.Copy(); r.Len() != 0 || all != nil || done != nil || c != nil {
			t.Errorf("%s: Len() is %d, All() %+v, Tick() %v, Copy() %p", name, r.Len(), all, done, c)
		}
	}
}

func TestNoRow(t *testing.T) { // P16.3, R5: nil, and such as neither New nor Copy answered
	checkNone(t, "nil", nil)
	checkNone(t, "new", new(scrub.Row))
	checkNone(t, "literal", &scrub.Row{})
	var variable scrub.Row
	checkNone(t, "variable", &variable)
	not, _ := scrub.New(wrong()[0])
	checkNone(t, "not right", not)
}

func TestValueOfARow(t *testing.T) { // P16.3, R5: what an assignment copies was not answered, and does nothing to the row that was
	r, m := made(t, full())
	take(t, r, m, 3)
	value := *r
	checkNone(t, "value", &value)
	check(t, r, m)
	other, _ := made(t, each(2))
	was := *other
	*other = *r
	checkNone(t, "another one's value", other)
	check(t, r, m)
	*other = was // it is as it was answered
	check(t, other, meantOf(each(2)))
}

// play does what a text says to a row and to what it is meant to be.
func play(t *testing.T, text []byte) {
	if len(text) == 0 {
		return
	}
	r, m := made(t, full()[:text[0]%17])
	for text = text[1:]; len(text) >= 3; text = text[3:] {
		n, world := int(text[1])%20-1, int(text[2])%10-1
		switch text[0] % 16 {
		case 0: // goes on with the copy
			was := r
			r = r.Copy()
			was.Give(n, 1)
			was.Take(n)
			was.Tick()
		case 1, 2, 3:
			give(t, r, m, n, world)
		case 4, 5:
			take(t, r, m, n)
		case 6, 7, 8:
			move(t, r, m, n, world)
		default:
			tick(t, r, m)
		}
	}
	check(t, r, m)
}

func TestPlays(t *testing.T) { // P16.1 to P16.4
	for seed := range int64(400) {
		text := make([]byte, 1200)
		rand.New(rand.NewSource(seed)).Read(text)
		play(t, text)
	}
}

func FuzzRow(f *testing.F) { // P16.1 to P16.4
	f.Add([]byte{6, 4, 2, 0, 9, 0, 0, 9, 0, 0, 1, 2, 3})
	f.Add([]byte{16, 6, 3, 4, 0, 3, 4, 9, 0, 0, 9, 0, 0, 6, 3, 3})
	f.Fuzz(func(t *testing.T, text []byte) {
		play(t, text[:min(len(text), 1200)])
	})
}
