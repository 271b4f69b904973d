package scrub_test

import (
	"math"
	"slices"
	"testing"

	"septum/api"
	"septum/scrub"
)

// kinds are the six.
var kinds = []api.Kind{api.Ram, api.Timer, api.Uart, api.Mail, api.Rotor, api.Dma}

// times are how many ticks a device of each Kind is nobody's, as chapter 15 says.
var times = map[api.Kind]int{api.Ram: 16, api.Timer: 2, api.Uart: 4, api.Mail: 3, api.Rotor: 2, api.Dma: 5}

// far are numbers that are neither a device nor a world, some of which are one when they are cut to fewer bits.
var far = []int{math.MinInt, math.MinInt + 1, -1 << 62, 1 - 1<<32, -1 << 32, -1<<32 - 1, -1 << 31, -1 << 16, -256, -255, -128, -18, -17, -16, -15, 17, 18, 31, 32, 33, 127, 128, 255, 256, 257, 264, 1 << 16, 1<<16 + 1, 1 << 31, 1 << 32, 1<<32 + 1, 1<<32 + 7, 1 << 62, math.MaxInt - 1, math.MaxInt}

// noWorlds are numbers that are no world's.
var noWorlds = slices.Concat(far, []int{-9, -8, -7, -2, -1, 8, 9, 10, 15, 16})

// noDevices are numbers that no device of a row of so many has.
func noDevices(count int) []int {
	l := slices.Concat(far, []int{-8, -2, -1})
	for n := count; n <= 17; n++ {
		l = append(l, n)
	}
	return l
}

// of is a device at a place of its own, one for each number, that is a right one.
func of(n int, k api.Kind, owner int) api.Device {
	d := api.Device{Kind: k, Base: 0x40 * uint32(n), Size: 32, Owner: owner, Line: n%9 - 1}
	if k == api.Ram {
		d.Size = 4 + n%16*4
	}
	return d
}

// each is a device of each Kind, all a world's, or nobody's.
func each(owner int) []api.Device {
	var l []api.Device
	for n, k := range kinds {
		l = append(l, of(n, k, owner))
	}
	return l
}

// full are sixteen devices, of all Kinds, of each world and of nobody.
func full() []api.Device {
	var l []api.Device
	for n := range 16 {
		l = append(l, of(n, kinds[n%6], n%9-1))
	}
	return l
}

// whose is what a device is meant to be: from the cycle until on that world's, ahead of it nobody's; world -1 is nobody. So told, no tick has anything to do.
type whose struct {
	kind  api.Kind
	world int
	until int
}

// meant is what a row is meant to be, told by the cycle that it is.
type meant struct {
	now int
	l   []whose
}

func meantOf(l []api.Device) *meant {
	m := &meant{}
	for _, d := range l {
		m.l = append(m.l, whose{kind: d.Kind, world: d.Owner})
	}
	return m
}

func (m *meant) copy() *meant { return &meant{m.now, slices.Clone(m.l)} }

func (m *meant) has(n int) bool { return n >= 0 && n < len(m.l) }

func (m *meant) hold(n int) (api.Hold, bool) {
	if !m.has(n) {
		return api.Hold{}, false
	}
	w := m.l[n]
	if m.now < w.until {
		return api.Hold{Owner: -1, Left: w.until - m.now, Next: w.world}, true
	}
	return api.Hold{Owner: w.world, Left: 0, Next: -1}, true
}

func (m *meant) owner(n int) (int, bool) {
	if !m.has(n) || m.now < m.l[n].until || m.l[n].world == -1 {
		return 0, false
	}
	return m.l[n].world, true
}

func (m *meant) give(n, world int) api.Errno {
	switch {
	case !m.has(n) || world < 0 || world > 7:
		return api.ErrRange
	case m.now < m.l[n].until || m.l[n].world != -1:
		return api.ErrBusy
	}
	m.l[n].world = world
	return api.OK
}

// move is a take, where the world is -1.
func (m *meant) move(n, world int) api.Errno {
	switch {
	case !m.has(n) || world < -1 || world > 7:
		return api.ErrRange
	case m.now < m.l[n].until:
		return api.ErrBusy
	case m.l[n].world == -1:
		return api.ErrNone
	}
	m.l[n].world, m.l[n].until = world, m.now+times[m.l[n].kind]
	return api.OK
}

func (m *meant) tick() []int {
	m.now++
	var l []int
	for n, w := range m.l {
		if w.until == m.now {
			l = append(l, n)
		}
	}
	return l
}

// made is a row, and what it is meant to be.
func made(t *testing.T, l []api.Device) (*scrub.Row, *meant) {
	t.Helper()
	r, err := scrub.New(l)
	if r == nil || err != api.OK {
		t.Fatalf("New(%+v) is %p, %d", l, r, err)
	}
	return r, meantOf(l)
}

// check holds all that a row tells against what it is meant to tell, twice, with what was told changed behind it.
func check(t *testing.T, r *scrub.Row, m *meant) {
	t.Helper()
	for range 2 {
		if r.Len() != len(m.l) {
			t.Fatalf("Len() is %d, not %d", r.Len(), len(m.l))
		}
		var all []api.Hold
		for n := range m.l {
			checkDevice(t, r, m, n)
			h, _ := m.hold(n)
			all = append(all, h)
		}
		for _, n := range []int{math.MinInt, -1 << 32, -1, len(m.l), len(m.l) + 1, 256, 1 << 32, math.MaxInt} {
			checkDevice(t, r, m, n)
		}
		told := r.All()
		if !slices.Equal(told, all) || len(all) == 0 && told != nil {
			t.Fatalf("All() is %+v, not %+v", told, all)
		}
		for n := range told {
			told[n] = api.Hold{Owner: 6, Left: 7, Next: 5}
		}
		checkWorlds(t, r, m)
	}
}

func checkDevice(t *testing.T, r *scrub.Row, m *meant, n int) {
	t.Helper()
	want, wantIs := m.hold(n)
	if h, is := r.Hold(n); h != want || is != wantIs {
		t.Fatalf("Hold(%d) is %+v, %v, not %+v, %v", n, h, is, want, wantIs)
	}
	world, wantIs := m.owner(n)
	if w, is := r.Owner(n); w != world || is != wantIs {
		t.Fatalf("Owner(%d) is %d, %v, not %d, %v", n, w, is, world, wantIs)
	}
}

func checkWorlds(t *testing.T, r *scrub.Row, m *meant) {
	t.Helper()
	for world := -2; world <= 9; world++ {
		var want []int
		for n := range m.l {
			if w, is := m.owner(n); is && w == world {
				want = append(want, n)
			}
		}
		told := r.Of(world)
		if !slices.Equal(told, want) || len(want) == 0 && told != nil {
			t.Fatalf("Of(%d) is %v, not %v", world, told, want)
		}
		for n := range told {
			told[n] = 99
		}
	}
}

// give, take, move and tick do so to both, and hold what is answered against each other.
func give(t *testing.T, r *scrub.Row, m *meant, n, world int) api.Errno {
	t.Helper()
	err, want := r.Give(n, world), m.give(n, world)
	if err != want {
		t.Fatalf("Give(%d, %d) is %d, not %d", n, world, err, want)
	}
	return err
}

func take(t *testing.T, r *scrub.Row, m *meant, n int) api.Errno {
	t.Helper()
	err, want := r.Take(n), m.move(n, -1)
	if err != want {
		t.Fatalf("Take(%d) is %d, not %d", n, err, want)
	}
	return err
}

func move(t *testing.T, r *scrub.Row, m *meant, n, world int) api.Errno {
	t.Helper()
	want := api.ErrRange
	if world != -1 { // which is no world's number
		want = m.move(n, world)
	}
	err := r.Move(n, world)
	if err != want {
		t.Fatalf("Move(%d, %d) is %d, not %d", n, world, err, want)
	}
	return err
}

func tick(t *testing.T, r *scrub.Row, m *meant) []int {
	t.Helper()
	told, want := r.Tick(), m.tick()
	if !slices.Equal(told, want) || len(want) == 0 && told != nil {
		t.Fatalf("Tick() is %v, not %v", told, want)
	}
	return slices.Clone(told)
}
