package device_test

import (
	"math"
	"slices"
	"testing"

	"septum/api"
	"septum/device"
)

func TestInput(t *testing.T) { // P15.3: of a Uart with room and of one that is full; of all others nothing
	for _, k := range kinds {
		d, m := fresh(t, k, 32)
		for n := range 12 {
			if is := d.Input(byte(n)); is != (k == api.Uart && n < 8) {
				t.Errorf("of Kind %d Input is %v behind %d bytes", k, is, n)
			}
			m.uart.Input(byte(n))
			check(t, d, m)
		}
		if k != api.Uart && !d.Fresh() {
			t.Errorf("of Kind %d Input did something", k)
		}
		d, m = used(t, k)
		read(t, d, m, 0, 4)
		input(t, d, m, 7) // of a full Uart there is room again
		input(t, d, m, 8)
		check(t, d, m)
	}
}

func TestTick(t *testing.T) { // P15.3: of a Uart, a Timer; of all others nothing
	for _, k := range kinds {
		d, m := fresh(t, k, 32)
		for range 5 {
			tick(t, d, m)
			check(t, d, m)
		}
		if is := k == api.Uart; d.Fresh() == is { // its Phase is 1
			t.Errorf("of Kind %d Fresh() is %v behind five ticks", k, !is)
		}
		d, m = used(t, k)
		for range 40 {
			tick(t, d, m)
			check(t, d, m)
		}
	}
}

func TestTickOfATimer(t *testing.T) { // P15.3: it lets nothing go
	d, _ := fresh(t, api.Timer, 0)
	d.Write(4, 4, 3)
	d.Write(8, 4, 3)
	for n := range uint32(5) {
		if b, is := d.Tick(); b != 0 || is {
			t.Errorf("Tick() is %d, %v", b, is)
		}
		if v, _ := d.Read(0, 4); v != min(n+1, 3) || d.Line() != (n >= 2) {
			t.Errorf("behind %d ticks Count is %d, Line() is %v", n+1, v, d.Line())
		}
	}
}

func TestTickOfAUart(t *testing.T) { // P15.3: what it lets go, at each fourth one
	d, _ := fresh(t, api.Uart, 0)
	d.Write(0, 4, 0x107)
	d.Write(0, 4, 0)
	for n := 1; n <= 12; n++ {
		b, is := d.Tick()
		if out := n == 4 || n == 8; is != out || b != map[int]byte{4: 7}[n] {
			t.Errorf("Tick() is %d, %v, the %dth one", b, is, n)
		}
	}
}

func TestLine(t *testing.T) { // P15.3: of each Kind, with and without what makes it call
	begin := map[api.Kind]func(d *device.Device){
		api.Ram:   func(d *device.Device) { d.Write(0, 4, top) },
		api.Timer: func(d *device.Device) { d.Write(4, 4, 1); d.Write(8, 4, 7); d.Tick() },
		api.Uart:  func(d *device.Device) { d.Write(8, 4, 1); d.Input(0) },
		api.Mail:  func(d *device.Device) { d.Write(8, 4, 1); d.Write(0, 4, 0) },
		api.Rotor: func(d *device.Device) { d.Write(0, 4, top); d.Write(4, 4, top); d.Write(8, 4, 1) },
		api.Dma:   func(d *device.Device) { d.Write(12, 4, 257) },
	}
	end := map[api.Kind]func(d *device.Device){
		api.Timer: func(d *device.Device) { d.Write(12, 4, 1) },
		api.Uart:  func(d *device.Device) { d.Read(0, 4) },
		api.Mail:  func(d *device.Device) { d.Read(0, 4) },
		api.Dma:   func(d *device.Device) { d.Write(16, 4, 1) },
	}
	silence := map[api.Kind][2]uint32{api.Timer: {8, 5}, api.Uart: {8, 2}, api.Mail: {8, 2}, api.Dma: {12, 0xff}}
	for _, k := range kinds {
		calls := k != api.Ram && k != api.Rotor
		for _, reset := range []func(d *device.Device){end[k], func(d *device.Device) { d.Write(int(silence[k][0]), 4, silence[k][1]) }, (*device.Device).Reset} {
			d, _ := fresh(t, k, 8)
			if d.Line() {
				t.Errorf("a fresh one of Kind %d calls", k)
			}
			begin[k](d)
			if is := d.Line(); is != calls || d.Fresh() {
				t.Errorf("of Kind %d Line() is %v", k, is)
			}
			if calls {
				reset(d)
			}
			if d.Line() {
				t.Errorf("of Kind %d Line() is true still", k)
			}
		}
	}
}

// begun is a Dma that moves words.
func begun(t *testing.T, from, to, words, ctrl uint32) (*device.Device, *meant) {
	t.Helper()
	d, m := fresh(t, api.Dma, 0)
	for n, v := range []uint32{from, to, words, ctrl} {
		write(t, d, m, 4*n, 4, v)
	}
	return d, m
}

func TestBusy(t *testing.T) { // P15.3: a Dma that is, from when it begins till it is done, denied, stopped; no other Kind, whatever was done
	for _, k := range kinds {
		d, _ := used(t, k)
		if is := d.Busy(); is != (k == api.Dma) {
			t.Errorf("of Kind %d Busy() is %v", k, is)
		}
	}
	for name, end := range map[string]func(d *device.Device, m *meant){
		"done":    func(d *device.Device, m *meant) { step(t, d, m, 1, api.Reply{}); step(t, d, m, 1, api.Reply{}) },
		"denied":  func(d *device.Device, m *meant) { step(t, d, m, 1, api.Reply{Err: api.ErrDeny}) },
		"stopped": func(d *device.Device, m *meant) { write(t, d, m, 12, 4, 0) },
		"reset":   func(d *device.Device, m *meant) { d.Reset(); m.reset() },
	} {
		d, m := begun(t, 0x10, 0x20, 1, 1)
		if !d.Busy() || !d.Copy().Busy() {
			t.Errorf("%s: not busy ahead", name)
		}
		end(d, m)
		if d.Busy() || d.Copy().Busy() {
			t.Errorf("%s: busy still", name)
		}
		check(t, d, m)
	}
}

func TestStep(t *testing.T) { // P15.3: who is asked for what; of a Dma that is not busy, and of all others, nobody
	for _, k := range kinds {
		d, m := used(t, k)
		for n, r := range []api.Reply{{Value: 5}, {Value: 6}, {Value: 7}, {Value: 8}, {Value: 9, Err: api.ErrDeny}, {}} {
			step(t, d, m, n, r)
			check(t, d, m)
		}
	}
	d, _ := begun(t, 0x10, 0x20, 1, 257)
	var asked []api.Access
	ask := func(a api.Access) api.Reply {
		asked = append(asked, a)
		return api.Reply{Value: 7}
	}
	if !d.Step(3, ask) || !d.Step(4, ask) || d.Step(5, ask) || !d.Line() || d.Busy() {
		t.Errorf("%x", d.Look())
	}
	if !slices.Equal(asked, []api.Access{{World: 3, Addr: 0x10, Size: 4}, {World: 4, Write: true, Addr: 0x20, Size: 4, Data: 7}}) {
		t.Errorf("asks %+v", asked)
	}
}

func TestStepDenied(t *testing.T) { // P15.3: at the read, and at the write
	for n := range 4 {
		for _, err := range []api.Errno{api.ErrNil, api.ErrDeny, api.ErrCommand, -1, math.MaxInt} {
			d, m := begun(t, top-3, 0x20, 2, 257)
			for range n {
				step(t, d, m, 0, api.Reply{Value: 3})
			}
			step(t, d, m, 0, api.Reply{Value: 3, Err: err})
			check(t, d, m)
			if !d.Line() || d.Busy() {
				t.Errorf("denied behind %d steps: %x", n, d.Look())
			}
			step(t, d, m, 0, api.Reply{Value: 3})
			check(t, d, m)
		}
	}
}

func TestStepOfNoAsk(t *testing.T) { // P15.3: of each Kind there is no step, and nothing changes
	for _, k := range kinds {
		d, m := used(t, k)
		for _, world := range []int{math.MinInt, -1, 0, 7, 8, math.MaxInt} {
			if d.Step(world, nil) {
				t.Errorf("of Kind %d a step without an ask", k)
			}
		}
		check(t, d, m)
	}
}

func TestStepsOfNoWorld(t *testing.T) { // P15.3: whoever it is
	for _, world := range []int{math.MinInt, -1, 0, 7, 8, math.MaxInt} {
		d, m := begun(t, 0, 0x20, 2, 1)
		for range 5 {
			step(t, d, m, world, api.Reply{Value: uint32(world)})
		}
		check(t, d, m)
	}
}

func TestAskThatTouchesTheDevice(t *testing.T) { // R1, P15.3 to P15.5: that panics, asks the device itself, resets it
	d, m := begun(t, 0x10, 0x20, 2, 257)
	if !d.Step(1, func(api.Access) api.Reply { panic("no") }) {
		t.Error("no step")
	}
	m.engine.Step(1, func(api.Access) api.Reply { return api.Reply{Err: api.ErrDeny} })
	check(t, d, m)

	d, m = begun(t, 0x10, 0x20, 2, 257)
	ask := func(api.Access) api.Reply {
		d.Write(0, 4, 99) // of a busy one nothing
		v, is := d.Read(12, 4)
		if v != 257 || !is || d.Step(1, func(api.Access) api.Reply { return api.Reply{} }) {
			t.Errorf("asked for, Read(12, 4) is %d, %v", v, is)
		}
		return api.Reply{Value: 7}
	}
	if !d.Step(1, ask) {
		t.Error("no step")
	}
	m.engine.Step(1, func(api.Access) api.Reply { return api.Reply{Value: 7} })
	check(t, d, m)

	if !d.Step(1, func(api.Access) api.Reply { d.Reset(); return api.Reply{Value: 7} }) {
		t.Error("no step")
	}
	m.reset()
	check(t, d, m)
}

func TestReset(t *testing.T) { // P15.4, P15.5: of each Kind, whatever was done ahead, and all that it tells behind
	for _, k := range kinds {
		for _, was := range []func(t *testing.T, k api.Kind) (*device.Device, *meant){used, func(t *testing.T, k api.Kind) (*device.Device, *meant) { return fresh(t, k, 40) }} {
			d, m := was(t, k)
			for range 2 {
				d.Reset()
				m.reset()
				check(t, d, m)
				if !d.Fresh() {
					t.Errorf("of Kind %d not fresh behind Reset()", k)
				}
			}
			goOn(t, d, m)
		}
	}
}

// goOn does to both what shows whether they have the same.
func goOn(t *testing.T, d *device.Device, m *meant) {
	t.Helper()
	for n := range 12 {
		for off := 0; off < 32; off += 4 {
			read(t, d, m, off, 4)
			write(t, d, m, off, 4, uint32(n+1)*uint32(off+1))
		}
		input(t, d, m, byte(n))
		tick(t, d, m)
		step(t, d, m, n, api.Reply{Value: uint32(n)})
		checkLook(t, d, m)
	}
	check(t, d, m)
}

func TestLook(t *testing.T) { // P15.4: what each Kind has, as a row of words, fresh and used
	for _, c := range []struct {
		kind api.Kind
		do   func(d *device.Device)
		want []uint32
	}{
		{api.Ram, func(d *device.Device) {}, []uint32{0, 0}},
		{api.Ram, func(d *device.Device) { d.Write(0, 1, 1); d.Write(1, 1, 2); d.Write(6, 2, 0x403) }, []uint32{0x201, 0x4030000}},
		{api.Timer, func(d *device.Device) {}, []uint32{0, 0, 0, 0}},
		{api.Timer, func(d *device.Device) { d.Write(0, 4, 1); d.Write(4, 4, 2); d.Write(8, 4, 3); d.Tick() }, []uint32{2, 2, 2, 1}},
		{api.Uart, func(d *device.Device) {}, []uint32{0, 0, 0, 0, 0}},
		{api.Uart, func(d *device.Device) { d.Input(9) }, []uint32{1, 9, 0, 0, 0, 0}},
		{api.Uart, func(d *device.Device) { d.Write(0, 4, 9) }, []uint32{0, 1, 9, 0, 0, 0}},
		{api.Uart, func(d *device.Device) {
			d.Input(5)
			d.Input(6)
			d.Write(0, 4, 7)
			d.Write(8, 4, 1)
			d.Tick()
			d.Tick()
		}, []uint32{2, 5, 6, 1, 7, 0, 1, 2}},
		{api.Uart, func(d *device.Device) { d.Tick(); d.Tick(); d.Tick() }, []uint32{0, 0, 0, 0, 3}},
		{api.Uart, func(d *device.Device) { fill(d, 9, 0) }, []uint32{8, 1, 2, 3, 4, 5, 6, 7, 8, 0, 1, 0, 0}},
		{api.Uart, func(d *device.Device) { fill(d, 0, 9) }, []uint32{0, 8, 1, 2, 3, 4, 5, 6, 7, 8, 2, 0, 0}},
		{api.Uart, func(d *device.Device) { fill(d, 9, 9) }, []uint32{8, 1, 2, 3, 4, 5, 6, 7, 8, 8, 1, 2, 3, 4, 5, 6, 7, 8, 3, 0, 0}},
		{api.Uart, func(d *device.Device) { fill(d, 9, 9); d.Write(12, 4, 0) }, []uint32{8, 1, 2, 3, 4, 5, 6, 7, 8, 8, 1, 2, 3, 4, 5, 6, 7, 8, 0, 0, 0}},
		{api.Mail, func(d *device.Device) {}, []uint32{0, 0, 0}},
		{api.Mail, func(d *device.Device) { d.Write(0, 4, top); d.Write(0, 4, 6); d.Write(8, 4, 1) }, []uint32{2, top, 6, 1, 0}},
		{api.Mail, func(d *device.Device) { fill(d, 0, 6) }, []uint32{4, 1, 2, 3, 4, 0, 2}},
		{api.Rotor, func(d *device.Device) {}, []uint32{0, 0}},
		{api.Rotor, func(d *device.Device) { d.Write(0, 4, 0x20003); d.Write(12, 4, 1) }, []uint32{0x3fffe, 1}},
		{api.Dma, func(d *device.Device) {}, []uint32{0, 0, 0, 0, 0}},
		{api.Dma, func(d *device.Device) { d.Write(0, 4, 1); d.Write(4, 4, 2); d.Write(8, 4, 3) }, []uint32{1, 2, 3, 0, 0}},
		{api.Dma, func(d *device.Device) { d.Write(8, 4, 3); d.Write(12, 4, 1) }, []uint32{0, 0, 3, 0, 1}},
		{api.Dma, func(d *device.Device) { d.Write(8, 4, 3); d.Write(12, 4, 1); d.Step(0, deny) }, []uint32{0, 0, 3, 0, 2}},
		{api.Dma, func(d *device.Device) { d.Write(12, 4, 1) }, []uint32{0, 0, 0, 0, 4}},
		{api.Dma, func(d *device.Device) { d.Write(8, 4, 3); d.Write(12, 4, 1); d.Step(0, nine) }, []uint32{4, 0, 3, 9, 9}},
		{api.Dma, func(d *device.Device) { d.Write(12, 4, 256) }, []uint32{0, 0, 0, 0, 256}},
		{api.Dma, everyBit, []uint32{4, 0, 3, 9, 1 + 2 + 4 + 8 + 256}},
	} {
		d, _ := fresh(t, c.kind, 8)
		c.do(d)
		if l := d.Look(); !slices.Equal(l, c.want) {
			t.Errorf("of Kind %d Look() is %x, not %x", c.kind, l, c.want)
		}
		if is := d.Fresh(); is != (slices.Max(c.want) == 0) {
			t.Errorf("of Kind %d Fresh() is %v, of %x", c.kind, is, c.want)
		}
	}
}

func deny(api.Access) api.Reply { return api.Reply{Err: api.ErrDeny} }

func nine(api.Access) api.Reply { return api.Reply{Value: 9} }

// fill lets bytes come, and writes some.
func fill(d *device.Device, come, written int) {
	for n := range come {
		d.Input(byte(n + 1))
	}
	for n := range written {
		d.Write(0, 4, uint32(n+1))
	}
}

// everyBit brings a Dma to have all that it may have.
func everyBit(d *device.Device) {
	d.Write(12, 4, 1) // done
	d.Write(8, 4, 3)
	d.Write(12, 4, 1)
	d.Step(0, deny)
	d.Write(12, 4, 257)
	d.Step(0, nine)
}

func TestLookIsNewMemory(t *testing.T) { // R3: whatever is done to it, or to the device behind
	for _, k := range kinds {
		d, m := used(t, k)
		l, other := d.Look(), d.Look()
		for i := range l {
			l[i] = ^l[i]
		}
		_ = append(l[:1], 0xdd)
		check(t, d, m)
		was := m.look()
		goOn(t, d, m)
		d.Reset()
		if !slices.Equal(other, was) {
			t.Errorf("of Kind %d what was told is %x now, not %x", k, other, was)
		}
	}
}

func TestFresh(t *testing.T) { // P15.4: one that was used, and has what a fresh one has
	back := map[api.Kind]func(d *device.Device){
		api.Ram: func(d *device.Device) { d.Write(4, 4, 1); d.Write(4, 4, 0) },
		api.Timer: func(d *device.Device) {
			d.Write(0, 4, 1)
			d.Write(8, 4, 4)
			d.Tick()
			d.Write(8, 4, 8)
			d.Write(0, 4, 0)
		},
		api.Uart: func(d *device.Device) {
			d.Input(1)
			d.Read(0, 4)
			d.Write(0, 4, 5)
			d.Tick()
			d.Tick()
			d.Tick()
			d.Tick()
		},
		api.Mail:  func(d *device.Device) { d.Write(0, 4, 1); d.Read(0, 4); d.Read(0, 4) },
		api.Rotor: func(d *device.Device) { d.Write(0, 4, 1); d.Write(0, 4, 0) },
		api.Dma:   func(d *device.Device) { d.Write(12, 4, 257); d.Write(16, 4, 0); d.Write(12, 4, 0) },
	}
	for _, k := range kinds {
		d, m := fresh(t, k, 8)
		back[k](d)
		if !d.Fresh() {
			t.Errorf("of Kind %d Fresh() is false, of %x", k, d.Look())
		}
		check(t, d, m)
	}
	for _, bytes := range []int{4, 8, 4096} {
		for off := range bytes {
			d, _ := fresh(t, api.Ram, bytes)
			d.Write(off, 1, 0x80)
			if d.Fresh() {
				t.Fatalf("of a Ram of %d bytes Fresh() is true, written at %d", bytes, off)
			}
		}
	}
}

func TestCopy(t *testing.T) { // P15.4: one that has the same; either of the two changed behind it
	for _, k := range kinds {
		for _, first := range []bool{false, true} {
			d, m := used(t, k)
			c, n := d.Copy(), m.copied()
			if c == nil || c == d {
				t.Fatalf("of Kind %d Copy() is %p", k, c)
			}
			check(t, c, n)
			if first {
				c, d, m, n = d, c, n, m
			}
			goOn(t, c, n)
			check(t, d, m)
			c.Reset()
			n.reset()
			check(t, d, m)
			third, o := d.Copy(), m.copied()
			goOn(t, d, m)
			check(t, c, n)
			d.Reset()
			check(t, third, o)
			goOn(t, third, o)
		}
		d, m := fresh(t, k, 12)
		c, n := d.Copy(), m.copied()
		goOn(t, c, n)
		c.Reset()
		if check(t, d, m); !c.Fresh() || !d.Fresh() || len(c.Look()) != len(d.Look()) {
			t.Errorf("of Kind %d a copy of a fresh one, reset, is %x", k, c.Look())
		}
	}
}

// checkNone asks for all that is promised of no device, more than once, for nothing must have come of it.
func checkNone(t *testing.T, name string, d *device.Device) {
	t.Helper()
	for range 2 {
		for _, size := range slices.Concat([]int{1, 2, 4}, noSizes) {
			for _, off := range offsets(32) {
				if v, is := d.Read(off, size); v != 0 || is || d.Write(off, size, 1) {
					t.Errorf("%s: Read(%d, %d) is %d, %v", name, off, size, v, is)
				}
			}
		}
		b, out := d.Tick()
		asked := false
		stepped := d.Step(1, func(api.Access) api.Reply { asked = true; return api.Reply{} })
		if b != 0 || out || d.Input(1) || stepped || asked || d.Step(1, nil) {
			t.Errorf("%s: Tick() is %d, %v, Step is %v", name, b, out, stepped)
		}
		d.Reset()
		if k, l, c := d.Kind(), d.Look(), d.Copy(); k != 0 || l != nil || c != nil || d.Line() || d.Busy() || d.Fresh() {
			t.Errorf("%s: Kind() is %d, Look() %x, Copy() %p, Fresh() %v", name, k, l, c, d.Fresh())
		}
	}
}

func TestNoDevice(t *testing.T) { // P15.4, R5: nil, made without New or Copy, the value of one
	checkNone(t, "nil", nil)
	d, _ := device.New(api.Device{})
	checkNone(t, "of none", d)
	checkNone(t, "a copy of none", d.Copy())
	checkNone(t, "new", new(device.Device))
	checkNone(t, "a literal", &device.Device{})
	var zero device.Device
	checkNone(t, "a variable", &zero)
	for _, k := range kinds {
		d, m := used(t, k)
		value, other := *d, *d.Copy()
		checkNone(t, "a device's value", &value)
		checkNone(t, "a copy's value", &other)
		check(t, d, m) // what was asked of its value has not touched it
	}
}

func TestDevicesAreApart(t *testing.T) { // R5: no device knows of another one of its Kind
	for _, k := range kinds {
		a, m := fresh(t, k, 32)
		b, n := fresh(t, k, 32)
		goOn(t, a, m)
		check(t, b, n)
		b.Reset()
		check(t, a, m)
	}
}

// play does to a device, and to what it is meant to be, what a text says, four of its bytes a thing, and holds both against each other behind each.
func play(t *testing.T, k api.Kind, text []byte) {
	d, m := fresh(t, k, 36)
	for ; len(text) >= 4; text = text[4:] {
		off, size := int(text[1])%44-4, []int{4, 4, 4, 4, 2, 1, 3, 0}[text[2]%8]
		v := uint32(text[3]) | uint32(text[2]&0xf8)<<5
		switch text[0] % 16 {
		case 0:
			d.Reset()
			m.reset()
		case 1: // goes on with the copy
			was := d
			d = d.Copy()
			was.Write(0, 4, 1)
			was.Reset()
		case 2, 3:
			input(t, d, m, text[1])
		case 4, 5:
			tick(t, d, m)
		case 6, 7, 8:
			step(t, d, m, int(text[1])-9, api.Reply{Value: v, Err: api.Errno(text[2] % 8 / 7 * text[3])})
		case 9, 10, 11:
			read(t, d, m, off, size)
		default:
			write(t, d, m, off, size, v)
		}
		checkLook(t, d, m)
	}
	check(t, d, m)
}

func TestPlay(t *testing.T) { // P15.1 to P15.5
	seed := uint32(1)
	text := make([]byte, 4*4000)
	for i := range text {
		seed = seed*1664525 + 1013904223
		text[i] = byte(seed >> 24)
	}
	for _, k := range kinds {
		play(t, k, text)
	}
}

func FuzzDevice(f *testing.F) { // P15.1 to P15.5
	f.Add(uint8(0), []byte{12, 4, 0, 1, 9, 4, 0, 0})
	f.Add(uint8(5), []byte{12, 12, 0, 2, 12, 16, 0, 1, 6, 9, 0, 7, 6, 9, 7, 1})
	f.Fuzz(func(t *testing.T, k uint8, text []byte) {
		play(t, kinds[int(k)%len(kinds)], text[:min(len(text), 800)])
	})
}
