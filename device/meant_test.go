package device_test

import (
	"math"
	"slices"
	"testing"

	"septum/api"
	"septum/device"
	"septum/dma"
	"septum/mailbox"
	"septum/ram"
	"septum/rotor"
	"septum/timer"
	"septum/uart"
)

const top = math.MaxUint32

// kinds are the six.
var kinds = []api.Kind{api.Ram, api.Timer, api.Uart, api.Mail, api.Rotor, api.Dma}

// noKinds are numbers that are no Kind's, some of which are one when they are cut to fewer bits.
var noKinds = []api.Kind{math.MinInt, math.MinInt + 1, -1 << 32, 1 - 1<<32, -256, -255, -6, -2, -1, 0, 7, 8, 9, 16, 255, 256, 257, 262, 1 << 16, 1<<16 + 3, 1 << 32, 1<<32 + 1, 1<<32 + 6, math.MaxInt}

// values are words near which something ends: bits, bytes, halves, signs, the whole.
var values = []uint32{0, 1, 2, 3, 4, 5, 7, 8, 0x7f, 0x80, 0xff, 0x100, 0x101, 0x1234, 0x8000, 0xffff, 0x10000, 0x10001, 0x12345678, 0x7fffffff, 0x80000000, 0x89abcdef, top - 1, top}

// noSizes are numbers that are no size, some of which are one when they are cut to fewer bits.
var noSizes = []int{math.MinInt, -1 << 32, 4 - 1<<32, -8, -4, -2, -1, 0, 3, 5, 6, 7, 8, 16, 32, 0x104, 1<<16 + 4, 1 << 32, 1<<32 + 1, 1<<32 + 2, 1<<32 + 4, math.MaxInt - 3, math.MaxInt}

// offsets are all those around a window of so many bytes, and such as come to lie in it when they are cut to fewer bits.
func offsets(n int) []int {
	l := []int{math.MinInt, math.MinInt + 4, -1 << 62, -1 << 33, -1 << 32, 4 - 1<<32, -1 << 31, -1 << 16, -256, -128, -n, -32, math.MaxInt, math.MaxInt - 3, 1 << 62, 1<<34 + 4, 1<<33 + 8, 1<<32 + 4, 1 << 32, 1<<32 - 4, 1 << 31, 1<<16 + 4, 1 << 16, 1 << 12, 256, 260, 128, 64, 2 * n, n + 28}
	for off := -9; off <= min(n, 40)+9; off++ {
		l = append(l, off)
	}
	for off := n - 9; off <= n+9; off++ {
		l = append(l, off)
	}
	return l
}

// right is a right device of a Kind; the bytes are those of a Ram.
func right(k api.Kind, bytes int) api.Device {
	if k != api.Ram {
		bytes = 32
	}
	return api.Device{Kind: k, Base: 0x1000, Size: bytes, Owner: 1, Line: 2}
}

// meant is what a device is meant to be: the part that the chapter says its Kind has, told by itself.
type meant struct {
	kind   api.Kind
	bytes  int
	ram    *ram.Ram
	timer  *timer.Timer
	uart   *uart.Uart
	box    *mailbox.Box
	rotor  *rotor.Rotor
	engine *dma.Engine
}

func meantOf(k api.Kind, bytes int) *meant {
	m := &meant{kind: k, bytes: right(k, bytes).Size}
	m.reset()
	return m
}

func (m *meant) reset() {
	switch m.kind {
	case api.Ram:
		m.ram, _ = ram.New(m.bytes)
	case api.Timer:
		m.timer = timer.New()
	case api.Uart:
		m.uart = uart.New()
	case api.Mail:
		m.box = mailbox.New()
	case api.Rotor:
		m.rotor = rotor.New()
	case api.Dma:
		m.engine = dma.New()
	}
}

// copied is one of the same, that goes its own way.
func (m *meant) copied() *meant {
	c := *m
	c.ram, c.uart, c.box, c.rotor = m.ram.Copy(), m.uart.Copy(), m.box.Copy(), m.rotor.Copy()
	c.timer, c.engine = timer.Of(m.timer.State()), dma.Of(m.engine.State())
	return &c
}

// registers are those of what is none: of a Ram.
func (m *meant) registers() interface {
	Read(reg int) uint32
	Write(reg int, v uint32)
} {
	switch m.kind {
	case api.Timer:
		return m.timer
	case api.Uart:
		return m.uart
	case api.Mail:
		return m.box
	case api.Rotor:
		return m.rotor
	}
	return m.engine
}

// fits is what the chapter says of an offset and a size.
func (m *meant) fits(off, size int) bool {
	if m.kind == api.Ram {
		return slices.Contains([]int{1, 2, 4}, size) && off%size == 0 && 0 <= off && off <= m.bytes-size
	}
	return size == 4 && slices.Contains([]int{0, 4, 8, 12, 16, 20, 24, 28}, off)
}

func (m *meant) read(off, size int) (uint32, bool) {
	switch {
	case !m.fits(off, size):
		return 0, false
	case m.kind == api.Ram:
		return m.ram.Read(off, size)
	}
	return m.registers().Read(off / 4), true
}

func (m *meant) write(off, size int, v uint32) bool {
	switch {
	case !m.fits(off, size):
		return false
	case m.kind == api.Ram:
		m.ram.Write(off, size, v)
	default:
		m.registers().Write(off/4, v)
	}
	return true
}

func (m *meant) tick() (byte, bool) {
	if m.kind == api.Timer {
		m.timer.Tick()
	}
	return m.uart.Tick() // of none: 0 and false
}

func (m *meant) line() bool {
	return m.timer.Line() || m.uart.Line() || m.box.Line() || m.engine.Line()
}

// look is what the chapter says that each Kind has.
func (m *meant) look() []uint32 {
	switch m.kind {
	case api.Ram:
		var l []uint32
		for b := range slices.Chunk(m.ram.Bytes(), 4) {
			l = append(l, uint32(b[0])+uint32(b[1])<<8+uint32(b[2])<<16+uint32(b[3])<<24)
		}
		return l
	case api.Timer:
		s := m.timer.State()
		return []uint32{s.Count, s.Limit, s.Ctrl, s.Hits}
	case api.Uart:
		return lookOfUart(m.uart.State())
	case api.Mail:
		s := m.box.State()
		return slices.Concat([]uint32{uint32(len(s.Words))}, s.Words, []uint32{s.Ctrl, s.Lost})
	case api.Rotor:
		word, steps := m.rotor.State()
		return []uint32{word, steps}
	}
	return lookOfDma(m.engine.State())
}

func lookOfUart(s uart.State) []uint32 {
	l := []uint32{uint32(len(s.Came))}
	for _, b := range s.Came {
		l = append(l, uint32(b))
	}
	l = append(l, uint32(len(s.Goes)))
	for _, b := range s.Goes {
		l = append(l, uint32(b))
	}
	lost := map[[2]bool]uint32{{true, false}: 1, {false, true}: 2, {true, true}: 3}[[2]bool{s.LostIn, s.LostOut}]
	return append(l, lost, s.Ctrl, uint32(s.Phase))
}

func lookOfDma(s dma.State) []uint32 {
	var bits uint32
	for bit, is := range map[uint32]bool{1: s.Busy, 2: s.Denied, 4: s.Done, 8: s.Has, 256: s.Calls} {
		if is {
			bits |= bit
		}
	}
	return []uint32{s.From, s.To, s.Left, s.Holds, bits}
}

// takes says whether a read there changes something.
func (m *meant) takes(off, size int) bool {
	return off == 0 && size == 4 && (m.kind == api.Uart || m.kind == api.Mail)
}

// checkLook holds what a device tells, but for what is read, against what it is meant to be.
func checkLook(t *testing.T, d *device.Device, m *meant) {
	t.Helper()
	want := m.look()
	if l := d.Look(); !slices.Equal(l, want) {
		t.Fatalf("of Kind %d Look() is %x, not %x", m.kind, l, want)
	}
	if k := d.Kind(); k != m.kind {
		t.Fatalf("Kind() is %d, not %d", k, m.kind)
	}
	if is := d.Line(); is != m.line() {
		t.Fatalf("of Kind %d Line() is %v, of %x", m.kind, is, want)
	}
	if is := d.Busy(); is != m.engine.State().Busy {
		t.Fatalf("of Kind %d Busy() is %v, of %x", m.kind, is, want)
	}
	if is, fresh := d.Fresh(), slices.Equal(want, meantOf(m.kind, m.bytes).look()); is != fresh {
		t.Fatalf("of Kind %d Fresh() is %v, of %x", m.kind, is, want)
	}
}

// checkReads holds what is read, by those sizes, against what is meant, but where a read takes something.
func checkReads(t *testing.T, d *device.Device, m *meant, sizes []int) {
	t.Helper()
	for _, size := range sizes {
		for _, off := range offsets(m.bytes) {
			if m.takes(off, size) {
				continue
			}
			v, is := d.Read(off, size)
			if w, fits := m.read(off, size); v != w || is != fits {
				t.Fatalf("of Kind %d Read(%d, %d) is %#x, %v, not %#x, %v", m.kind, off, size, v, is, w, fits)
			}
		}
	}
}

// check holds all that a device tells against what it is meant to be, more than once, for nothing is changed by what is asked.
func check(t *testing.T, d *device.Device, m *meant) {
	t.Helper()
	for range 2 {
		checkLook(t, d, m)
		checkReads(t, d, m, []int{1, 2, 4})
	}
	checkLook(t, d, m)
}

// fresh is a fresh device of a Kind, and what it is meant to be.
func fresh(t *testing.T, k api.Kind, bytes int) (*device.Device, *meant) {
	t.Helper()
	d, err := device.New(right(k, bytes))
	if d == nil || err != api.OK {
		t.Fatalf("New of Kind %d is %p, %d", k, d, err)
	}
	return d, meantOf(k, bytes)
}

// write writes to both, and holds what is answered.
func write(t *testing.T, d *device.Device, m *meant, off, size int, v uint32) {
	t.Helper()
	if is, want := d.Write(off, size, v), m.write(off, size, v); is != want {
		t.Fatalf("of Kind %d Write(%d, %d, %#x) is %v", m.kind, off, size, v, is)
	}
}

// read reads of both, and holds what is answered.
func read(t *testing.T, d *device.Device, m *meant, off, size int) {
	t.Helper()
	v, is := d.Read(off, size)
	if w, fits := m.read(off, size); v != w || is != fits {
		t.Fatalf("of Kind %d Read(%d, %d) is %#x, %v, not %#x, %v", m.kind, off, size, v, is, w, fits)
	}
}

// input lets a byte come to both, and holds what is answered.
func input(t *testing.T, d *device.Device, m *meant, b byte) {
	t.Helper()
	if is, want := d.Input(b), m.uart.Input(b); is != want {
		t.Fatalf("of Kind %d Input(%d) is %v", m.kind, b, is)
	}
}

// tick ticks both, and holds what is answered.
func tick(t *testing.T, d *device.Device, m *meant) {
	t.Helper()
	b, is := d.Tick()
	if w, out := m.tick(); b != w || is != out {
		t.Fatalf("of Kind %d Tick() is %d, %v, not %d, %v", m.kind, b, is, w, out)
	}
}

// step lets both do a step that is answered r, and holds who was asked for what.
func step(t *testing.T, d *device.Device, m *meant, world int, r api.Reply) {
	t.Helper()
	var asked, want []api.Access
	is := d.Step(world, func(a api.Access) api.Reply { asked = append(asked, a); return r })
	was := m.engine.Step(world, func(a api.Access) api.Reply { want = append(want, a); return r })
	if is != was || !slices.Equal(asked, want) {
		t.Fatalf("of Kind %d Step(%d) is %v, and asks %v, not %v", m.kind, world, is, asked, want)
	}
}

// used is a device of a Kind on which something of each sort was done, and what it is meant to be.
func used(t *testing.T, k api.Kind) (*device.Device, *meant) {
	t.Helper()
	d, m := fresh(t, k, 40)
	for range 10 {
		input(t, d, m, 0x41)
		write(t, d, m, 0, 4, 0x00020003)
	}
	for _, w := range [][2]uint32{{4, 0x00010002}, {8, 7}, {12, 0x101}} {
		write(t, d, m, int(w[0]), 4, w[1])
	}
	for range 3 {
		tick(t, d, m)
	}
	step(t, d, m, 3, api.Reply{Value: 9})
	return d, m
}
