package device

import (
	"septum/dma"
	"septum/mailbox"
	"septum/ram"
	"septum/rotor"
	"septum/timer"
	"septum/uart"
)

// What Look tells of a Uart that lost something.
const (
	lostIn = 1 << iota
	lostOut
)

// What Look tells of a Dma that is so.
const (
	isBusy = 1 << iota
	isDenied
	isDone
	holds
	calls = 256
)

// noPart is that of no device.
type noPart struct{}

func (noPart) read(int, int) (uint32, bool) { return 0, false }
func (noPart) write(int, int, uint32) bool  { return false }
func (noPart) line() bool                   { return false }
func (noPart) look() []uint32               { return nil }
func (noPart) apart() part                  { return noPart{} }

type ramPart struct{ has *ram.Ram }

// ramOf is of so many bytes as a right device's Size says.
func ramOf(bytes int) ramPart {
	m, _ := ram.New(bytes)
	return ramPart{m}
}

func (p ramPart) read(off, size int) (uint32, bool)  { return p.has.Read(off, size) }
func (p ramPart) write(off, size int, v uint32) bool { return p.has.Write(off, size, v) }
func (p ramPart) line() bool                         { return false }
func (p ramPart) apart() part                        { return ramPart{p.has.Copy()} }

func (p ramPart) look() []uint32 {
	l := make([]uint32, p.has.Len()/wordBytes)
	for n := range l {
		l[n], _ = p.has.Read(n*wordBytes, wordBytes)
	}
	return l
}

type timerPart struct{ registers[*timer.Timer] }

func (p timerPart) line() bool  { return p.has.Line() }
func (p timerPart) apart() part { return timerPart{registersOf(timer.Of(p.has.State()))} }

func (p timerPart) look() []uint32 {
	s := p.has.State()
	return []uint32{s.Count, s.Limit, s.Ctrl, s.Hits}
}

type uartPart struct{ registers[*uart.Uart] }

func (p uartPart) line() bool  { return p.has.Line() }
func (p uartPart) apart() part { return uartPart{registersOf(p.has.Copy())} }

func (p uartPart) look() []uint32 {
	s := p.has.State()
	l := append(counted(s.Came), counted(s.Goes)...)
	return append(l, lossesOf(s), s.Ctrl, uint32(s.Phase))
}

func lossesOf(s uart.State) uint32 {
	return bit(s.LostIn, lostIn) + bit(s.LostOut, lostOut)
}

type mailPart struct{ registers[*mailbox.Box] }

func (p mailPart) line() bool  { return p.has.Line() }
func (p mailPart) apart() part { return mailPart{registersOf(p.has.Copy())} }

func (p mailPart) look() []uint32 {
	s := p.has.State()
	return append(counted(s.Words), s.Ctrl, s.Lost)
}

type rotorPart struct{ registers[*rotor.Rotor] }

func (p rotorPart) line() bool  { return false }
func (p rotorPart) apart() part { return rotorPart{registersOf(p.has.Copy())} }

func (p rotorPart) look() []uint32 {
	word, steps := p.has.State()
	return []uint32{word, steps}
}

type dmaPart struct{ registers[*dma.Engine] }

func (p dmaPart) line() bool  { return p.has.Line() }
func (p dmaPart) apart() part { return dmaPart{registersOf(dma.Of(p.has.State()))} }

func (p dmaPart) look() []uint32 {
	s := p.has.State()
	return []uint32{s.From, s.To, s.Left, s.Holds, bitsOf(s)}
}

func bitsOf(s dma.State) uint32 {
	return bit(s.Busy, isBusy) + bit(s.Denied, isDenied) + bit(s.Done, isDone) + bit(s.Has, holds) + bit(s.Calls, calls)
}

// bit is v, if it is so.
func bit(is bool, v uint32) uint32 {
	if !is {
		return 0
	}
	return v
}

// counted is how many there are, and each of them, in memory of its own.
func counted[N byte | uint32](l []N) []uint32 {
	all := []uint32{uint32(len(l))}
	for _, v := range l {
		all = append(all, uint32(v))
	}
	return all
}
