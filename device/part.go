package device

import (
	"septum/api"
	"septum/dma"
	"septum/mailbox"
	"septum/rotor"
	"septum/timer"
	"septum/uart"
)

const wordBytes = 4

// part is what a device has of its Kind. What not all Kinds do (bytes from outside, ticks, steps) is asked of those alone that do it.
type part interface {
	read(off, size int) (uint32, bool)
	write(off, size int, v uint32) bool
	line() bool
	look() []uint32
	apart() part
}

// begins is what each Kind begins with; the bytes are those of a Ram.
func begins(bytes int) map[api.Kind]func() part {
	return map[api.Kind]func() part{
		api.Ram:   func() part { return ramOf(bytes) },
		api.Timer: func() part { return timerPart{registersOf(timer.New())} },
		api.Uart:  func() part { return uartPart{registersOf(uart.New())} },
		api.Mail:  func() part { return mailPart{registersOf(mailbox.New())} },
		api.Rotor: func() part { return rotorPart{registersOf(rotor.New())} },
		api.Dma:   func() part { return dmaPart{registersOf(dma.New())} },
	}
}

// times are how many cycles each Kind is scrubbed.
func times() map[api.Kind]int {
	return map[api.Kind]int{api.Ram: 16, api.Timer: 2, api.Uart: 4, api.Mail: 3, api.Rotor: 2, api.Dma: 5}
}

func kindOf(p part) api.Kind {
	switch p.(type) {
	case ramPart:
		return api.Ram
	case timerPart:
		return api.Timer
	case uartPart:
		return api.Uart
	case mailPart:
		return api.Mail
	case rotorPart:
		return api.Rotor
	case dmaPart:
		return api.Dma
	}
	return 0
}

// registered is what is asked by the numbers of registers.
type registered interface {
	Read(reg int) uint32
	Write(reg int, v uint32)
}

// registers lets what has registers be asked by offsets.
type registers[P registered] struct{ has P }

func registersOf[P registered](p P) registers[P] { return registers[P]{p} }

func (r registers[P]) read(off, size int) (uint32, bool) {
	reg, is := register(off, size)
	if !is {
		return 0, false
	}
	return r.has.Read(reg), true
}

func (r registers[P]) write(off, size int, v uint32) bool {
	reg, is := register(off, size)
	if is {
		r.has.Write(reg, v)
	}
	return is
}

// register is the number of the one at a place.
func register(off, size int) (int, bool) {
	if size != wordBytes || off < 0 || off >= api.Window || off%wordBytes != 0 {
		return 0, false
	}
	return off / wordBytes, true
}
