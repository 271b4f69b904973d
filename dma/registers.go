package dma

// The numbers of the registers.
const (
	fromReg = iota
	toReg
	leftReg
	ctrlReg
	forgetReg
)

// The bits that ctrlReg tells.
const (
	busyBit = 1 << iota
	deniedBit
	doneBit
	callsBit = 1 << 8
)

// beginBit is what is written there, beside callsBit; it is told as busyBit.
const beginBit = busyBit

// reads is what each register tells.
func (e *Engine) reads() map[int]func() uint32 {
	return map[int]func() uint32{
		fromReg: e.fromNow,
		toReg:   e.toNow,
		leftReg: e.leftNow,
		ctrlReg: e.ctrlNow,
	}
}

// writes is what each register does with what is written there.
func (e *Engine) writes() map[int]func(v uint32) {
	return map[int]func(v uint32){
		fromReg:   e.setFrom,
		toReg:     e.setTo,
		leftReg:   e.setLeft,
		ctrlReg:   e.setCtrl,
		forgetReg: e.forget,
	}
}

func (e *Engine) fromNow() uint32 { return e.from }

func (e *Engine) toNow() uint32 { return e.to }

func (e *Engine) leftNow() uint32 { return e.left }

func (e *Engine) ctrlNow() uint32 {
	var v uint32
	if e.busy {
		v |= busyBit
	}
	if e.denied {
		v |= deniedBit
	}
	if e.done {
		v |= doneBit
	}
	if e.calls {
		v |= callsBit
	}
	return v
}

func (e *Engine) setFrom(v uint32) { e.setIdle(&e.from, v) }

func (e *Engine) setTo(v uint32) { e.setIdle(&e.to, v) }

func (e *Engine) setLeft(v uint32) { e.setIdle(&e.left, v) }

// setIdle sets a word of an engine that is not busy; those of a busy one stay.
func (e *Engine) setIdle(word *uint32, v uint32) {
	if !e.busy {
		*word = v
	}
}

func (e *Engine) setCtrl(v uint32) {
	e.calls = v&callsBit != 0
	switch {
	case v&beginBit == 0:
		e.stop()
	case !e.busy:
		e.begin()
	}
}

func (e *Engine) forget(uint32) { e.denied, e.done = false, false }
