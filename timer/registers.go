package timer

// The numbers of the registers.
const (
	countReg = iota
	limitReg
	ctrlReg
	hitsReg
)

// reads is what each register tells.
func (t *Timer) reads() map[int]func() uint32 {
	return map[int]func() uint32{
		countReg: t.countNow,
		limitReg: t.limitNow,
		ctrlReg:  t.ctrlNow,
		hitsReg:  t.hitsNow,
	}
}

// writes is what each register does with what is written there.
func (t *Timer) writes() map[int]func(v uint32) {
	return map[int]func(v uint32){
		countReg: t.setCount,
		limitReg: t.setLimit,
		ctrlReg:  t.setCtrl,
		hitsReg:  t.forgetHits,
	}
}

func (t *Timer) countNow() uint32 { return t.count }

func (t *Timer) limitNow() uint32 { return t.limit }

func (t *Timer) ctrlNow() uint32 { return uint32(t.ctrl) }

func (t *Timer) hitsNow() uint32 { return t.hits }

func (t *Timer) setCount(v uint32) { t.count = v }

func (t *Timer) setLimit(v uint32) { t.limit = v }

func (t *Timer) setCtrl(v uint32) { t.ctrl = controlOf(v) }

func (t *Timer) forgetHits(uint32) { t.hits = 0 }
