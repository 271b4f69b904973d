package uart

// The numbers of the registers.
const (
	dataReg = iota
	countReg
	ctrlReg
	lostReg
)

const (
	oneCame = 1 << 8 // is told beside a byte that came: so one that is 0 is told apart from none
	oneGoes = 1 << 8 // is told for each byte that goes, above how many came
)

// reads is what each register tells.
func (u *Uart) reads() map[int]func() uint32 {
	return map[int]func() uint32{
		dataReg:  u.take,
		countReg: u.counts,
		ctrlReg:  u.ctrlNow,
	}
}

// writes is what each register does with what is written there.
func (u *Uart) writes() map[int]func(v uint32) {
	return map[int]func(v uint32){
		dataReg: u.send,
		ctrlReg: u.setCtrl,
		lostReg: u.forgetLost,
	}
}

func (u *Uart) take() uint32 {
	b, is := u.came.Take()
	if !is {
		return 0
	}
	return oneCame + uint32(b)
}

func (u *Uart) counts() uint32 {
	return uint32(u.came.Len()) + oneGoes*uint32(u.goes.Len()) + uint32(u.lost)
}

func (u *Uart) ctrlNow() uint32 { return u.ctrl }

func (u *Uart) send(v uint32) { u.put(u.goes, byte(v), lostOut) }

func (u *Uart) setCtrl(v uint32) { u.ctrl = v & calls }

func (u *Uart) forgetLost(uint32) { u.lost = 0 }
