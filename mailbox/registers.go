package mailbox

// The numbers of the registers.
const (
	wordReg = iota
	countReg
	ctrlReg
	lostReg
	registers // so many there are
)

// reads is what each register tells.
func reads() [registers]func(*mail) uint32 {
	return [...]func(*mail) uint32{
		wordReg:  (*mail).next,
		countReg: (*mail).count,
		ctrlReg:  (*mail).ctrlNow,
		lostReg:  (*mail).lostNow,
	}
}

// writes is what each register does with what is written there.
func writes() [registers]func(m *mail, v uint32) {
	return [...]func(m *mail, v uint32){
		wordReg:  (*mail).aside,
		countReg: (*mail).stay,
		ctrlReg:  (*mail).setCtrl,
		lostReg:  (*mail).forgetLost,
	}
}

func isRegister(reg int) bool { return 0 <= reg && reg < registers }

func (m *mail) read(reg int) uint32 {
	if !isRegister(reg) {
		return 0
	}
	return reads()[reg](m)
}

func (m *mail) write(reg int, v uint32) {
	if isRegister(reg) {
		writes()[reg](m, v)
	}
}

// next takes the first word; where there is none, what the row tells is 0.
func (m *mail) next() uint32 {
	v, _ := m.Take()
	return v
}

func (m *mail) count() uint32 { return uint32(m.Len()) }

func (m *mail) ctrlNow() uint32 { return m.ctrl }

func (m *mail) lostNow() uint32 { return m.lost }

// stay is what is done where nothing can be written.
func (m *mail) stay(uint32) {}

func (m *mail) setCtrl(v uint32) { m.ctrl = v & calls }

func (m *mail) forgetLost(uint32) { m.lost = 0 }
