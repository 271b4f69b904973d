package rotor

// The numbers of the registers.
const (
	pointReg = iota
	plusReg
	timesReg
	turnReg
	stepsReg
)

// reads is what each register tells.
func (r *Rotor) reads() map[int]func() uint32 {
	return map[int]func() uint32{
		pointReg: r.word,
		stepsReg: r.stepsNow,
	}
}

// writes is what each register does with what is written there.
func (r *Rotor) writes() map[int]func(v uint32) {
	return map[int]func(v uint32){
		pointReg: r.become,
		plusReg:  r.stepPlus,
		timesReg: r.stepTimes,
		turnReg:  r.stepTurn,
	}
}

func (r *Rotor) stepsNow() uint32 { return r.steps }

func (r *Rotor) stepPlus(v uint32) {
	r.add(v)
	r.steps++
}

func (r *Rotor) stepTimes(v uint32) {
	r.multiply(v)
	r.steps++
}

func (r *Rotor) stepTurn(k uint32) {
	r.turn(k)
	r.steps++
}
