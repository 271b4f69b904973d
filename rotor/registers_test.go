package rotor

import (
	"math"
	"testing"
)

// stepped is a rotor that did so many steps; by writes alone it would take too long to come there.
func stepped(steps uint32) *Rotor {
	r := New()
	r.Write(pointReg, 0x00020003)
	r.steps = steps
	return r
}

func checkSteps(t *testing.T, r *Rotor, want uint32) {
	t.Helper()
	if v, _ := r.State(); v != r.Read(pointReg) {
		t.Fatalf("its word is %#x, and %#x", v, r.Read(pointReg))
	}
	if _, steps := r.State(); steps != want || r.Read(stepsReg) != want {
		t.Fatalf("it did %#x, %#x steps, not %#x", steps, r.Read(stepsReg), want)
	}
}

func TestStepsWrap(t *testing.T) { // P13.2: told modulo 2^32, of each register that does a step, and of those that do none
	for _, steps := range []uint32{0, 0xff, 0xffff, 0x7fffffff, 0x80000000, math.MaxUint32 - 1, math.MaxUint32} {
		for reg, more := range []uint32{pointReg: 0, plusReg: 1, timesReg: 1, turnReg: 1, stepsReg: 0} {
			r := stepped(steps)
			for n := range uint32(4) {
				checkSteps(t, r, uint32((uint64(steps)+uint64(n*more))%(1<<32)))
				checkSteps(t, r.Copy(), uint32((uint64(steps)+uint64(n*more))%(1<<32)))
				r.Write(reg, n)
			}
		}
	}
}
