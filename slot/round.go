package slot

import (
	"iter"

	"septum/api"
)

const (
	// nobody is whose a slot is that is no world's.
	nobody = -1
	// lastCycle is the last one of which anything is told.
	lastCycle = 1 << 40
)

func isWorld(w int) bool { return w >= 0 && w < api.MaxWorlds }

func isCycle(t int) bool { return t >= 0 && t <= lastCycle }

// isOf answers what tells of an owner whether it is the world w; of what is no world none is.
func isOf(w int) func(owner int) bool {
	return func(owner int) bool { return isWorld(w) && owner == w }
}

// at is whose slot a cycle's is, beyond the last cycle too.
func at(l []int, t int) int { return l[t%len(l)] }

// round goes through as many cycles as there are slots, from the cycle t on, each with whose its slot is.
func round(l []int, t int) iter.Seq2[int, int] {
	return func(yield func(int, int) bool) {
		for k := range l {
			if !yield(t+k, at(l, t+k)) {
				return
			}
		}
	}
}

// next is the first cycle, from t on, whose slot's owner is one; what is not within a period is never.
func next(l []int, is func(owner int) bool, t int) (int, bool) {
	for cycle, owner := range round(l, t) {
		if is(owner) {
			return cycle, true
		}
	}
	return 0, false
}

// ofAll is what with makes of all slots, one by one, out of what was begun with.
func ofAll[T any](slots iter.Seq2[int, int], begun T, with func(so T, cycle, owner int) T) T {
	so := begun
	for cycle, owner := range slots {
		so = with(so, cycle, owner)
	}
	return so
}
