package scrub

import (
	"iter"
	"slices"

	"septum/api"
	"septum/device"
)

// nobody is whose a device is that is no world's.
const nobody = -1

// free is the hold of a device that is nobody's and may be given.
func free() api.Hold { return had(nobody) }

// had is the hold of a device that is that world's, or nobody's.
func had(owner int) api.Hold { return api.Hold{Owner: owner, Next: nobody} }

func isWorld(world int) bool { return world >= 0 && world < api.MaxWorlds }

// hold is a device's, with its kind, which tells how long it is scrubbed.
type hold struct {
	api.Hold
	kind api.Kind
}

// any is asked where all holds are gone through.
func (h hold) any() bool { return true }

func (h hold) owned() bool { return h.Owner != nobody }

func (h hold) scrubbed() bool { return h.Left > 0 }

func (h hold) mayBeGiven() api.Errno {
	if h.Hold != free() {
		return api.ErrBusy
	}
	return api.OK
}

func (h hold) mayBeTaken() api.Errno {
	switch {
	case h.Hold == free():
		return api.ErrNone
	case h.scrubbed():
		return api.ErrBusy
	}
	return api.OK
}

// taken is the hold as its device begins to be scrubbed, to be next's.
func (h hold) taken(next int) api.Hold {
	return api.Hold{Owner: nobody, Left: device.Time(h.kind), Next: next}
}

// ticked is the hold of one that is scrubbed, a cycle on.
func (h hold) ticked() api.Hold {
	if h.Left == 1 {
		return had(h.Next)
	}
	h.Left--
	return h.Hold
}

// holds are those of devices, by their numbers.
type holds []hold

// begun are the holds with which devices begin.
func begun(l []api.Device) holds {
	var told holds
	for _, d := range l {
		told = append(told, hold{had(d.Owner), d.Kind})
	}
	return told
}

// at is the hold of the device n, and whether there is one.
func (l holds) at(n int) (hold, bool) {
	if n < 0 || n >= len(l) {
		return hold{}, false
	}
	return l[n], true
}

// that goes through those holds that are so, by their numbers.
func (l holds) that(are func(hold) bool) iter.Seq2[int, hold] {
	return func(yield func(int, hold) bool) {
		for n, h := range l {
			if are(h) && !yield(n, h) {
				return
			}
		}
	}
}

// apart are the same holds, in other memory.
func (l holds) apart() holds { return slices.Clone(l) }
