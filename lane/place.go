package lane

import "septum/word"

const laneBits = 8

// address is where a place at work begins.
type address uint32

func (a address) lane() uint { return uint(a % lanes) }

func (a address) shift() uint { return a.lane() * laneBits }

// multiple asks for a size that is one: of others none need be above 0.
func (a address) multiple(size int) bool { return a%address(size) == 0 }

// place is one at work, aligned or not.
type place struct {
	address
	size int
}

func at(addr uint32, size int) place { return place{address(addr), size} }

func (p place) aligned() bool { return word.Size(p.size) && p.multiple(p.size) }

// told is what is asked of a place, if it is aligned: what asks needs not look whether it is.
func (p place) told(ask func() uint32) (uint32, bool) {
	if !p.aligned() {
		return 0, false
	}
	return ask(), true
}

func (p place) mask() uint32 { return (1<<p.size - 1) << p.lane() }

func (p place) wide() uint32 { return Wide(p.mask()) }

// cell is a place in the word v, and what is put there.
type cell struct {
	place
	v, data uint32
}

func (c cell) taken() uint32 { return (c.v & c.wide()) >> c.shift() }

// put needs not cut data to its low part: what is above that comes to stand beyond the lanes of the place.
func (c cell) put() uint32 { return (c.v &^ c.wide()) | (c.data << c.shift() & c.wide()) }
