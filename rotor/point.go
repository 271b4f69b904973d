package rotor

import "math"

const (
	half  = 16 // bits of a word have the real part, the others the imaginary one
	turns = 4  // so many by one are none
)

// wordOf is the word of a point.
func wordOf(z complex128) uint32 {
	return uint32(uint16(int64(real(z)))) | uint32(uint16(int64(imag(z))))<<half
}

// arePoints says whether all parts are shorts.
func arePoints(all ...complex128) bool {
	none := noneOf(math.MinInt16, math.MaxInt16)
	for _, z := range all {
		if none(real(z)) || none(imag(z)) {
			return false
		}
	}
	return true
}

// noneOf tells which parts are none of the whole numbers from low to high.
func noneOf(low, high float64) func(part float64) bool {
	return func(part float64) bool {
		// What is no number is neither at least low nor at most high.
		within := low <= part && part <= high
		return !within || part != math.Trunc(part)
	}
}

// wrapped is what a sum or a product of points comes to: its parts are whole, and far from where a float would round them.
func wrapped(z complex128) complex128 {
	return complex(short(real(z)), short(imag(z)))
}

// short is a whole number wrapped. By way of integers a nought loses its sign.
func short(part float64) float64 { return float64(int16(int64(part))) }

// turned is wrapped even if it is not turned at all: a nought may have a sign there, too.
func turned(z complex128, k uint32) complex128 {
	for range k % turns {
		z *= 1i
	}
	return wrapped(z)
}

// point is a rotor's; what is written comes to it as words.
type point complex128

func (p *point) word() uint32 { return wordOf(complex128(*p)) }

func (p *point) become(v uint32) { *p = point(Point(v)) }

func (p *point) add(v uint32) { *p = point(wrapped(complex128(*p) + Point(v))) }

func (p *point) multiply(v uint32) { *p = point(wrapped(complex128(*p) * Point(v))) }

func (p *point) turn(k uint32) { *p = point(turned(complex128(*p), k)) }
