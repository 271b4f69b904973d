package ram

import (
	"slices"

	"septum/lane"
	"septum/word"
)

const wordBytes = 4

// words are a memory's bytes, four to each, the lowest first.
type words []uint32

func (w words) size() int { return wordBytes * len(w) }

func (w words) has(off int) bool { return 0 <= off && off < w.size() }

// told is what is asked of the word that has the byte off, if there is one. It needs not look for the bytes behind: no place goes over a word's end.
func (w words) told(off int, ask func(v uint32) (uint32, bool)) (uint32, bool) {
	if !w.has(off) {
		return 0, false
	}
	return ask(w[off/wordBytes])
}

// changed says whether the word that has the byte off is made another one; where there is none, or nothing is made of it, all stays.
func (w words) changed(off int, made func(v uint32) (uint32, bool)) bool {
	v, is := w.told(off, made)
	if is {
		w[off/wordBytes] = v
	}
	return is
}

func (w words) reset() { clear(w) }

func (w words) bytes() []byte {
	var all []byte
	for _, v := range w {
		all = append(all, word.Bytes(v, wordBytes)...)
	}
	return all
}

// apart are the same words in memory of their own.
func (w words) apart() words { return slices.Clone(w) }

// place is one at work; it may be none. It is asked only of a word that has the byte off: so off can stand as an address.
type place struct{ off, size int }

func (p place) taken(v uint32) (uint32, bool) { return lane.Take(v, uint32(p.off), p.size) }

// putting makes of a word one in whose lanes of the place data stands.
func (p place) putting(data uint32) func(v uint32) (uint32, bool) {
	return func(v uint32) (uint32, bool) { return lane.Put(v, uint32(p.off), p.size, data) }
}
