package fifo

import (
	"math"
	"testing"
)

// kept are how many things still stand in a row's places, those that are gone too.
func kept(f *Fifo[*int]) int {
	n := 0
	for _, p := range f.places[:cap(f.places)] {
		if p != nil {
			n++
		}
	}
	return n
}

func TestWhatIsGoneIsNotKept(t *testing.T) { // P5.1, P5.2
	f := New[*int](math.MaxInt)
	for x := range 40 {
		f.Put(&x)
		if x%3 == 0 {
			f.Take()
		}
		if got := kept(f); got != f.Len() {
			t.Fatalf("%d are kept, %d are there", got, f.Len())
		}
	}
	if c := f.Copy(); kept(c) != c.Len() {
		t.Errorf("%d are kept of the copy, %d are there", kept(c), c.Len())
	}
	f.Clear()
	if got := kept(f); got != 0 {
		t.Errorf("%d are kept of a row that was let go", got)
	}
}

func TestPlacesAreLaidWhenTheyAreNeeded(t *testing.T) { // P5.1: no room is laid that is not needed, no place more than there is room
	for _, most := range []int{0, 1, 2, 3, 5, 8, 100, math.MaxInt} {
		f := New[*int](most)
		if len(f.places) != 0 {
			t.Errorf("New(%d) has %d places", most, len(f.places))
		}
		for range min(most, 200) {
			f.Put(nil)
			if n := len(f.places); n > most || n > 2*f.Len()+spare {
				t.Fatalf("of %d there are %d places for %d things", most, n, f.Len())
			}
		}
	}
}
