package scrub

import (
	"slices"
	"testing"

	"septum/api"
)

func TestGoingThroughStops(t *testing.T) { // P16.1: where it is left no more are told
	l := begun([]api.Device{{Owner: 1}, {Owner: -1}, {Owner: 0}, {Owner: 7}})
	for most := range 4 {
		var numbers []int
		for n := range l.that(hold.owned) {
			if len(numbers) == most {
				break
			}
			numbers = append(numbers, n)
		}
		if want := []int{0, 2, 3}[:most]; !slices.Equal(numbers, want) {
			t.Errorf("%v were told, not %v", numbers, want)
		}
	}
}
