package table

import (
	"slices"
	"testing"

	"septum/api"
)

func TestGoingThroughStops(t *testing.T) { // P7.3: where it is left no more are told
	l := row{{On: true, World: 1}, {}, {On: true}, {On: true, World: 1}, {On: true, World: 1}}
	for most := range 4 {
		var numbers []int
		for r := range l.of(1) {
			if len(numbers) == most {
				break
			}
			numbers = append(numbers, r.number)
		}
		if want := []int{0, 3, 4}[:most]; !slices.Equal(numbers, want) {
			t.Errorf("%v were told, not %v", numbers, want)
		}
	}
}

func TestOrderOfTwo(t *testing.T) { // P7.3: by Rank, the greatest first, then by number
	r := func(rank, number int) numbered { return numbered{api.Region{On: true, Rank: rank}, number} }
	inOrder := []numbered{r(255, 3), r(255, 31), r(7, 0), r(7, 1), r(0, 0), r(0, 30)}
	for i, x := range inOrder {
		for k, y := range inOrder {
			if o := x.order(y); (o < 0) != (i < k) || (o == 0) != (i == k) {
				t.Errorf("%+v and %+v: %d", x, y, o)
			}
		}
	}
}
