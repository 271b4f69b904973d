package table

import (
	"cmp"
	"iter"
	"slices"

	"septum/api"
	"septum/region"
)

// row is regions by their numbers, right or not.
type row []api.Region

func (l row) right() bool {
	if len(l) > api.MaxRegions {
		return false
	}
	for n, r := range l {
		// Those behind ask about those ahead: so each two are asked about once.
		if !region.Right(r) || l[:n].clashes(r, n) {
			return false
		}
	}
	return true
}

// clashes says whether r does so with one of the row, but the one of the number n.
func (l row) clashes(r api.Region, n int) bool {
	for k, s := range l {
		if k != n && region.Clash(r, s) {
			return true
		}
	}
	return false
}

func (l row) locked(n int) bool { return n < len(l) && l[n].Locked }

// of goes through a world's regions by their numbers; none ones, whose World is 0, are not its.
func (l row) of(world int) iter.Seq[numbered] {
	return func(yield func(numbered) bool) {
		for n, r := range l {
			if r.On && r.World == world && !yield(numbered{r, n}) {
				return
			}
		}
	}
}

// with is a copy in which r is the region n, behind as many none ones as it takes.
func (l row) with(n int, r api.Region) row {
	told := make(row, max(len(l), n+1))
	copy(told, l)
	told[n] = r
	return told
}

// without is a copy whose region n, if it has one, is none.
func (l row) without(n int) row {
	told := slices.Clone(l)
	if n < len(told) {
		told[n] = api.Region{}
	}
	return told
}

// numbered is a region with its number.
type numbered struct {
	api.Region
	number int
}

// order is below 0, if r decides ahead of s.
func (r numbered) order(s numbered) int {
	return cmp.Or(cmp.Compare(s.Rank, r.Rank), cmp.Compare(r.number, s.number))
}
