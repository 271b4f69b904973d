package region

import (
	"septum/access"
	"septum/api"
	"septum/reach"
)

// area is a region at work, right or not.
type area struct{ api.Region }

func (r area) right() bool { return r.none() || r.stands() }

// none asks for all parts: a region that is not On, and has another part, is not right.
func (r area) none() bool { return r == area{} }

// stands says that it is right and On.
func (r area) stands() bool {
	for _, holds := range []func() bool{r.on, r.ofWorld, r.reaches, r.ranked} {
		if !holds() {
			return false
		}
	}
	return true
}

func (r area) on() bool { return r.On }

func (r area) ofWorld() bool { return 0 <= r.World && r.World < api.MaxWorlds }

func (r area) reaches() bool { return reach.Right(r.Reach) }

func (r area) ranked() bool { return 0 <= r.Rank && r.Rank <= api.MaxRank }

// has asks nothing more of a: only a right access has a reach.
func (r area) has(a api.Access) bool {
	asked, right := access.Reach(a)
	return right && r.stands() && a.World == r.World && reach.In(asked, r.Reach)
}

func (r area) open(write bool) bool {
	if write {
		return r.Write
	}
	return r.Read
}
