package fifo

// spare is how many places more than twice those that were full are laid: so the first ones, too.
const spare = 4

// ring is things in places that go round: the first one stands at from, the others behind it.
type ring[T any] struct {
	most   int // so many things there may be
	places []T // no more than most
	from   int
	n      int // so many things there are
}

func (r *ring[T]) left() int { return r.most - r.n }

// at is where the thing of the place k stands, or will stand; it asks for a ring with places.
func (r *ring[T]) at(k int) *T { return &r.places[(r.from+k)%len(r.places)] }

func (r *ring[T]) put(x T) bool {
	if r.left() == 0 {
		return false
	}
	if r.n == len(r.places) {
		r.widen()
	}
	*r.at(r.n) = x
	r.n++
	return true
}

// widen lays more places when they are needed, not all at once: a row may be made for more things than memory has room for.
func (r *ring[T]) widen() {
	r.places = r.laid(r.n + min(r.n+spare, r.left()))
	r.from = 0
}

// laid are so many new places, at least as many as things, in which these stand from the first one on.
func (r *ring[T]) laid(size int) []T {
	places := make([]T, size)
	for k, x := range r.each {
		places[k] = x
	}
	return places
}

// told is what is asked of the first thing, if there is one: what asks needs not look whether there is.
func (r *ring[T]) told(ask func() T) (x T, is bool) {
	if r.n == 0 {
		return x, false
	}
	return ask(), true
}

func (r *ring[T]) first() T { return *r.at(0) }

func (r *ring[T]) take() T {
	x := r.first()
	// Left in its place, what is gone would be kept.
	clear(r.places[r.from : r.from+1])
	r.from = (r.from + 1) % len(r.places)
	r.n--
	return x
}

// drop lets go of all, and of the places; it answers how many things there were.
func (r *ring[T]) drop() int {
	n := r.n
	*r = ring[T]{most: r.most}
	return n
}

// each goes through the things where they stand: yield must not change the ring.
func (r *ring[T]) each(yield func(k int, x T) bool) {
	for k := range r.n {
		if !yield(k, *r.at(k)) {
			return
		}
	}
}

// apart is a ring of the same things and room, in places of its own.
func (r *ring[T]) apart() ring[T] {
	return ring[T]{most: r.most, places: r.laid(r.n), n: r.n}
}
