package rotor_test

import (
	"math"
	"testing"

	"septum/rotor"
)

const (
	low  = math.MinInt16
	high = math.MaxInt16
	top  = math.MaxUint32
)

// pair is a point as two whole numbers: what is meant is told by them, without floats.
type pair struct{ re, im int }

// edges are shorts near which something ends: those that the chapter names, and those whose products, and twice which, are just wrapped.
var edges = []int{low, low + 1, -16385, -16384, -257, -256, -182, -181, -2, -1, 0, 1, 2, 3, 181, 182, 255, 256, 300, 0x1234, 16383, 16384, high - 1, high}

// noughtWithASign is made at work: a literal has none.
func noughtWithASign() float64 { return math.Copysign(0, -1) }

// noShorts are parts of which no point is.
func noShorts() []float64 {
	l := []float64{high + 1, low - 1, math.NaN(), math.Copysign(math.NaN(), -1), math.Float64frombits(0x7ff0000000000001)}
	for _, x := range []float64{
		high + 2, high + 3, 1<<16 - 1, 1 << 16, 1<<16 + 1, 1 << 31, 1<<32 - 1, 1 << 32, 1<<32 + 1, 1 << 53, 1 << 63, 1 << 64, 1<<64 + 1<<12, 1e300, math.MaxFloat64, math.Inf(1),
		0.5, 1.5, 0.1, 1 - 0x1p-53, 1 + 0x1p-52, 2.25, 300.5, high - 0.5, high + 0.5, math.Nextafter(high, 0), math.Nextafter(high, math.Inf(1)),
		math.SmallestNonzeroFloat64, 0x1p-1022, 1e-300, 1e-9,
	} {
		l = append(l, x, -x)
	}
	return append(l, low-0.5, low+0.5, math.Nextafter(low, 0), math.Nextafter(low, math.Inf(-1)))
}

// noPoints have one part that is no short, or two.
func noPoints() []complex128 {
	var l []complex128
	bad := noShorts()
	for k, x := range bad {
		for _, part := range []float64{low, -1, 0, noughtWithASign(), 1, high} {
			l = append(l, complex(x, part), complex(part, x))
		}
		l = append(l, complex(x, x), complex(x, bad[(k+7)%len(bad)]))
	}
	return l
}

// points are of all pairs of edges.
func points() []pair {
	var l []pair
	for _, re := range edges {
		for _, im := range edges {
			l = append(l, pair{re, im})
		}
	}
	return l
}

// fewPoints are of the parts that the chapter names, and of some others.
func fewPoints() []pair {
	var l []pair
	for _, re := range []int{low, -300, -1, 0, 1, 300, high} {
		for _, im := range []int{low, -300, -1, 0, 1, 300, high} {
			l = append(l, pair{re, im})
		}
	}
	return l
}

// short is n modulo 2^16, told without a conversion that cuts.
func short(n int) int {
	n %= 1 << 16
	switch {
	case n > high:
		return n - 1<<16
	case n < low:
		return n + 1<<16
	}
	return n
}

func (p pair) wrapped() pair { return pair{short(p.re), short(p.im)} }

func (p pair) plus(q pair) pair { return pair{p.re + q.re, p.im + q.im}.wrapped() }

func (p pair) times(q pair) pair {
	return pair{p.re*q.re - p.im*q.im, p.re*q.im + p.im*q.re}.wrapped()
}

// turned is p turned by one k times, told by its parts alone.
func (p pair) turned(k uint32) pair {
	for range k % 4 {
		p = pair{short(-p.im), p.re}
	}
	return p
}

func (p pair) point() complex128 { return complex(float64(p.re), float64(p.im)) }

// word is told by sums alone.
func (p pair) word() uint32 {
	lower, upper := p.re, p.im
	if lower < 0 {
		lower += 1 << 16
	}
	if upper < 0 {
		upper += 1 << 16
	}
	return uint32(upper*65536 + lower)
}

func pairOf(v uint32) pair { return pair{short(int(v % 65536)), short(int(v / 65536))} }

// isPoint says whether z is the point of p, and no nought of it has a sign.
func isPoint(z complex128, p pair) bool {
	bits := math.Float64bits
	return bits(real(z)) == bits(float64(p.re)) && bits(imag(z)) == bits(float64(p.im))
}

// checkPoint holds what a call told against a point.
func checkPoint(t *testing.T, call string, z complex128, is bool, want pair) {
	t.Helper()
	if !is || !isPoint(z, want) {
		t.Fatalf("%s is %v, %v, not %v", call, z, is, want)
	}
}

// checkNoPoint holds what a call told of one that is no point.
func checkNoPoint(t *testing.T, call string, of complex128, z complex128, is bool) {
	t.Helper()
	if is || !isPoint(z, pair{}) {
		t.Fatalf("%s of %v is %v, %v", call, of, z, is)
	}
}

func TestExample(t *testing.T) { // the chapter's example 1
	z := rotor.Point(0x00020003)
	checkPoint(t, "Point", z, true, pair{3, 2})
	z, is := rotor.Times(z, 1i)
	checkPoint(t, "times i", z, is, pair{-2, 3})
	if v, is := rotor.Word(z); v != 0x0003fffe || !is {
		t.Errorf("its word is %#x, %v", v, is)
	}
	z, is = rotor.Plus(32767, 1)
	checkPoint(t, "32767 plus 1", z, is, pair{-32768, 0})
	z, is = rotor.Times(300+0i, 300)
	checkPoint(t, "300 times 300", z, is, pair{24464, 0})
}

func TestPoint(t *testing.T) { // P13.1: the lower bits are the real part, the upper ones the imaginary one
	for v, want := range map[uint32]pair{
		0: {0, 0}, 1: {1, 0}, 0x10000: {0, 1}, 0xffff: {-1, 0}, 0xffff0000: {0, -1}, top: {-1, -1}, 0x7fff: {high, 0}, 0x8000: {low, 0},
		0x7fff0000: {0, high}, 0x80000000: {0, low}, 0x7fff8000: {low, high}, 0x80007fff: {high, low}, 0x80008000: {low, low}, 0x7fff7fff: {high, high}, 0x12345678: {0x5678, 0x1234}, 0xfffe0003: {3, -2},
	} {
		checkPoint(t, "Point", rotor.Point(v), true, want)
	}
}

func TestWord(t *testing.T) { // P13.1: of all pairs of edges, and back
	for _, p := range points() {
		v, is := rotor.Word(p.point())
		if v != p.word() || !is {
			t.Fatalf("Word(%v) is %#x, %v, not %#x", p, v, is, p.word())
		}
		checkPoint(t, "Point", rotor.Point(v), true, p)
	}
}

func TestEachShort(t *testing.T) { // P13.1: of each of them, in both parts, and those beside the last ones
	for n := -1 << 17; n <= 1<<17; n++ {
		for _, p := range []pair{{n, 0}, {0, n}, {n, -1}, {-1, n}, {n, n}} {
			v, is := rotor.Word(p.point())
			if n < low || n > high {
				if is || v != 0 {
					t.Fatalf("Word(%v) is %#x, %v", p, v, is)
				}
				continue
			}
			if v != p.word() || !is {
				t.Fatalf("Word(%v) is %#x, %v, not %#x", p, v, is, p.word())
			}
			checkPoint(t, "Point", rotor.Point(v), true, p)
		}
	}
}

func TestNoPoint(t *testing.T) { // P13.1: a part that is too great, too small, no whole one, no number, infinite; by itself, beside a point, beside another one
	good := []complex128{0, 1, 1i, -1 - 1i, high + low*1i}
	bad := noPoints()
	for k, x := range bad {
		if v, is := rotor.Word(x); v != 0 || is {
			t.Fatalf("Word(%v) is %#x, %v", x, v, is)
		}
		for _, turns := range []uint32{0, 1, 2, 3, 4, 5, 1 << 31, top} {
			z, is := rotor.Turn(x, turns)
			checkNoPoint(t, "Turn", x, z, is)
		}
		for _, other := range append(good, x, -x, bad[(k+13)%len(bad)]) {
			z, is := rotor.Plus(x, other)
			checkNoPoint(t, "Plus", x, z, is)
			z, is = rotor.Plus(other, x)
			checkNoPoint(t, "Plus", x, z, is)
			z, is = rotor.Times(x, other)
			checkNoPoint(t, "Times", x, z, is)
			z, is = rotor.Times(other, x)
			checkNoPoint(t, "Times", x, z, is)
		}
	}
}

func TestBothMayBeNone(t *testing.T) { // P13.1: though what comes of them would be a point
	for _, c := range [][2]complex128{{0.5, 0.5}, {0.5, 1.5}, {0.5i, -0.5i}, {high + 1, -2}, {low - 1, 2}, {1 << 40, -1 << 40}, {1e300, -1e300}} {
		z, is := rotor.Plus(c[0], c[1])
		checkNoPoint(t, "Plus", c[0], z, is)
	}
	for _, c := range [][2]complex128{{0.5, 2}, {2, 0.5i}, {0.5, 4 + 4i}, {0.25, 4}, {high + 1, 0}, {0, 1 << 40}, {1e-300, 0}, {0x1p-20, 0x1p20}, {0, 1e300i}} {
		z, is := rotor.Times(c[0], c[1])
		checkNoPoint(t, "Times", c[0], z, is)
	}
}

func TestNoughtsHaveNoSign(t *testing.T) { // P13.1: where they are handed in with one, and where one would come of a sum, a product, a turn
	minus := noughtWithASign()
	for _, z := range []complex128{complex(minus, 0), complex(0, minus), complex(minus, minus)} {
		if v, is := rotor.Word(z); v != 0 || !is {
			t.Errorf("Word(%v) is %#x, %v", z, v, is)
		}
		for k := range uint32(9) {
			w, is := rotor.Turn(z, k)
			checkPoint(t, "a turn of nought", w, is, pair{})
		}
		for _, other := range []complex128{0, complex(minus, minus), complex(0, minus), complex(minus, 0)} {
			w, is := rotor.Plus(z, other)
			checkPoint(t, "a sum of noughts", w, is, pair{})
			w, is = rotor.Plus(other, z)
			checkPoint(t, "a sum of noughts", w, is, pair{})
		}
		for _, p := range points() {
			w, is := rotor.Times(z, p.point())
			checkPoint(t, "a product with nought", w, is, pair{})
			w, is = rotor.Times(p.point(), z)
			checkPoint(t, "a product with nought", w, is, pair{})
			w, is = rotor.Plus(z, p.point())
			checkPoint(t, "a sum with nought", w, is, p)
		}
	}
	for _, n := range edges {
		for _, c := range []struct {
			z    complex128
			want pair
		}{{complex(float64(n), minus), pair{n, 0}}, {complex(minus, float64(n)), pair{0, n}}} {
			if v, is := rotor.Word(c.z); v != c.want.word() || !is {
				t.Errorf("Word(%v) is %#x, %v", c.z, v, is)
			}
			for k := range uint32(9) {
				w, is := rotor.Turn(c.z, k)
				checkPoint(t, "a turn", w, is, c.want.turned(k))
			}
		}
	}
}

func TestWrapped(t *testing.T) { // P13.1: of the real part, of the imaginary one, of both, above and below
	for _, c := range []struct{ a, b, sum, product pair }{
		{pair{high, 0}, pair{1, 0}, pair{low, 0}, pair{high, 0}},
		{pair{0, high}, pair{0, 1}, pair{0, low}, pair{-high, 0}},
		{pair{high, high}, pair{1, 1}, pair{low, low}, pair{0, -2}},
		{pair{low, 0}, pair{-1, 0}, pair{high, 0}, pair{low, 0}},
		{pair{0, low}, pair{0, -1}, pair{0, high}, pair{low, 0}},
		{pair{low, low}, pair{-1, -1}, pair{high, high}, pair{0, 0}},
		{pair{low, low}, pair{low, low}, pair{0, 0}, pair{0, 0}},
		{pair{low, low}, pair{low, high}, pair{0, -1}, pair{low, low}},
		{pair{high, high}, pair{high, high}, pair{-2, -2}, pair{0, 2}},
		{pair{high, low}, pair{high, high}, pair{-2, -1}, pair{-high, -high}},
		{pair{300, 0}, pair{300, 7}, pair{600, 7}, pair{24464, 2100}},
		{pair{300, 0}, pair{7, 300}, pair{307, 300}, pair{2100, 24464}},
		{pair{300, 0}, pair{-300, -300}, pair{0, -300}, pair{-24464, -24464}},
		{pair{0, 300}, pair{300, 300}, pair{300, 600}, pair{-24464, 24464}},
		{pair{181, 182}, pair{181, 0}, pair{362, 182}, pair{32761, -32594}},
		{pair{256, 0}, pair{256, 128}, pair{512, 128}, pair{0, low}},
		{pair{-1, 0}, pair{low, low}, pair{high, low}, pair{low, low}},
	} {
		z, is := rotor.Plus(c.a.point(), c.b.point())
		checkPoint(t, "a sum", z, is, c.sum)
		z, is = rotor.Times(c.a.point(), c.b.point())
		checkPoint(t, "a product", z, is, c.product)
	}
}

func TestTurn(t *testing.T) { // P13.1: by 0 to 3, by 4, by 2^32 - 1, and near where something ends
	for k, want := range map[uint32]pair{0: {3, 2}, 1: {-2, 3}, 2: {-3, -2}, 3: {2, -3}, 4: {3, 2}, 5: {-2, 3}, 6: {-3, -2}, 7: {2, -3}, 0x100: {3, 2}, 0x7fffffff: {2, -3}, 1 << 31: {3, 2}, top - 3: {3, 2}, top - 2: {-2, 3}, top - 1: {-3, -2}, top: {2, -3}} {
		z, is := rotor.Turn(3+2i, k)
		checkPoint(t, "a turn", z, is, want)
	}
	for _, p := range points() { // low is wrapped: what is as far on the other side is no short
		for _, k := range []uint32{0, 1, 2, 3, 4, 5, 6, 7, 8, 0xffff, 1 << 16, 1 << 31, top - 2, top - 1, top} {
			z, is := rotor.Turn(p.point(), k)
			checkPoint(t, "a turn", z, is, p.turned(k))
		}
	}
}

func TestTurnIsAProduct(t *testing.T) { // P13.1: with i, so often; P13.3: four by one are none
	for _, p := range points() {
		by := p.point()
		for k := range uint32(9) {
			z, is := rotor.Turn(p.point(), k)
			checkPoint(t, "a turn", z, is, pairOf(wordOf(t, by)))
			if k%4 == 0 {
				checkPoint(t, "four turns", by, true, p)
			}
			by, is = rotor.Times(by, 1i)
			if !is {
				t.Fatalf("a product of %v is none", p)
			}
		}
	}
}

func wordOf(t *testing.T, z complex128) uint32 {
	t.Helper()
	v, is := rotor.Word(z)
	if !is {
		t.Fatalf("%v is no point", z)
	}
	return v
}

func TestSumsAndProducts(t *testing.T) { // P13.1, P13.3: each point with each, exact; they do not hang on the order
	all := points()
	for _, p := range all {
		for _, q := range all {
			a, b := p.point(), q.point()
			z, is := rotor.Plus(a, b)
			checkPoint(t, "a sum", z, is, p.plus(q))
			z, is = rotor.Times(a, b)
			checkPoint(t, "a product", z, is, p.times(q))
			swapped, is := rotor.Times(b, a)
			if !is || swapped != z {
				t.Fatalf("%v times %v is %v, the other way round %v", p, q, z, swapped)
			}
		}
	}
}

func TestAProductWithASum(t *testing.T) { // P13.3: is the sum of the products
	all := fewPoints()
	for _, p := range all {
		for _, q := range all {
			for _, r := range all {
				sum, _ := rotor.Plus(q.point(), r.point())
				whole, is := rotor.Times(p.point(), sum)
				one, _ := rotor.Times(p.point(), q.point())
				other, _ := rotor.Times(p.point(), r.point())
				both, also := rotor.Plus(one, other)
				if !is || !also || whole != both {
					t.Fatalf("%v times the sum of %v and %v is %v, the sum of the products %v", p, q, r, whole, both)
				}
			}
		}
	}
}
