package real

import (
	"math"
	"slices"
	"testing"
)

const signBit = uint64(1) << 63

var (
	minusZero = math.Copysign(0, -1)
	inf       = math.Inf(1)
	minusInf  = math.Inf(-1)
)

// nans have unlike bits: quiet and signalling ones, of both signs, the least and the greatest.
func nans() []float64 {
	var l []float64
	for _, b := range []uint64{0x7ff8000000000001, 0x7ff8000000000000, 0x7ff0000000000001, 0x7ff8000000000002, 0x7fffffffffffffff} {
		l = append(l, math.Float64frombits(b), math.Float64frombits(b|signBit))
	}
	return l
}

// ranks are classes of numbers that are the same, in order.
func ranks() [][]float64 {
	return [][]float64{
		{minusInf},
		{-math.MaxFloat64},
		{-2}, {math.Nextafter(-1, -2)}, {-1}, {math.Nextafter(-1, 0)},
		{math.Float64frombits(0x8010000000000000)}, // the least normal one
		{math.Float64frombits(0x800fffffffffffff)}, // the greatest that is none
		{-math.SmallestNonzeroFloat64},
		{0, minusZero},
		{math.SmallestNonzeroFloat64},
		{math.Float64frombits(0x000fffffffffffff)},
		{math.Float64frombits(0x0010000000000000)},
		{math.Nextafter(1, 0)}, {1}, {math.Nextafter(1, 2)}, {2},
		{math.MaxFloat64},
		{inf},
		nans(),
	}
}

func all() []float64 { return slices.Concat(ranks()...) }

// mixed numbers, the same in every run, of which many are near the odd ones.
func mixed(n int) []float64 {
	odd := []uint64{0, signBit, 0x7ff0000000000000, 0xfff0000000000000, 0x7ff8000000000001, 0x3ff0000000000000}
	var l []float64
	s := uint64(88172645463325252)
	for i := range n {
		s ^= s << 13
		s ^= s >> 7
		s ^= s << 17
		b := s
		if i%2 == 0 {
			b = odd[s>>32%uint64(len(odd))] + s%5 - 2
		}
		l = append(l, math.Float64frombits(b))
	}
	return l
}

func alike(a, b float64) bool { return math.Float64bits(a) == math.Float64bits(b) }

func sign(i int) int {
	switch {
	case i < 0:
		return -1
	case i > 0:
		return 1
	}
	return 0
}

// P1.1

func TestCanonOfNaN(t *testing.T) {
	for _, x := range nans() {
		if b := math.Float64bits(Canon(x)); b != 0x7ff8000000000001 {
			t.Errorf("Canon of %x: %x", math.Float64bits(x), b)
		}
	}
}

func TestCanonOfZero(t *testing.T) {
	for _, x := range []float64{0, minusZero} {
		if b := math.Float64bits(Canon(x)); b != 0 {
			t.Errorf("Canon of %x: %x", math.Float64bits(x), b)
		}
	}
}

func TestCanonKeepsOthers(t *testing.T) {
	for _, x := range append(all(), mixed(5000)...) {
		if !math.IsNaN(x) && x != 0 && !alike(Canon(x), x) {
			t.Errorf("Canon of %g: %g", x, Canon(x))
		}
		if !alike(Canon(Canon(x)), Canon(x)) {
			t.Errorf("Canon twice of %x: not as once", math.Float64bits(x))
		}
	}
}

func TestOrderAndSame(t *testing.T) {
	for i, as := range ranks() {
		for k, bs := range ranks() {
			for _, a := range as {
				for _, b := range bs {
					if o := Order(a, b); o != sign(i-k) {
						t.Errorf("Order(%g, %g) = %d", a, b, o)
					}
					if Same(a, b) != (i == k) {
						t.Errorf("Same(%g, %g) = %v", a, b, Same(a, b))
					}
				}
			}
		}
	}
}

func TestSameIsCanonAlike(t *testing.T) {
	l := append(all(), mixed(300)...)
	for _, a := range l {
		for _, b := range l {
			if Same(a, b) != alike(Canon(a), Canon(b)) || Same(a, b) != (Order(a, b) == 0) {
				t.Errorf("Same(%x, %x) = %v", math.Float64bits(a), math.Float64bits(b), Same(a, b))
			}
		}
	}
}

// P1.2

func TestClamp(t *testing.T) {
	nan, other := math.Float64frombits(0x7ff8000000000001), math.Float64frombits(0xfff0000000000007)
	for _, c := range []struct{ x, lo, hi, want float64 }{
		{2, 1, 3, 2},
		{1, 1, 3, 1},
		{3, 1, 3, 3},
		{0, 1, 3, 1},
		{5, 1, 3, 3},
		{minusInf, 1, 3, 1},
		{inf, 1, 3, 3},
		{inf, minusInf, inf, inf},
		{minusInf, minusInf, inf, minusInf},
		{other, 1, 3, 3},              // NaN comes behind hi
		{other, minusInf, inf, inf},   // even behind Inf
		{other, minusInf, other, nan}, // but not behind NaN
		{2, other, 3, nan},            // all but NaN come ahead of NaN
		{other, other, 3, 3},          // NaN isn't ahead of NaN, but behind 3
		{other, other, other, nan},
		{7, 1, other, 7},     // nothing is behind NaN
		{minusZero, 0, 1, 0}, // not ahead of 0, but Canon's
		{minusZero, -1, 1, 0},
		{-1, minusZero, 1, 0},
		{1, -1, minusZero, 0},
		{2, 3, 1, 3}, // lo behind hi: lo is asked first
		{5, 3, 1, 1},
		{3, 3, 1, 1},
		{0, 3, 1, 3},
		{other, 3, minusZero, 0},
		{minusInf, other, minusInf, nan},
	} {
		if got := Clamp(c.x, c.lo, c.hi); !alike(got, c.want) {
			t.Errorf("Clamp(%g, %g, %g) = %g, not %g", c.x, c.lo, c.hi, got, c.want)
		}
	}
}

func TestClampOfAll(t *testing.T) {
	for _, x := range all() {
		for _, lo := range all() {
			for _, hi := range all() {
				want := x
				if Order(x, lo) == -1 {
					want = lo
				} else if Order(x, hi) == 1 {
					want = hi
				}
				if got := Clamp(x, lo, hi); !alike(got, Canon(want)) {
					t.Fatalf("Clamp(%g, %g, %g) = %g", x, lo, hi, got)
				}
			}
		}
	}
}

// P1.3

func TestMid(t *testing.T) {
	nan, other := math.Float64frombits(0x7ff8000000000001), math.Float64frombits(0xfff0000000000007)
	for _, c := range []struct {
		l    []float64
		want float64
	}{
		{nil, nan},
		{[]float64{}, nan},
		{[]float64{2}, 2},
		{[]float64{other}, nan},
		{[]float64{minusZero}, 0},
		{[]float64{2, 1}, 1},
		{[]float64{3, other, 1}, 3},
		{[]float64{4, 1, 3, 2}, 2},
		{[]float64{5, 4, 3, 2, 1}, 3},
		{[]float64{other, minusInf}, minusInf},
		{[]float64{other, inf}, inf},
		{[]float64{other, nan, inf}, nan},
		{[]float64{other, nan, inf, 1}, inf},
		{[]float64{1, minusZero, -1}, 0},
		{[]float64{0, minusZero, minusZero}, 0},
		{[]float64{7, 7, 1, 7}, 7},
		{[]float64{inf, minusInf, 0, other}, 0},
	} {
		if got := Mid(c.l); !alike(got, c.want) {
			t.Errorf("Mid(%v) = %g, not %g", c.l, got, c.want)
		}
	}
}

// Just so many come ahead of the one in the middle that it stands at its place.
func TestMidStandsAtItsPlace(t *testing.T) {
	for n := 1; n <= 200; n++ {
		l := mixed(n)
		mid := Mid(l)
		ahead, upTo := 0, 0
		for _, x := range l {
			if Order(x, mid) < 0 {
				ahead++
			}
			if Order(x, mid) <= 0 {
				upTo++
			}
		}
		if at := (n - 1) / 2; ahead > at || upTo <= at || !alike(mid, Canon(mid)) {
			t.Errorf("Mid of %d numbers: %g, with %d ahead of it", n, mid, ahead)
		}
	}
}

// R6: what is handed in is not changed, nor what lies behind it.
func TestMidLeavesItsList(t *testing.T) {
	l := []float64{3, math.Float64frombits(0xfff8000000000007), minusZero, 1, 0, 9, 8}
	was := slices.Clone(l)
	Mid(l[:5])
	if !slices.EqualFunc(l, was, alike) {
		t.Errorf("Mid changed its list: %v", l)
	}
}

// P1.4

func TestCode(t *testing.T) {
	for _, c := range []struct {
		x    float64
		want uint64
	}{
		{0, 0x8000000000000000},
		{minusZero, 0x8000000000000000},
		{math.SmallestNonzeroFloat64, 0x8000000000000001},
		{-math.SmallestNonzeroFloat64, 0x7ffffffffffffffe},
		{1, 0xbff0000000000000},
		{-1, 0x400fffffffffffff},
		{math.MaxFloat64, 0xffefffffffffffff},
		{-math.MaxFloat64, 0x0010000000000000},
		{inf, 0xfff0000000000000},
		{minusInf, 0x000fffffffffffff},
	} {
		if got := Code(c.x); got != c.want {
			t.Errorf("Code(%g) = %x, not %x", c.x, got, c.want)
		}
	}
	for _, x := range nans() {
		if got := Code(x); got != 0xfff8000000000001 {
			t.Errorf("Code of the NaN %x: %x", math.Float64bits(x), got)
		}
	}
}

func TestDecodeOfCode(t *testing.T) {
	for _, x := range append(all(), mixed(5000)...) {
		if y, is := Decode(Code(x)); !is || !alike(y, Canon(x)) {
			t.Errorf("Decode of the code of %x: %x, %v", math.Float64bits(x), math.Float64bits(y), is)
		}
	}
}

func TestDecodeOfNoCode(t *testing.T) {
	for _, c := range []uint64{
		0, 1, 0x0007fffffffffffe, 0x000ffffffffffffe, // below -Inf's
		0x7fffffffffffffff,                     // -0's
		0xfff0000000000001, 0xfff8000000000000, // between Inf's and NaN's
		0xfff8000000000002, 0xffffffffffffffff, // above NaN's
	} {
		if x, is := Decode(c); is || !alike(x, 0) {
			t.Errorf("Decode(%x) = %g, %v", c, x, is)
		}
	}
}

func TestDecodeOfAnyCode(t *testing.T) {
	for _, m := range mixed(20000) {
		c := math.Float64bits(m)
		x, is := Decode(c)
		belongs := c >= 0x000fffffffffffff && c <= 0xfff0000000000000 && c != 0x7fffffffffffffff || c == 0xfff8000000000001
		if is != belongs || is && Code(x) != c || is && !alike(x, Canon(x)) || !is && !alike(x, 0) {
			t.Errorf("Decode(%x) = %x, %v", c, math.Float64bits(x), is)
		}
	}
}

// P1.5

func TestCodesRise(t *testing.T) {
	l := append(all(), mixed(400)...)
	for _, a := range l {
		for _, b := range l {
			if (Code(a) < Code(b)) != (Order(a, b) < 0) || (Code(a) == Code(b)) != Same(a, b) {
				t.Errorf("codes of %g and %g: %x and %x", a, b, Code(a), Code(b))
			}
		}
	}
}

// P1.6

func TestOrderIsOne(t *testing.T) {
	l := append(all(), mixed(60)...)
	for _, a := range l {
		if Order(a, a) != 0 {
			t.Errorf("%g isn't the same as itself", a)
		}
		for _, b := range l {
			ab := Order(a, b)
			if ab != -Order(b, a) || ab < -1 || ab > 1 {
				t.Errorf("Order of %g and %g, and turned: %d, %d", a, b, ab, Order(b, a))
			}
			for _, c := range l {
				if ab <= 0 && Order(b, c) <= 0 && Order(a, c) != min(ab, Order(b, c)) {
					t.Fatalf("%g, %g, %g: the order doesn't go through", a, b, c)
				}
			}
		}
	}
}

// The chapter's examples.
func TestExamples(t *testing.T) {
	nan := math.NaN()
	if Order(minusZero, 0) != 0 || Order(nan, inf) != 1 || Mid([]float64{3, nan, 1}) != 3 || Code(0) != 0x8000000000000000 {
		t.Errorf("%d, %d, %g, %x", Order(minusZero, 0), Order(nan, inf), Mid([]float64{3, nan, 1}), Code(0))
	}
}
