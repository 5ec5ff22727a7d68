package span

import (
	"math"
	"math/big"
	"testing"

	"dewpond/api"
	"dewpond/twig"
)

// nought is -0, which is the same as 0 here.
var nought = math.Copysign(0, -1)

// parts are what a span's parts may be, ordinary ones, edges and wrong ones. Each of them is tried as each part.
var parts = []float64{
	math.NaN(), math.Inf(1), math.Inf(-1), nought, 0, 1, 2, 3, 4, 5, 6, 7, 8, 9, 11, 1000, 1 << 16,
	0.5, 1.5, 2.000001, 6.999999, -0.5, -1, -2, -3, 1<<46 + 0.5, 1<<47 - 1, 1 << 47,
	Last - 2, Last - 1, Last - 0.5, Last, Last + 0.5, Last + 1, Last + 2, 1 << 49, 1<<52 - 0.5, 1 << 53, 1 << 62, 1 << 63, 1 << 64, 1<<64 + 4096,
	-Last, -Last - 1, -(1 << 63), -(1 << 64), 1e300, -1e300, math.MaxFloat64, -math.MaxFloat64,
	math.SmallestNonzeroFloat64, -math.SmallestNonzeroFloat64, 1e-30, math.Nextafter(1, 0), math.Nextafter(1, 2), math.Nextafter(Last, 0), math.Nextafter(Last, math.Inf(1)),
}

// numbers are values, bits and steps, edges and wrong ones among them.
var numbers = []int{
	math.MinInt, math.MinInt + 1, -1 << 62, -1<<53 - 1, -1 << 49, -1<<48 - 1, -1 << 48, -Last, -Last + 1, -1 << 47, -65, -64, -9, -8, -7, -4, -3, -2, -1,
	0, 1, 2, 3, 4, 5, 6, 7, 8, 9, 10, 11, 12, 31, 32, 33, 44, 45, 46, 47, 48, 49, 50, 52, 53, 54, 61, 62, 63, 64, 65, 128, 1000, 1 << 16,
	1<<47 - 1, 1 << 47, 1<<47 + 1, Last - 2, Last - 1, Last, Last + 1, Last + 2, 1 << 49, 1<<53 - 1, 1 << 53, 1<<53 + 1, 1 << 62, math.MaxInt - 1, math.MaxInt,
}

// told is what a complex number is: its ends, if it is a span.
type told struct {
	s      complex128
	lo, hi int
	ok     bool
}

// value is the whole number from 0 to Last that a part is, found without the float's own reckoning.
func value(part float64) (int, bool) {
	if math.IsNaN(part) || math.IsInf(part, 0) {
		return 0, false
	}
	n, exact := big.NewFloat(part).Int(nil)
	if exact != big.Exact || n.Sign() < 0 || n.BitLen() > 48 {
		return 0, false
	}
	return int(n.Int64()), true
}

func tell(s complex128) told {
	lo, ok := value(real(s))
	hi, ok2 := value(imag(s))
	if !ok || !ok2 || lo > hi {
		return told{s: s}
	}
	return told{s, lo, hi, true}
}

func all() []told {
	var l []told
	for _, re := range parts {
		for _, im := range parts {
			l = append(l, tell(complex(re, im)))
		}
	}
	return l
}

// wantOf is the span between two numbers of any size, if there is one.
func wantOf(lo, hi *big.Int) (complex128, bool) {
	if lo.Sign() < 0 || hi.BitLen() > 48 || lo.Cmp(hi) > 0 {
		return 0, false
	}
	return complex(float64(lo.Int64()), float64(hi.Int64())), true
}

func wantSmall(lo, hi int) (complex128, bool) {
	return wantOf(big.NewInt(int64(lo)), big.NewInt(int64(hi)))
}

// hold holds the span that a call answered against the one it should.
func hold(t *testing.T, name string, args any, got complex128, ok bool, want complex128, right bool) {
	t.Helper()
	if got != want || ok != right {
		t.Errorf("%s of %v is %v, %v, and should be %v, %v", name, args, got, ok, want, right)
	}
}

// P3.1

func TestLast(t *testing.T) {
	last := Last
	if last != 281474976710655 {
		t.Error(last)
	}
}

func TestRight(t *testing.T) {
	for _, s := range []complex128{
		0, 1i, 2 + 3i, 3 + 3i, 7 + 1000i, Last * 1i, complex(Last, Last), complex(Last-1, Last),
		complex(nought, 0), complex(0, nought), complex(nought, nought), complex(nought, 5),
	} {
		if !Right(s) {
			t.Errorf("%v is a span", s)
		}
	}
	for _, s := range []complex128{
		1, 3 + 2i, complex(Last, Last-1), complex(Last, 0), -1, -1i, -1 + 1i, -2 - 1i, complex(1, -1),
		complex(0.5, 1), complex(0, 0.5), complex(0.5, 0.5), complex(1, 1.5), complex(-0.5, 0), complex(0, Last-0.5), complex(Last-0.5, Last), complex(Last, Last+0.5),
		complex(0, Last+1), complex(Last+1, Last+1), complex(0, 1<<63), complex(1<<63, 1<<63), complex(0, 1<<64), complex(1<<64, 1<<64), complex(0, 1e300),
		complex(math.NaN(), 1), complex(0, math.NaN()), complex(math.NaN(), math.NaN()),
		complex(0, math.Inf(1)), complex(math.Inf(-1), 0), complex(math.Inf(1), math.Inf(1)), complex(math.Inf(-1), math.Inf(1)),
		complex(math.SmallestNonzeroFloat64, 1), complex(-math.SmallestNonzeroFloat64, 1),
	} {
		if Right(s) {
			t.Errorf("%v is no span", s)
		}
	}
}

func TestOf(t *testing.T) {
	s, ok := Of(2, 3)
	hold(t, "Of", "2, 3", s, ok, 2+3i, true)
	s, ok = Of(0, Last)
	hold(t, "Of", "0, Last", s, ok, complex(0, 281474976710655), true)
	s, ok = Of(3, 2)
	hold(t, "Of", "3, 2", s, ok, 0, false)
	for _, lo := range numbers {
		for _, hi := range numbers {
			want, right := wantSmall(lo, hi)
			s, ok := Of(lo, hi)
			hold(t, "Of", []int{lo, hi}, s, ok, want, right)
			if Right(s) != right && s != 0 {
				t.Errorf("Of(%d, %d) is %v, which is no span", lo, hi, s)
			}
		}
	}
}

func TestOnesAgainstParts(t *testing.T) {
	for _, w := range all() {
		if Right(w.s) != w.ok {
			t.Errorf("Right of %v isn't %v", w.s, w.ok)
		}
		lo, hi, ok := Ends(w.s)
		if lo != w.lo || hi != w.hi || ok != w.ok {
			t.Errorf("Ends of %v are %d, %d, %v", w.s, lo, hi, ok)
		}
		width := 0
		if w.ok {
			width = w.hi + 1 - w.lo
		}
		if got := Width(w.s); got != width {
			t.Errorf("Width of %v is %d, and should be %d", w.s, got, width)
		}
	}
}

// P3.2

func TestNode(t *testing.T) {
	for _, r := range []struct {
		l, id int
		want  complex128
		ok    bool
	}{
		{3, 5, 2 + 3i, true}, {3, 1, 7i, true}, {3, 8, 0, true}, {3, 14, 6 + 6i, true}, {3, 15, 7 + 7i, true}, {1, 1, 1i, true}, {1, 3, 1 + 1i, true},
		{48, 1, Last * 1i, true}, {48, 3, complex(1<<47, Last), true}, {48, 1<<49 - 1, complex(Last, Last), true}, {48, 1 << 48, 0, true},
		{3, 16, 0, false}, {3, 0, 0, false}, {3, -5, 0, false}, {0, 1, 0, false}, {-1, 1, 0, false}, {49, 1, 0, false}, {48, 1 << 49, 0, false},
	} {
		s, ok := Node(r.l, r.id)
		hold(t, "Node", []int{r.l, r.id}, s, ok, r.want, r.ok)
	}
	for _, l := range numbers {
		for _, id := range append([]int{1<<48 + 1, 1<<49 - 1}, numbers...) {
			lo, hi, right := twig.Ends(l, id)
			s, ok := Node(l, id)
			hold(t, "Node", []int{l, id}, s, ok, complex(float64(lo), float64(hi)), right)
		}
	}
}

func TestWidth(t *testing.T) {
	for _, r := range []struct {
		s    complex128
		want int
	}{
		{0, 1}, {1i, 2}, {2 + 3i, 2}, {3 + 3i, 1}, {4 + 9i, 6}, {Last * 1i, 1 << 48}, {complex(1, Last), Last}, {complex(Last, Last), 1}, {complex(nought, 0), 1},
		{3 + 2i, 0}, {-1 + 1i, 0}, {complex(0.5, 3), 0}, {complex(0, 3.5), 0}, {complex(0, Last+1), 0}, {complex(0, math.NaN()), 0}, {complex(math.Inf(-1), math.Inf(1)), 0},
	} {
		if got := Width(r.s); got != r.want {
			t.Errorf("Width of %v is %d, and should be %d", r.s, got, r.want)
		}
	}
}

func TestHolds(t *testing.T) {
	for _, w := range all() {
		for _, x := range numbers {
			want := w.ok && x >= w.lo && x <= w.hi
			if got := Holds(w.s, x); got != want {
				t.Errorf("Holds(%v, %d) is %v", w.s, x, got)
			}
		}
	}
	if !Holds(2+5i, 2) || !Holds(2+5i, 5) || !Holds(2+5i, 3) || Holds(2+5i, 1) || Holds(2+5i, 6) || Holds(5+2i, 3) || Holds(complex(1.5, 5), 3) {
		t.Error("2 to 5 holds these")
	}
}

// P3.3, P3.4: each complex number with each.

func TestTwosAgainstParts(t *testing.T) {
	l := all()
	for _, a := range l {
		for _, b := range l {
			both := a.ok && b.ok
			if got, want := Within(a.s, b.s), both && a.lo >= b.lo && a.hi <= b.hi; got != want {
				t.Errorf("Within(%v, %v) is %v", a.s, b.s, got)
			}
			apart := both && (a.hi < b.lo || b.hi < a.lo)
			if got := Apart(a.s, b.s); got != apart {
				t.Errorf("Apart(%v, %v) is %v", a.s, b.s, got)
			}
			var cut, hull complex128
			if both {
				hull = complex(float64(min(a.lo, b.lo)), float64(max(a.hi, b.hi)))
			}
			if both && !apart {
				cut = complex(float64(max(a.lo, b.lo)), float64(min(a.hi, b.hi)))
			}
			if got, ok := Cut(a.s, b.s); got != cut || ok != (both && !apart) {
				t.Errorf("Cut(%v, %v) is %v, %v", a.s, b.s, got, ok)
			}
			if got, ok := Hull(a.s, b.s); got != hull || ok != both {
				t.Errorf("Hull(%v, %v) is %v, %v", a.s, b.s, got, ok)
			}
		}
	}
}

func TestWithinAndApart(t *testing.T) {
	for _, r := range []struct {
		a, b          complex128
		within, apart bool
	}{
		{2 + 3i, 2 + 3i, true, false}, {2 + 3i, 1 + 4i, true, false}, {2 + 3i, 2 + 4i, true, false}, {2 + 3i, 1 + 3i, true, false},
		{1 + 4i, 2 + 3i, false, false}, {1 + 3i, 2 + 3i, false, false}, {2 + 4i, 2 + 3i, false, false}, {1 + 2i, 2 + 3i, false, false}, {3 + 4i, 2 + 3i, false, false},
		{0 + 1i, 2 + 3i, false, true}, {2 + 3i, 0 + 1i, false, true}, {5 + 5i, 6 + 6i, false, true}, {6 + 6i, 5 + 5i, false, true},
		{0, Last * 1i, true, false}, {Last * 1i, 0, false, false}, {complex(Last, Last), 0, false, true},
		{3 + 2i, 0 + 9i, false, false}, {0 + 9i, 3 + 2i, false, false}, {3 + 2i, 7 + 9i, false, false}, {7 + 9i, 3 + 2i, false, false}, {3 + 2i, 3 + 2i, false, false},
		{complex(0.5, 1), 7 + 9i, false, false}, {7 + 9i, complex(0.5, 1), false, false}, {complex(2, 2.5), 0 + 9i, false, false},
		{2 + 3i, complex(0, Last+1), false, false}, {2 + 3i, complex(0, math.Inf(1)), false, false}, {2 + 3i, complex(0, math.NaN()), false, false}, {-2 - 1i, 2 + 3i, false, false},
	} {
		if got := Within(r.a, r.b); got != r.within {
			t.Errorf("Within(%v, %v) is %v", r.a, r.b, got)
		}
		if got := Apart(r.a, r.b); got != r.apart {
			t.Errorf("Apart(%v, %v) is %v", r.a, r.b, got)
		}
	}
}

// P3.4

func TestHull(t *testing.T) {
	for _, r := range []struct {
		l    []complex128
		want complex128
		ok   bool
	}{
		{nil, 0, false}, {[]complex128{}, 0, false}, {[]complex128{0}, 0, true}, {[]complex128{5 + 6i}, 5 + 6i, true},
		{[]complex128{5 + 6i, 1 + 2i, 2 + 9i}, 1 + 9i, true}, {[]complex128{1 + 9i, 2 + 3i, 4 + 4i}, 1 + 9i, true}, {[]complex128{4 + 4i, 1 + 1i, 8 + 8i, 6 + 6i}, 1 + 8i, true},
		{[]complex128{complex(Last, Last), complex(Last, Last)}, complex(Last, Last), true}, {[]complex128{complex(Last, Last), 0}, Last * 1i, true},
		{[]complex128{3 + 2i}, 0, false}, {[]complex128{3 + 2i, 0 + 9i}, 0, false}, {[]complex128{0 + 9i, 3 + 2i}, 0, false}, {[]complex128{0 + 9i, 3 + 2i, 0 + 9i}, 0, false},
		{[]complex128{1 + 2i, complex(0.5, 1)}, 0, false}, {[]complex128{1 + 2i, complex(0, Last+1)}, 0, false}, {[]complex128{1 + 2i, complex(math.NaN(), 3)}, 0, false},
		{[]complex128{complex(nought, nought)}, 0, true},
	} {
		s, ok := Hull(r.l...)
		hold(t, "Hull", r.l, s, ok, r.want, r.ok)
	}
}

func TestHullOfMany(t *testing.T) {
	var l []complex128
	for n := range 10000 {
		x := float64(n*7919%10000 + 5)
		l = append(l, complex(x, x+2))
	}
	s, ok := Hull(l...)
	hold(t, "Hull", "10000 spans", s, ok, 5+10006i, true)
	l[9999] = 2 + 1i
	s, ok = Hull(l...)
	hold(t, "Hull", "10000 spans, the last one wrong", s, ok, 0, false)
}

func TestHullLeavesItsList(t *testing.T) {
	memory := []complex128{5 + 6i, 1 + 2i, 2 + 9i, 0 + 99i, 3 + 2i}
	s, ok := Hull(memory[:3]...)
	hold(t, "Hull", memory[:3], s, ok, 1+9i, true)
	for i, want := range []complex128{5 + 6i, 1 + 2i, 2 + 9i, 0 + 99i, 3 + 2i} {
		if memory[i] != want {
			t.Errorf("at %d stands %v now", i, memory[i])
		}
	}
}

func TestCut(t *testing.T) {
	for _, r := range []struct {
		a, b, want complex128
		ok         bool
	}{
		{4 + 7i, 6 + 9i, 6 + 7i, true}, {6 + 9i, 4 + 7i, 6 + 7i, true}, {1 + 9i, 3 + 4i, 3 + 4i, true}, {3 + 4i, 1 + 9i, 3 + 4i, true}, {2 + 3i, 2 + 3i, 2 + 3i, true},
		{2 + 4i, 4 + 6i, 4 + 4i, true}, {0, Last * 1i, 0, true}, {complex(Last, Last), Last * 1i, complex(Last, Last), true},
		{2 + 3i, 4 + 6i, 0, false}, {4 + 6i, 2 + 3i, 0, false}, {0, complex(Last, Last), 0, false},
		{3 + 2i, 0 + 9i, 0, false}, {0 + 9i, 3 + 2i, 0, false}, {0 + 9i, complex(2, 3.5), 0, false}, {complex(0, math.Inf(1)), 2 + 3i, 0, false}, {2 + 3i, complex(-1, 3), 0, false},
	} {
		s, ok := Cut(r.a, r.b)
		hold(t, "Cut", []complex128{r.a, r.b}, s, ok, r.want, r.ok)
	}
}

// P3.5

type row struct {
	s    complex128
	n    int
	want complex128
	ok   bool
}

func rows(t *testing.T, name string, f func(s complex128, n int) (complex128, bool), l []row) {
	t.Helper()
	for _, r := range l {
		s, ok := f(r.s, r.n)
		hold(t, name, []any{r.s, r.n}, s, ok, r.want, r.ok)
	}
}

func TestGrow(t *testing.T) {
	rows(t, "Grow", Grow, []row{
		{2 + 3i, 1, 4 + 7i, true}, {2 + 3i, 0, 2 + 3i, true}, {2 + 3i, 2, 8 + 15i, true}, {5 + 5i, 3, 40 + 47i, true},
		{0, 0, 0, true}, {0, 1, 1i, true}, {0, 47, complex(0, 1<<47-1), true}, {0, 48, Last * 1i, true}, {0, 49, 0, false}, {0, 63, 0, false}, {0, 64, 0, false}, {0, 128, 0, false},
		{1i, 47, Last * 1i, true}, {1 + 1i, 47, complex(1<<47, Last), true}, {1i, 48, 0, false}, {2i, 47, 0, false}, {1 + 1i, 48, 0, false},
		{Last * 1i, 0, Last * 1i, true}, {complex(Last, Last), 0, complex(Last, Last), true}, {Last * 1i, 1, 0, false}, {complex(Last, Last), 48, 0, false},
		{complex(0, 1<<47-1), 1, Last * 1i, true}, {complex(0, 1<<47), 1, 0, false}, {complex(1<<47-1, 1<<47-1), 1, complex(Last-1, Last), true},
		{2 + 3i, -1, 0, false}, {0, -1, 0, false}, {2 + 3i, math.MinInt, 0, false}, {2 + 3i, math.MaxInt, 0, false}, {0, math.MaxInt, 0, false},
		{3 + 2i, 0, 0, false}, {3 + 2i, 1, 0, false}, {complex(0.5, 1), 1, 0, false}, {complex(0.5, 1.5), 1, 0, false}, {complex(0, math.NaN()), 0, 0, false}, {complex(0, math.Inf(1)), 0, 0, false}, {-1 + 1i, 1, 0, false},
	})
}

func TestShrink(t *testing.T) {
	rows(t, "Shrink", Shrink, []row{
		{4 + 7i, 1, 2 + 3i, true}, {5 + 6i, 1, 2 + 3i, true}, {5 + 6i, 0, 5 + 6i, true}, {5 + 6i, 2, 1 + 1i, true}, {5 + 6i, 3, 0, true}, {7 + 8i, 3, 1i, true},
		{Last * 1i, 47, 1i, true}, {Last * 1i, 48, 0, true}, {complex(Last, Last), 47, 1 + 1i, true}, {complex(Last, Last), 1, complex(1<<47-1, 1<<47-1), true}, {complex(Last, Last), 48, 0, true},
		{5 + 6i, 49, 0, true}, {5 + 6i, 63, 0, true}, {5 + 6i, 64, 0, true}, {complex(Last, Last), 65, 0, true}, {complex(Last, Last), math.MaxInt, 0, true},
		{5 + 6i, -1, 0, false}, {0, -1, 0, false}, {5 + 6i, math.MinInt, 0, false},
		{3 + 2i, 0, 0, false}, {3 + 2i, 2, 0, false}, {complex(2.5, 3), 1, 0, false}, {complex(0, Last+1), 1, 0, false}, {complex(-2, 3), 2, 0, false}, {complex(0, math.NaN()), 48, 0, false}, {complex(0, math.Inf(1)), 64, 0, false},
	})
}

func TestMove(t *testing.T) {
	rows(t, "Move", Move, []row{
		{4 + 7i, -4, 3i, true}, {4 + 7i, 0, 4 + 7i, true}, {4 + 7i, 5, 9 + 12i, true}, {4 + 7i, -3, 1 + 4i, true}, {4 + 7i, -5, 0, false}, {4 + 7i, -7, 0, false}, {4 + 7i, -8, 0, false},
		{0, Last, complex(Last, Last), true}, {0, Last + 1, 0, false}, {complex(Last, Last), -Last, 0, true}, {complex(Last, Last), -Last - 1, 0, false},
		{2 + 3i, Last - 3, complex(Last-1, Last), true}, {2 + 3i, Last - 2, 0, false}, {2 + 3i, Last - 1, 0, false}, {complex(Last, Last), 1, 0, false}, {Last * 1i, 1, 0, false}, {Last * 1i, -1, 0, false}, {Last * 1i, 0, Last * 1i, true},
		{0, -1, 0, false}, {0, math.MaxInt, 0, false}, {0, math.MinInt, 0, false}, {complex(Last, Last), math.MinInt, 0, false}, {complex(Last, Last), math.MaxInt, 0, false},
		{3 + 2i, 0, 0, false}, {3 + 2i, 5, 0, false}, {-1 + 2i, 1, 0, false}, {complex(-3, -1), 4, 0, false}, {complex(Last+1, Last+1), -5, 0, false}, {complex(Last+1, Last+2), -Last, 0, false},
		{complex(0.5, 1), 1, 0, false}, {complex(0, math.NaN()), 1, 0, false}, {complex(0, math.Inf(1)), 1, 0, false},
	})
}

// What Grow, Shrink and Move answer of each complex number by each number, held against whole numbers of any size.

func TestChangesAgainstParts(t *testing.T) {
	for _, w := range all() {
		for _, n := range numbers {
			grown, shrunk, moved := complex128(0), complex128(0), complex128(0)
			grows, shrinks, moves := false, false, false
			lo, hi := big.NewInt(int64(w.lo)), big.NewInt(int64(w.hi))
			if w.ok && n >= 0 {
				cut := uint(min(n, 200))
				after := new(big.Int).Add(hi, big.NewInt(1))
				last := new(big.Int).Sub(after.Lsh(after, cut), big.NewInt(1))
				grown, grows = wantOf(new(big.Int).Lsh(lo, cut), last)
				shrunk, shrinks = wantOf(new(big.Int).Rsh(lo, cut), new(big.Int).Rsh(hi, cut))
			}
			if w.ok {
				by := big.NewInt(int64(n))
				moved, moves = wantOf(new(big.Int).Add(lo, by), new(big.Int).Add(hi, by))
			}
			args := []any{w.s, n}
			s, ok := Grow(w.s, n)
			hold(t, "Grow", args, s, ok, grown, grows)
			s, ok = Shrink(w.s, n)
			hold(t, "Shrink", args, s, ok, shrunk, shrinks)
			s, ok = Move(w.s, n)
			hold(t, "Move", args, s, ok, moved, moves)
		}
	}
}

// What spans are by the words of the chapter: sets of values, here those below 64, a bit each.

type set uint64

// short are all spans of values from 0 to 10, and what they hold.
func short() map[complex128]set {
	m := map[complex128]set{}
	for lo := range 11 {
		var held set
		for hi := lo; hi < 11; hi++ {
			held |= 1 << hi
			m[complex(float64(lo), float64(hi))] = held
		}
	}
	return m
}

func setOf(s complex128) set {
	var held set
	for x := range 64 {
		if Holds(s, x) {
			held |= 1 << x
		}
	}
	return held
}

func TestTwosByWords(t *testing.T) {
	all := short()
	for a, holdsA := range all {
		if setOf(a) != holdsA {
			t.Errorf("%v holds %b", a, setOf(a))
		}
		for b, holdsB := range all {
			if got := Within(a, b); got != (holdsA&^holdsB == 0) {
				t.Errorf("Within(%v, %v) is %v", a, b, got)
			}
			if got := Apart(a, b); got != (holdsA&holdsB == 0) {
				t.Errorf("Apart(%v, %v) is %v", a, b, got)
			}
			cut, ok := Cut(a, b)
			if ok && setOf(cut) != holdsA&holdsB || ok != (holdsA&holdsB != 0) {
				t.Errorf("Cut(%v, %v) is %v, %v", a, b, cut, ok)
			}
			hull, ok := Hull(a, b)
			if !ok || all[hull] == 0 {
				t.Errorf("Hull(%v, %v) is %v, %v", a, b, hull, ok)
			}
			// The least one is within just those that hold what both hold.
			for c, holdsC := range all {
				if around := (holdsA|holdsB)&^holdsC == 0; around != (all[hull]&^holdsC == 0) {
					t.Errorf("Hull(%v, %v) is %v, but %v holds them: %v", a, b, hull, c, around)
				}
			}
		}
	}
}

func TestChangesByWords(t *testing.T) {
	for s, held := range short() {
		for bits := range 3 {
			var grown, shrunk set
			for x := range 64 {
				if held>>(x>>bits)&1 == 1 {
					grown |= 1 << x
				}
				if held>>x&1 == 1 {
					shrunk |= 1 << (x >> bits)
				}
			}
			if got, ok := Grow(s, bits); !ok || setOf(got) != grown {
				t.Errorf("Grow(%v, %d) is %v, %v", s, bits, got, ok)
			}
			if got, ok := Shrink(s, bits); !ok || setOf(got) != shrunk {
				t.Errorf("Shrink(%v, %d) is %v, %v", s, bits, got, ok)
			}
		}
		for by := -12; by <= 12; by++ {
			var moved set
			fits := true
			for x := range 64 {
				if held>>x&1 == 1 && x+by < 0 {
					fits = false
				} else if held>>x&1 == 1 {
					moved |= 1 << (x + by)
				}
			}
			got, ok := Move(s, by)
			if ok != fits || ok && setOf(got) != moved || !ok && got != 0 {
				t.Errorf("Move(%v, %d) is %v, %v", s, by, got, ok)
			}
		}
	}
}

// wide are spans of all sizes.
func wide() []complex128 {
	var l []complex128
	for n := range 49 {
		for _, lo := range []int{0, 1, 5, 1<<n - 1, 1 << n, Last - 1<<n + 1, Last - 1, Last} {
			for _, width := range []int{1, 2, 3, 1 << n, 1<<n - 1} {
				if s, ok := Of(lo, lo+width-1); ok {
					l = append(l, s)
				}
			}
		}
	}
	return l
}

// P3.6

func TestLawGrownIsShrunkAgain(t *testing.T) {
	for _, s := range wide() {
		for bits := range 50 {
			grown, ok := Grow(s, bits)
			if fits := bits <= 48 && imag(s) < float64(int(1)<<(48-bits)); ok != fits {
				t.Errorf("Grow(%v, %d) is %v, %v", s, bits, grown, ok)
			}
			if !ok {
				continue
			}
			if got, ok := Shrink(grown, bits); !ok || got != s || Width(grown) != Width(s)<<bits {
				t.Errorf("%v, grown by %d to %v, is shrunk to %v, %v", s, bits, grown, got, ok)
			}
		}
	}
}

func TestLawMovedIsMovedBack(t *testing.T) {
	for _, s := range wide() {
		lo, hi, _ := Ends(s)
		for _, by := range append([]int{-lo, -lo - 1, Last - hi, Last - hi + 1}, numbers...) {
			moved, ok := Move(s, by)
			if !ok {
				continue
			}
			if got, ok := Move(moved, -by); !ok || got != s || Width(moved) != Width(s) {
				t.Errorf("%v, moved by %d to %v, is moved back to %v, %v", s, by, moved, got, ok)
			}
		}
		if moved, ok := Move(s, -lo); !ok || moved != complex(0, imag(s)-real(s)) {
			t.Errorf("%v, moved to 0, is %v, %v", s, moved, ok)
		}
		if moved, ok := Move(s, Last-hi); !ok || imag(moved) != Last {
			t.Errorf("%v, moved to Last, is %v, %v", s, moved, ok)
		}
	}
}

func TestLawHullAndCut(t *testing.T) {
	l := wide()
	whole, ok := Hull(l...)
	hold(t, "Hull", "all of them", whole, ok, Last*1i, true)
	for i := 0; i < len(l); i += 7 {
		for _, b := range l {
			a := l[i]
			hull, ok := Hull(a, b)
			if !ok || !Within(a, hull) || !Within(b, hull) || !Within(hull, whole) {
				t.Errorf("Hull(%v, %v) is %v, %v", a, b, hull, ok)
			}
			cut, ok := Cut(a, b)
			if ok == Apart(a, b) || ok && (!Within(cut, a) || !Within(cut, b)) {
				t.Errorf("Cut(%v, %v) is %v, %v", a, b, cut, ok)
			}
			if ok && Width(hull)+Width(cut) != Width(a)+Width(b) {
				t.Errorf("the hull of %v and %v is %v, their cut %v", a, b, hull, cut)
			}
		}
	}
}

// A node's span grows by a bit to what the node holds in the universe of a bit more.

func TestNodesAreSpans(t *testing.T) {
	for l := 1; l < api.MaxL; l++ {
		for depth := range l + 1 {
			first := 1 << depth
			for _, id := range []int{first, first + first/3, first + first/2, 2*first - 1} {
				s, ok := Node(l, id)
				lo, hi, _ := twig.Ends(l, id)
				if !ok || Width(s) != 1<<(l-depth) || !Holds(s, lo) || !Holds(s, hi) || Holds(s, lo-1) || Holds(s, hi+1) {
					t.Errorf("of %d bits, the span of %d is %v, %v", l, id, s, ok)
				}
				more, ok := Grow(s, 1)
				deep, ok2 := Node(l+1, id)
				if more != deep || ok != ok2 {
					t.Errorf("of %d bits, the span of %d is %v, which grows to %v, %v", l, id, s, more, ok)
				}
			}
		}
	}
}
