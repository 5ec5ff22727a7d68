package reckon

import (
	"math"
	"math/big"
	"testing"
)

// edges are the numbers at which words, counts and products end, and some ordinary and wrong ones.
var edges = []int{
	math.MinInt, math.MinInt + 1, -1 << 32, -2, -1,
	0, 1, 2, 3, 7, 10, 1<<31 - 1, 1 << 31, 1 << 32, 1<<32 + 1, 3037000499, 3037000500,
	1<<56 - 1, 1<<62 - 1, 1 << 62, 1<<62 + 1, Max / 3, Max - 1, Max,
}

var wides = []Wide{
	{}, {1, 0}, {9, 0}, {Max, 0}, {1 << 63, 0}, {1<<64 - 1, 0}, {0, 1}, {1, 1}, {1<<64 - 1, 1}, {0, 6}, {5, 6}, {0, 7},
	{1, 1<<62 - 1}, {1<<64 - 1, 1<<62 - 1}, {0, 1 << 62}, {1<<64 - 1, Max - 1}, {0, Max}, {0, 1 << 63},
	{1<<64 - 1, 1<<64 - 2}, {0, 1<<64 - 1}, {1<<64 - 2, 1<<64 - 1}, {1<<64 - 1, 1<<64 - 1},
}

func whole(n int) *big.Int { return big.NewInt(int64(n)) }

func times(a, b int) *big.Int { return new(big.Int).Mul(whole(a), whole(b)) }

func wide(w Wide) *big.Int {
	n := new(big.Int).SetUint64(w[1])
	n.Lsh(n, 64)
	return n.Add(n, new(big.Int).SetUint64(w[0]))
}

// count is n as a count, and whether it is one.
func count(n *big.Int) (int, bool) {
	if n.Sign() < 0 || n.Cmp(whole(Max)) > 0 {
		return 0, false
	}
	return int(n.Int64()), true
}

// floor and ceil are n parts of d, rounded; d is above 0, n not below it.
func floor(n, d *big.Int) *big.Int { return new(big.Int).Quo(n, d) }

func ceil(n, d *big.Int) *big.Int {
	q, r := new(big.Int).QuoRem(n, d, new(big.Int))
	if r.Sign() > 0 {
		q.Add(q, whole(1))
	}
	return q
}

func hold(t *testing.T, name string, args []int, got int, ok bool, want int, right bool) {
	t.Helper()
	if got != want || ok != right {
		t.Errorf("%s%v is %d, %v, and should be %d, %v", name, args, got, ok, want, right)
	}
}

type row struct {
	args []int
	want int
	ok   bool
}

func rows2(t *testing.T, name string, f func(a, b int) (int, bool), l []row) {
	t.Helper()
	for _, r := range l {
		got, ok := f(r.args[0], r.args[1])
		hold(t, name, r.args, got, ok, r.want, r.ok)
	}
}

func rows3(t *testing.T, name string, f func(a, b, c int) (int, bool), l []row) {
	t.Helper()
	for _, r := range l {
		got, ok := f(r.args[0], r.args[1], r.args[2])
		hold(t, name, r.args, got, ok, r.want, r.ok)
	}
}

// P1.1

func TestAdd(t *testing.T) {
	rows2(t, "Add", Add, []row{
		{[]int{2, 3}, 5, true}, {[]int{0, 0}, 0, true}, {[]int{Max, 0}, Max, true}, {[]int{0, Max}, Max, true},
		{[]int{Max - 1, 1}, Max, true}, {[]int{Max, 1}, 0, false}, {[]int{1, Max}, 0, false}, {[]int{Max, Max}, 0, false},
		{[]int{-1, 2}, 0, false}, {[]int{2, -1}, 0, false}, {[]int{math.MinInt, math.MinInt}, 0, false}, {[]int{Max, -1}, 0, false},
	})
}

func TestSub(t *testing.T) {
	rows2(t, "Sub", Sub, []row{
		{[]int{5, 3}, 2, true}, {[]int{0, 0}, 0, true}, {[]int{Max, Max}, 0, true}, {[]int{Max, 0}, Max, true},
		{[]int{3, 5}, 0, false}, {[]int{0, 1}, 0, false}, {[]int{0, Max}, 0, false},
		{[]int{-1, 0}, 0, false}, {[]int{-1, -2}, 0, false}, {[]int{3, -1}, 0, false}, {[]int{-1, math.MinInt}, 0, false},
	})
}

func TestMul(t *testing.T) {
	rows2(t, "Mul", Mul, []row{
		{[]int{6, 7}, 42, true}, {[]int{0, Max}, 0, true}, {[]int{Max, 0}, 0, true}, {[]int{1, Max}, Max, true},
		{[]int{1 << 32, 1 << 30}, 1 << 62, true}, {[]int{1 << 32, 1 << 31}, 0, false}, {[]int{1 << 32, 1 << 32}, 0, false},
		{[]int{2, 1<<62 - 1}, Max - 1, true}, {[]int{2, 1 << 62}, 0, false}, {[]int{Max, Max}, 0, false}, {[]int{7, Max / 7}, Max, true},
		{[]int{-1, -1}, 0, false}, {[]int{-1, 0}, 0, false}, {[]int{0, -1}, 0, false}, {[]int{3, math.MinInt}, 0, false},
	})
}

// P1.2

func TestDiv(t *testing.T) {
	rows2(t, "Div", Div, []row{
		{[]int{7, 2}, 3, true}, {[]int{8, 2}, 4, true}, {[]int{1, 2}, 0, true}, {[]int{0, 5}, 0, true},
		{[]int{Max, 1}, Max, true}, {[]int{Max, Max}, 1, true}, {[]int{Max - 1, Max}, 0, true}, {[]int{Max, 2}, 1<<62 - 1, true},
		{[]int{7, 0}, 0, false}, {[]int{0, 0}, 0, false}, {[]int{7, -1}, 0, false}, {[]int{-7, 2}, 0, false}, {[]int{-7, -2}, 0, false},
		{[]int{math.MinInt, -1}, 0, false},
	})
}

func TestUp(t *testing.T) {
	rows2(t, "Up", Up, []row{
		{[]int{7, 2}, 4, true}, {[]int{8, 2}, 4, true}, {[]int{1, 2}, 1, true}, {[]int{0, 5}, 0, true},
		{[]int{Max, 1}, Max, true}, {[]int{Max, Max}, 1, true}, {[]int{Max - 1, Max}, 1, true}, {[]int{Max, 2}, 1 << 62, true},
		{[]int{7, 0}, 0, false}, {[]int{0, 0}, 0, false}, {[]int{7, -1}, 0, false}, {[]int{-7, 2}, 0, false}, {[]int{-7, -2}, 0, false},
		{[]int{math.MinInt, -1}, 0, false},
	})
}

// P1.3

func TestPart(t *testing.T) {
	rows3(t, "Part", Part, []row{
		{[]int{10, 1, 3}, 3, true}, {[]int{9, 1, 3}, 3, true}, {[]int{10, 5, 3}, 16, true},
		{[]int{0, 5, 3}, 0, true}, {[]int{5, 0, 3}, 0, true}, {[]int{0, 0, 1}, 0, true}, {[]int{1, 1, Max}, 0, true},
		{[]int{Max, Max, Max}, Max, true}, {[]int{Max, Max - 1, Max}, Max - 1, true}, {[]int{Max, 1, 1}, Max, true},
		{[]int{1 << 62, 3, 2}, 3 << 61, true}, {[]int{1 << 62, 5, 2}, 0, false}, {[]int{1 << 62, 2, 1}, 0, false}, {[]int{1 << 62, 4, 1}, 0, false}, {[]int{Max, Max, 1}, 0, false},
		{[]int{Max, Max, Max - 1}, 0, false}, {[]int{Max - 1, Max, Max - 1}, Max, true},
		{[]int{1<<62 - 1, 1<<62 + 1, 1 << 61}, Max, true},
		{[]int{10, 1, 0}, 0, false}, {[]int{0, 0, 0}, 0, false}, {[]int{10, 1, -3}, 0, false}, {[]int{-10, 1, 3}, 0, false},
		{[]int{10, -1, 3}, 0, false}, {[]int{-10, -1, 3}, 0, false}, {[]int{0, -1, 3}, 0, false}, {[]int{10, 1, math.MinInt}, 0, false},
	})
}

func TestPartUp(t *testing.T) {
	rows3(t, "PartUp", PartUp, []row{
		{[]int{10, 1, 3}, 4, true}, {[]int{9, 1, 3}, 3, true}, {[]int{10, 5, 3}, 17, true}, {[]int{1 << 56, 3, 1 << 50}, 192, true},
		{[]int{0, 5, 3}, 0, true}, {[]int{5, 0, 3}, 0, true}, {[]int{0, 0, 1}, 0, true}, {[]int{1, 1, Max}, 1, true},
		{[]int{Max, Max, Max}, Max, true}, {[]int{Max, Max - 1, Max}, Max - 1, true}, {[]int{Max, 1, 1}, Max, true},
		{[]int{1 << 62, 3, 2}, 3 << 61, true}, {[]int{1 << 62, 5, 2}, 0, false}, {[]int{1 << 62, 2, 1}, 0, false}, {[]int{1 << 62, 4, 1}, 0, false}, {[]int{Max, Max, 1}, 0, false},
		// (2^62 - 1)(2^62 + 1) is 2^124 - 1: over 2^61 it lies between Max and a number that is no count.
		{[]int{1<<62 - 1, 1<<62 + 1, 1 << 61}, 0, false},
		{[]int{10, 1, 0}, 0, false}, {[]int{0, 0, 0}, 0, false}, {[]int{10, 1, -3}, 0, false}, {[]int{-10, 1, 3}, 0, false},
		{[]int{10, -1, 3}, 0, false}, {[]int{-10, -1, 3}, 0, false}, {[]int{0, -1, 3}, 0, false}, {[]int{10, 1, math.MinInt}, 0, false},
	})
}

// P1.4

func TestOrder(t *testing.T) {
	for _, r := range []row{
		{[]int{2, 3, 1, 7}, -1, true}, {[]int{2, 3, 1, 6}, 0, true}, {[]int{2, 3, 1, 5}, 1, true},
		{[]int{0, Max, 0, 0}, 0, true}, {[]int{0, 0, 0, 1}, 0, true}, {[]int{0, 0, 1, 1}, -1, true},
		{[]int{Max, Max, Max, Max}, 0, true}, {[]int{Max, Max, Max, Max - 1}, 1, true}, {[]int{Max - 1, Max, Max, Max}, -1, true},
		{[]int{1 << 32, 1 << 32, 1, 1}, 1, true}, {[]int{1, 5, 1 << 32, 1 << 32}, -1, true}, {[]int{1 << 33, 1 << 32, Max, 5}, -1, true},
		{[]int{1 << 40, 1 << 40, 1 << 20, 1 << 60}, 0, true}, {[]int{1<<40 + 1, 1 << 40, 1 << 20, 1 << 60}, 1, true},
		{[]int{-1, 1, 1, 1}, 0, false}, {[]int{1, -1, 1, 1}, 0, false}, {[]int{1, 1, -1, 1}, 0, false}, {[]int{1, 1, 1, -1}, 0, false},
		{[]int{-1, -1, 1, 2}, 0, false}, {[]int{-1, 0, 1, 2}, 0, false},
	} {
		got, ok := Order(r.args[0], r.args[1], r.args[2], r.args[3])
		hold(t, "Order", r.args, got, ok, r.want, r.ok)
	}
}

// P1.5

func TestLog(t *testing.T) {
	for e := range 63 {
		n := 1 << e
		for _, n := range []int{n, n + (n - 1)} {
			got, ok := Log(n)
			hold(t, "Log", []int{n}, got, ok, e, true)
		}
	}
	for _, n := range []int{0, -1, -8, math.MinInt} {
		got, ok := Log(n)
		hold(t, "Log", []int{n}, got, ok, 0, false)
	}
}

func TestPow(t *testing.T) {
	want := 1
	for e := range 63 {
		got, ok := Pow(e)
		hold(t, "Pow", []int{e}, got, ok, want, true)
		want *= 2
	}
	for _, e := range []int{63, 64, 65, 128, Max, -1, -62, -64, math.MinInt} {
		got, ok := Pow(e)
		hold(t, "Pow", []int{e}, got, ok, 0, false)
	}
}

// P1.6

func TestPlus(t *testing.T) {
	most := Wide{1<<64 - 1, 1<<64 - 1}
	for _, r := range []struct {
		w    Wide
		a, b int
		want Wide
		ok   bool
	}{
		{Wide{}, 0, 0, Wide{}, true},
		{Wide{5, 0}, 6, 7, Wide{47, 0}, true},
		{Wide{1<<64 - 1, 0}, 1, 1, Wide{0, 1}, true},
		{Wide{}, Max, Max, Wide{1, 1<<62 - 1}, true},
		{Wide{1<<64 - 1, 1}, Max, Max, Wide{0, 1<<62 + 1}, true},
		{Wide{1<<64 - 2, 1<<64 - 1}, 1, 1, most, true},
		{Wide{0, 1<<64 - 2}, 1 << 32, 1 << 32, Wide{0, 1<<64 - 1}, true},
		{most, 0, Max, most, true},
		{most, 1, 1, Wide{}, false},
		{Wide{0, 1<<64 - 1}, 1 << 32, 1 << 32, Wide{}, false},
		{Wide{1<<64 - 1, 1<<64 - 2}, 1 << 33, 1 << 32, Wide{}, false},
		{Wide{5, 5}, -1, 1, Wide{}, false},
		{Wide{5, 5}, 1, -1, Wide{}, false},
		{Wide{5, 5}, -1, -1, Wide{}, false},
		{Wide{5, 5}, 0, math.MinInt, Wide{}, false},
	} {
		if got, ok := Plus(r.w, r.a, r.b); got != r.want || ok != r.ok {
			t.Errorf("Plus(%v, %d, %d) is %v, %v, and should be %v, %v", r.w, r.a, r.b, got, ok, r.want, r.ok)
		}
	}
}

func TestPlusLeavesItsArgument(t *testing.T) {
	w := Wide{1, 2}
	if got, ok := Plus(w, 3, 4); !ok || got == w || w != (Wide{1, 2}) {
		t.Errorf("Plus answered %v, %v, and left %v", got, ok, w)
	}
}

func TestOver(t *testing.T) {
	for _, r := range []struct {
		w        Wide
		n, q     int
		rest, ok bool
	}{
		{Wide{}, 1, 0, false, true},
		{Wide{7, 0}, 2, 3, true, true},
		{Wide{8, 0}, 2, 4, false, true},
		{Wide{1, 0}, Max, 0, true, true},
		{Wide{Max, 0}, 1, Max, false, true},
		{Wide{1 << 63, 0}, 1, 0, false, false},
		{Wide{1<<64 - 1, 0}, 2, Max, true, true},
		{Wide{0, 1}, 2, 0, false, false},
		{Wide{0, 1}, 3, 6148914691236517205, true, true},
		{Wide{0, 1}, 1 << 32, 1 << 32, false, true},
		{Wide{1, 1}, 1 << 32, 1 << 32, true, true},
		{Wide{1, 1<<62 - 1}, Max, Max, false, true},
		{Wide{2, 1<<62 - 1}, Max, Max, true, true},
		{Wide{0, 5}, 5, 0, false, false},
		{Wide{1, 5}, 5, 0, false, false},
		{Wide{1<<64 - 1, 1<<64 - 1}, Max, 0, false, false},
		{Wide{1<<64 - 1, 1<<64 - 1}, 1, 0, false, false},
		{Wide{7, 0}, 0, 0, false, false},
		{Wide{}, 0, 0, false, false},
		{Wide{7, 0}, -1, 0, false, false},
		{Wide{7, 3}, math.MinInt, 0, false, false},
	} {
		if q, rest, ok := Over(r.w, r.n); q != r.q || rest != r.rest || ok != r.ok {
			t.Errorf("Over(%v, %d) is %d, %v, %v, and should be %d, %v, %v", r.w, r.n, q, rest, ok, r.q, r.rest, r.ok)
		}
	}
}

// P1.1 to P1.6, and P1: what every call answers at all the edges, held against numbers of any length.

func TestTwosAgainstBig(t *testing.T) {
	for _, a := range edges {
		for _, b := range edges {
			args := []int{a, b}
			right := a >= 0 && b >= 0
			calls := []struct {
				name string
				f    func(a, b int) (int, bool)
				ok   bool
				want func() *big.Int
			}{
				{"Add", Add, right, func() *big.Int { return new(big.Int).Add(whole(a), whole(b)) }},
				{"Sub", Sub, right, func() *big.Int { return new(big.Int).Sub(whole(a), whole(b)) }},
				{"Mul", Mul, right, func() *big.Int { return times(a, b) }},
				{"Div", Div, right && b > 0, func() *big.Int { return floor(whole(a), whole(b)) }},
				{"Up", Up, right && b > 0, func() *big.Int { return ceil(whole(a), whole(b)) }},
			}
			for _, c := range calls {
				want, ok := 0, false
				if c.ok {
					want, ok = count(c.want())
				}
				got, is := c.f(a, b)
				hold(t, c.name, args, got, is, want, ok)
			}
		}
	}
}

func TestPartsAgainstBig(t *testing.T) {
	for _, n := range edges {
		for _, num := range edges {
			for _, den := range edges {
				args := []int{n, num, den}
				down, downs, up, ups := 0, false, 0, false
				if n >= 0 && num >= 0 && den > 0 {
					down, downs = count(floor(times(n, num), whole(den)))
					up, ups = count(ceil(times(n, num), whole(den)))
				}
				got, ok := Part(n, num, den)
				hold(t, "Part", args, got, ok, down, downs)
				got, ok = PartUp(n, num, den)
				hold(t, "PartUp", args, got, ok, up, ups)
			}
		}
	}
}

func TestOrderAgainstBig(t *testing.T) {
	for _, a := range edges {
		for _, b := range edges {
			for _, c := range edges {
				for _, d := range edges {
					want, ok := 0, false
					if a >= 0 && b >= 0 && c >= 0 && d >= 0 {
						want, ok = times(a, b).Cmp(times(c, d)), true
					}
					got, is := Order(a, b, c, d)
					hold(t, "Order", []int{a, b, c, d}, got, is, want, ok)
				}
			}
		}
	}
}

func TestPlusAgainstBig(t *testing.T) {
	for _, w := range wides {
		for _, a := range edges {
			for _, b := range edges {
				sum := new(big.Int).Add(wide(w), times(a, b))
				right := a >= 0 && b >= 0 && sum.BitLen() <= 128
				got, ok := Plus(w, a, b)
				if ok != right || right && wide(got).Cmp(sum) != 0 || !right && got != (Wide{}) {
					t.Errorf("Plus(%v, %d, %d) is %v, %v", w, a, b, got, ok)
				}
			}
		}
	}
}

func TestOverAgainstBig(t *testing.T) {
	for _, w := range wides {
		for _, n := range edges {
			want, left, right := 0, false, false
			if n > 0 {
				q, r := new(big.Int).QuoRem(wide(w), whole(n), new(big.Int))
				want, right = count(q)
				left = right && r.Sign() != 0
			}
			if q, rest, ok := Over(w, n); q != want || rest != left || ok != right {
				t.Errorf("Over(%v, %d) is %d, %v, %v, and should be %d, %v, %v", w, n, q, rest, ok, want, left, right)
			}
		}
	}
}

func TestLogAndPowAtEdges(t *testing.T) {
	for _, n := range edges {
		want, ok := 0, n > 0
		if ok {
			want = whole(n).BitLen() - 1
		}
		got, is := Log(n)
		hold(t, "Log", []int{n}, got, is, want, ok)
		got, is = Pow(n)
		want, ok = 0, n >= 0 && n <= 62
		if ok {
			want = 1 << n
		}
		hold(t, "Pow", []int{n}, got, is, want, ok)
	}
}

// P1.7

func TestLawAddedIsTakenAway(t *testing.T) {
	for _, a := range edges {
		for _, b := range edges {
			sum, ok := Add(a, b)
			if !ok {
				continue
			}
			back, ok := Sub(sum, b)
			hold(t, "Sub", []int{sum, b}, back, ok, a, true)
			back, ok = Sub(sum, a)
			hold(t, "Sub", []int{sum, a}, back, ok, b, true)
		}
	}
}

func TestLawMultipliedGoesInto(t *testing.T) {
	for _, a := range edges {
		for _, b := range edges {
			p, ok := Mul(a, b)
			if !ok || b == 0 {
				continue
			}
			for name, f := range map[string]func(a, b int) (int, bool){"Div": Div, "Up": Up} {
				q, ok := f(p, b)
				hold(t, name, []int{p, b}, q, ok, a, true)
			}
			q, rest, ok := Over(Wide{uint64(p), 0}, b)
			hold(t, "Over", []int{p, b}, q, ok && !rest, a, true)
		}
	}
}

func TestLawPartsMakeTheWhole(t *testing.T) {
	for _, n := range edges {
		for _, den := range edges {
			for _, num := range edges {
				left, ok := Sub(den, num)
				part, ok2 := Part(n, num, den)
				if !ok || !ok2 {
					continue
				}
				up, _ := PartUp(n, left, den)
				if sum, ok := Add(part, up); !ok || sum != n {
					t.Errorf("of %d, %d of %d down, and the others up, are %d, %v", n, num, den, sum, ok)
				}
				down, _ := Part(n, left, den)
				if sum, ok := Add(part, down); !ok || sum > n || n-sum > 1 {
					t.Errorf("of %d, %d of %d down, and the others down, are %d, %v", n, num, den, sum, ok)
				}
				// The part down is less than 1 below n times num over den: one more of it is above that.
				if more, ok := Add(part, 1); ok {
					if o, ok := Order(more, den, n, num); !ok || o != 1 {
						t.Errorf("Part(%d, %d, %d) is %d, off by 1 or more", n, num, den, part)
					}
				}
			}
		}
	}
}

func TestLawOrdersTurn(t *testing.T) {
	for _, a := range edges {
		for _, b := range edges {
			for _, c := range edges {
				o, ok := Order(a, b, c, 3)
				p, ok2 := Order(c, 3, a, b)
				if ok != ok2 || o != -p {
					t.Errorf("Order(%d, %d, %d, 3) is %d, %v; turned %d, %v", a, b, c, o, ok, p, ok2)
				}
			}
		}
	}
}
