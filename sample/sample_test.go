package sample

import (
	"math"
	"math/big"
	"slices"
	"testing"

	"dewpond/api"
	"dewpond/span"
)

// nought is -0, which is the same as 0 here.
var nought = math.Copysign(0, -1)

// numbers are values and weights, ordinary ones, edges and wrong ones. Each of them is tried as each.
var numbers = []int{
	math.MinInt, math.MinInt + 1, -1 << 62, -1 << 56, -1<<56 + 1, -1 << 53, -1 << 48, -1<<48 + 1, -1 << 31, -1000, -5, -2, -1,
	0, 1, 2, 3, 4, 5, 7, 9, 10, 64, 1000, 1 << 16, 1<<20 + 1, 1<<31 - 1, 1 << 32, 1 << 47,
	1<<48 - 3, 1<<48 - 2, 1<<48 - 1, 1 << 48, 1<<48 + 1, 1 << 49, 1 << 52,
	1<<53 - 2, 1<<53 - 1, 1 << 53, 1<<53 + 1, 1<<53 + 2, 1 << 54, 1<<55 + 7,
	1<<56 - 9, 1<<56 - 8, 1<<56 - 7, 1<<56 - 3, 1<<56 - 2, 1<<56 - 1, 1 << 56, 1<<56 + 1, 1 << 57, 1<<62 - 1, 1 << 62, 1<<62 + 1, math.MaxInt - 1, math.MaxInt,
}

// parts are parts of complex numbers, beside those that are numbers. Each of them is tried as each part.
var parts = []float64{
	math.NaN(), math.Inf(1), math.Inf(-1), nought, 0.5, 1.5, 2.000001, 6.999999, -0.5, -1.5, 1e-30, -1e-30,
	math.SmallestNonzeroFloat64, -math.SmallestNonzeroFloat64, math.Nextafter(1, 0), math.Nextafter(1, 2), math.Nextafter(5, 6),
	1<<47 + 0.5, 1<<48 - 1.5, 1<<48 - 0.5, math.Nextafter(1<<48-1, 0), math.Nextafter(1<<48-1, 1<<50), 1<<48 + 0.5, 1<<52 - 0.5,
	math.Nextafter(1<<56, 0), math.Nextafter(1<<56, 1<<60), math.Nextafter(1<<62, 0), math.Nextafter(1<<62, 1<<63),
	math.Nextafter(1<<63, 0), 1 << 63, 1<<63 + 5*4096, 1 << 64, 1<<64 + 1<<13, 1 << 65, -(1 << 63), -(1 << 64), -(1<<64 + 1<<13),
	1e300, -1e300, math.MaxFloat64, -math.MaxFloat64,
}

// allParts are all numbers, as near as a float has them, and all parts.
func allParts() []float64 {
	l := append([]float64(nil), parts...)
	for _, n := range numbers {
		l = append(l, float64(n))
	}
	return l
}

// Types that are made of those that a reading comes as, and are none of them.
type (
	ownInt     int
	ownPair    [2]int
	ownComplex complex128
	ownReading api.Reading
	same       = int
	samePair   = [2]same
	holder     struct{ api.Reading }
	wide       struct{ Value, Weight, More int }
)

// none are things that come as no reading.
func none() []any {
	n, p, c, x := 5, [2]int{5, 1}, 5+1i, api.Reading{Value: 5, Weight: 1}
	var v any = 5
	return []any{
		nil, "", "5", "5, 1", 'a', true, false, 5.0, float32(5), math.NaN(),
		int8(5), int16(5), int32(5), int64(5), uint(5), uint8(5), uint16(5), uint32(5), uint64(5), uintptr(5), complex64(5 + 1i),
		ownInt(5), ownPair{5, 1}, ownComplex(5 + 1i), ownReading(x), holder{x}, wide{5, 1, 0}, struct{ Value, Weight int }{5, 1},
		[0]int{}, [1]int{5}, [3]int{5, 1, 0}, [2]int64{5, 1}, [2]uint{5, 1}, [2]float64{5, 1}, [2]any{5, 1}, [2]ownInt{5, 1}, [2][2]int{p, p},
		[]int{5, 1}, []int(nil), []any{5}, []any(nil), []api.Reading{x}, []complex128{c}, map[int]int{5: 1}, struct{}{},
		&n, &p, &c, &x, &v, (*int)(nil), (*api.Reading)(nil), api.Both{Low: 5, High: 5}, api.Node{Id: 5, Count: 1}, api.Conf{L: 5, K: 1, Kind: 1}, api.OK, api.Errno(5),
		func() int { return 5 }, make(chan int), any((*any)(nil)),
	}
}

// isRight is whether a value and a weight are a right reading, by the words of the chapter.
func isRight(value, weight *big.Int) bool {
	return value.Sign() >= 0 && value.BitLen() <= 48 && weight.Sign() > 0 && weight.BitLen() <= 56
}

func large(n int) *big.Int { return big.NewInt(int64(n)) }

// wantSmall is the reading of a value and a weight, if it is right.
func wantSmall(value, weight int) (api.Reading, bool) {
	if !isRight(large(value), large(weight)) {
		return api.Reading{}, false
	}
	return api.Reading{Value: value, Weight: weight}, true
}

// wantParts is the reading of both parts, found without the floats' own reckoning.
func wantParts(re, im float64) (api.Reading, bool) {
	value, ok := wholeOf(re)
	weight, ok2 := wholeOf(im)
	if !ok || !ok2 || !isRight(value, weight) {
		return api.Reading{}, false
	}
	return api.Reading{Value: int(value.Int64()), Weight: int(weight.Int64())}, true
}

func wholeOf(part float64) (*big.Int, bool) {
	if math.IsNaN(part) || math.IsInf(part, 0) {
		return nil, false
	}
	n, exact := big.NewFloat(part).Int(nil)
	return n, exact == big.Exact
}

// hold holds what Of answers of v against what it should, and All, of v alone, with it.
func hold(t *testing.T, v any, want api.Reading, right bool) {
	t.Helper()
	x, ok := Of(v)
	if x != want || ok != right {
		t.Errorf("Of(%T %v) is %v, %v, and should be %v, %v", v, v, x, ok, want, right)
	}
	l, n, ok := All(v)
	if ok != right || ok && (n != 1 || len(l) != 1 || l[0] != want) || !ok && (n != 0 || l != nil) {
		t.Errorf("All(%T %v) is %v, %d, %v, and should be %v, %v", v, v, l, n, ok, want, right)
	}
}

// P4.1

func TestRight(t *testing.T) {
	for _, r := range []struct {
		value, weight int
		want          bool
	}{
		{0, 1, true}, {5, 3, true}, {0, api.Most, true}, {span.Last, 1, true}, {span.Last, api.Most, true}, {281474976710655, 72057594037927935, true},
		{-1, 1, false}, {span.Last + 1, 1, false}, {5, 0, false}, {5, -1, false}, {5, api.Most + 1, false}, {0, 0, false}, {-1, -1, false},
		{math.MinInt, 1, false}, {math.MaxInt, 1, false}, {5, math.MinInt, false}, {5, math.MaxInt, false}, {span.Last + 1, api.Most + 1, false},
	} {
		if got := Right(api.Reading{Value: r.value, Weight: r.weight}); got != r.want {
			t.Errorf("Right of %d, %d is %v", r.value, r.weight, got)
		}
	}
	for _, value := range numbers {
		for _, weight := range numbers {
			if got := Right(api.Reading{Value: value, Weight: weight}); got != isRight(large(value), large(weight)) {
				t.Errorf("Right of %d, %d is %v", value, weight, got)
			}
		}
	}
}

func TestNamesOfKinds(t *testing.T) {
	for want, got := range []int{None, Number, Pair, Complex, Whole} {
		if got != want {
			t.Errorf("it is %d, and should be %d", got, want)
		}
	}
}

func TestKind(t *testing.T) {
	for _, r := range []struct {
		v    any
		want int
	}{
		{5, 1}, {0, 1}, {-5, 1}, {math.MaxInt, 1}, {math.MinInt, 1}, {same(5), 1}, {any(any(5)), 1},
		{[2]int{7, 9}, 2}, {[2]int{}, 2}, {[2]int{-1, -1}, 2}, {samePair{7, 9}, 2}, {[...]int{7, 9}, 2},
		{5 + 3i, 3}, {1i, 3}, {complex128(0), 3}, {complex(0.5, -1), 3}, {complex(math.NaN(), math.Inf(1)), 3},
		{api.Reading{Value: 5, Weight: 3}, 4}, {api.Reading{}, 4}, {api.Reading{Value: -1, Weight: math.MinInt}, 4},
	} {
		if got := Kind(r.v); got != r.want {
			t.Errorf("Kind(%T %v) is %d, and should be %d", r.v, r.v, got, r.want)
		}
	}
	for _, v := range none() {
		if got := Kind(v); got != 0 {
			t.Errorf("Kind(%T %v) is %d", v, v, got)
		}
	}
}

// P4.2

func TestOf(t *testing.T) {
	none := api.Reading{}
	for _, r := range []struct {
		v    any
		want api.Reading
		ok   bool
	}{
		{5, api.Reading{Value: 5, Weight: 1}, true}, {0, api.Reading{Value: 0, Weight: 1}, true}, {span.Last, api.Reading{Value: span.Last, Weight: 1}, true}, {same(5), api.Reading{Value: 5, Weight: 1}, true},
		{-1, none, false}, {span.Last + 1, none, false},
		{[2]int{7, 9}, api.Reading{Value: 7, Weight: 9}, true}, {[2]int{9, 7}, api.Reading{Value: 9, Weight: 7}, true}, {samePair{0, api.Most}, api.Reading{Value: 0, Weight: api.Most}, true},
		{[2]int{}, none, false}, {[2]int{7, 0}, none, false}, {[2]int{-1, 9}, none, false}, {[2]int{7, api.Most + 1}, none, false},
		{5 + 3i, api.Reading{Value: 5, Weight: 3}, true}, {1i, api.Reading{Value: 0, Weight: 1}, true}, {complex(nought, 1), api.Reading{Value: 0, Weight: 1}, true},
		{complex(span.Last, 1<<53), api.Reading{Value: span.Last, Weight: 1 << 53}, true}, {complex(5, 1<<53+2), api.Reading{Value: 5, Weight: 1<<53 + 2}, true}, {complex(5, 1<<56-8), api.Reading{Value: 5, Weight: 1<<56 - 8}, true},
		{complex128(5), none, false}, {complex(5, nought), none, false}, {complex(0.5, 1), none, false}, {complex(5, 1.5), none, false}, {complex(0.5, 1.5), none, false},
		{complex(-1, 1), none, false}, {complex(5, -3), none, false}, {complex(1<<48, 1), none, false}, {complex(5, 1<<56), none, false},
		{complex(math.NaN(), 1), none, false}, {complex(5, math.NaN()), none, false}, {complex(math.Inf(1), 1), none, false}, {complex(5, math.Inf(1)), none, false}, {complex(math.Inf(-1), 1), none, false},
		{api.Reading{Value: 5, Weight: 3}, api.Reading{Value: 5, Weight: 3}, true}, {api.Reading{Value: span.Last, Weight: api.Most}, api.Reading{Value: span.Last, Weight: api.Most}, true},
		{api.Reading{}, none, false}, {api.Reading{Value: 5}, none, false}, {api.Reading{Value: -5, Weight: 3}, none, false}, {api.Reading{Value: 5, Weight: -3}, none, false},
	} {
		hold(t, r.v, r.want, r.ok)
	}
	for _, v := range []any{nil, "5", []int{5, 1}, 5.0, int64(5), ownInt(5), ownReading{Value: 5, Weight: 1}} {
		hold(t, v, none, false)
	}
}

func TestOfNone(t *testing.T) {
	for _, v := range none() {
		hold(t, v, api.Reading{}, false)
	}
}

func TestOfNumbers(t *testing.T) {
	for _, value := range numbers {
		want, ok := wantSmall(value, 1)
		hold(t, value, want, ok)
		for _, weight := range numbers {
			want, ok := wantSmall(value, weight)
			hold(t, [2]int{value, weight}, want, ok)
			hold(t, api.Reading{Value: value, Weight: weight}, want, ok)
		}
	}
}

func TestOfComplex(t *testing.T) {
	all := allParts()
	for _, re := range all {
		for _, im := range all {
			want, ok := wantParts(re, im)
			hold(t, complex(re, im), want, ok)
		}
	}
}

// P4.3

// tryExact is what Exact answers, and whether it panics.
func tryExact(v any) (n int, panics bool) {
	defer func() {
		if recover() != nil {
			n, panics = 0, true
		}
	}()
	return Exact(v), false
}

func TestExact(t *testing.T) {
	for _, want := range numbers {
		if got, panics := tryExact(want); got != want || panics {
			t.Errorf("Exact(%d) is %d, and panics: %v", want, got, panics)
		}
	}
	if got, panics := tryExact(same(5)); got != 5 || panics {
		t.Errorf("Exact of an int by its other name is %d, and panics: %v", got, panics)
	}
	others := []any{[2]int{5, 1}, [2]int{}, 5 + 1i, complex128(5), complex128(0), api.Reading{Value: 5, Weight: 1}, api.Reading{}}
	for _, v := range append(others, none()...) {
		if got, panics := tryExact(v); !panics {
			t.Errorf("Exact(%T %v) is %d, and doesn't panic", v, v, got)
		}
	}
}

// P4.4

func TestAll(t *testing.T) {
	for _, r := range []struct {
		l    []any
		want []api.Reading
		n    int
		ok   bool
	}{
		{nil, nil, 0, true}, {[]any{}, nil, 0, true}, {[]any{5}, []api.Reading{{Value: 5, Weight: 1}}, 1, true},
		{[]any{1, [2]int{2, 3}, 5 + 3i, api.Reading{Value: 7, Weight: 9}, 1}, []api.Reading{{Value: 1, Weight: 1}, {Value: 2, Weight: 3}, {Value: 5, Weight: 3}, {Value: 7, Weight: 9}, {Value: 1, Weight: 1}}, 5, true},
		{[]any{9, 3, 3, 0}, []api.Reading{{Value: 9, Weight: 1}, {Value: 3, Weight: 1}, {Value: 3, Weight: 1}, {Value: 0, Weight: 1}}, 4, true},
		{[]any{[2]int{1, api.Most}, [2]int{2, api.Most}}, []api.Reading{{Value: 1, Weight: api.Most}, {Value: 2, Weight: api.Most}}, 2, true},
		{[]any{nil}, nil, 0, false}, {[]any{-4}, nil, 0, false}, {[]any{nil, 1}, nil, 0, false}, {[]any{1, [2]int{2, 3}, -4}, nil, 2, false}, {[]any{1, "2", 3}, nil, 1, false},
		{[]any{1, 2, complex(0.5, 1), "4", nil}, nil, 2, false}, {[]any{1, api.Reading{}, 3}, nil, 1, false}, {[]any{1, 2, 3, span.Last + 1}, nil, 3, false}, {[]any{[]any{1, 2}}, nil, 0, false},
	} {
		l, n, ok := All(r.l...)
		if n != r.n || ok != r.ok || !slices.Equal(l, r.want) {
			t.Errorf("All of %v is %v, %d, %v, and should be %v, %d, %v", r.l, l, n, ok, r.want, r.n, r.ok)
		}
	}
	if l, n, ok := All(); len(l) != 0 || n != 0 || !ok {
		t.Errorf("All of nothing is %v, %d, %v", l, n, ok)
	}
}

// comesAs is a reading, as it comes each way in turn.
func comesAs(x api.Reading, turn int) any {
	switch turn % 4 {
	case 0:
		return x
	case 1:
		return [2]int{x.Value, x.Weight}
	case 2:
		return complex(float64(x.Value), float64(x.Weight))
	}
	return x.Value
}

func TestAllOfMany(t *testing.T) {
	var l []any
	for n := range 10000 {
		weight := n + 1
		if n%4 == 3 {
			weight = 1
		}
		l = append(l, comesAs(api.Reading{Value: n * 7919 % 10007, Weight: weight}, n))
	}
	all, n, ok := All(l...)
	if len(all) != 10000 || n != 10000 || !ok {
		t.Fatalf("there are %d of them, %d, %v", len(all), n, ok)
	}
	for i, x := range all {
		weight := i + 1
		if i%4 == 3 {
			weight = 1
		}
		if want := (api.Reading{Value: i * 7919 % 10007, Weight: weight}); x != want {
			t.Errorf("at %d stands %v, and should %v", i, x, want)
		}
	}
	for _, at := range []int{9999, 5000, 4999, 1, 0} {
		// What is wrong behind the first wrong one is not to be told.
		l[at] = []any{nil, -1, "5"}[at%3]
		if all, n, ok := All(l...); all != nil || n != at || ok {
			t.Errorf("with a wrong one at %d it is %d, %v, with %d readings", at, n, ok, len(all))
		}
	}
}

func TestAllIsNewMemory(t *testing.T) {
	memory := []any{1, [2]int{2, 3}, api.Reading{Value: 7, Weight: 9}, "behind", nil}
	l := memory[:3]
	first, _, _ := All(l...)
	second, _, _ := All(l...)
	for i := range first {
		first[i] = api.Reading{Value: 99, Weight: 99}
	}
	first = append(first, api.Reading{Value: 98, Weight: 98})
	if len(first) != 4 || !slices.Equal(second, []api.Reading{{Value: 1, Weight: 1}, {Value: 2, Weight: 3}, {Value: 7, Weight: 9}}) {
		t.Errorf("what is done to one answer is seen in another one: %v", second)
	}
	for i, want := range []any{1, [2]int{2, 3}, api.Reading{Value: 7, Weight: 9}, "behind", nil} {
		if memory[i] != want {
			t.Errorf("at %d stands %v now", i, memory[i])
		}
	}
}

// P4.5

func TestPack(t *testing.T) {
	for _, r := range []struct {
		value, weight int
		want          complex128
		ok            bool
	}{
		{5, 3, 5 + 3i, true}, {3, 5, 3 + 5i, true}, {0, 1, 1i, true}, {span.Last, 1, complex(281474976710655, 1), true}, {span.Last, 1 << 53, complex(281474976710655, 9007199254740992), true},
		{5, 1<<53 - 1, complex(5, 9007199254740991), true}, {5, 1 << 53, complex(5, 1<<53), true}, {5, 1<<53 + 1, 0, false}, {5, 1<<53 + 2, 0, false}, {5, 1 << 54, 0, false}, {5, api.Most, 0, false}, {5, 1<<56 - 8, 0, false},
		{0, 0, 0, false}, {5, 0, 0, false}, {5, -3, 0, false}, {-5, 3, 0, false}, {span.Last + 1, 1, 0, false}, {5, api.Most + 1, 0, false}, {math.MinInt, 1, 0, false}, {1, math.MaxInt, 0, false}, {1, math.MinInt, 0, false},
	} {
		if c, ok := Pack(api.Reading{Value: r.value, Weight: r.weight}); c != r.want || ok != r.ok {
			t.Errorf("Pack of %d, %d is %v, %v, and should be %v, %v", r.value, r.weight, c, ok, r.want, r.ok)
		}
	}
	for _, value := range numbers {
		for _, weight := range numbers {
			var want complex128
			_, right := wantSmall(value, weight)
			right = right && weight <= 9007199254740992
			if right {
				want = complex(float64(value), float64(weight))
			}
			if c, ok := Pack(api.Reading{Value: value, Weight: weight}); c != want || ok != right {
				t.Errorf("Pack of %d, %d is %v, %v, and should be %v, %v", value, weight, c, ok, want, right)
			}
		}
	}
}

// P4.6

// readings are many readings, right ones and others.
func readings() []api.Reading {
	var l []api.Reading
	for _, value := range numbers {
		for _, weight := range numbers {
			l = append(l, api.Reading{Value: value, Weight: weight})
		}
	}
	for n := range 1000 {
		l = append(l, api.Reading{Value: n * 281474976711 % (1<<48 + 1<<44), Weight: n * n * n * 9007199 % (1<<53 + 1<<50)})
	}
	return l
}

func TestLawPackedComesAsTheSame(t *testing.T) {
	packed := 0
	for _, x := range readings() {
		c, ok := Pack(x)
		if !ok {
			continue
		}
		packed++
		if got, ok := Of(c); got != x || !ok || Kind(c) != Complex {
			t.Errorf("%v is packed as %v, which comes as %v, %v", x, c, got, ok)
		}
	}
	if packed < 1000 {
		t.Errorf("just %d were packed", packed)
	}
}

func TestLawOfComplexIsPackedAgain(t *testing.T) {
	all := allParts()
	for _, re := range all {
		for _, im := range all {
			x, ok := Of(complex(re, im))
			if !ok || x.Weight > 1<<53 {
				continue
			}
			if c, ok := Pack(x); c != complex(re, im) || !ok {
				t.Errorf("%v, %v comes as %v, which is packed as %v, %v", re, im, x, c, ok)
			}
		}
	}
}

func TestLawIntsComeAsReadings(t *testing.T) {
	for _, n := range numbers {
		x, ok := Of(n)
		if ok != (n >= 0 && n <= 281474976710655) || ok && Exact(n) != x.Value || ok && x.Weight != 1 {
			t.Errorf("Of(%d) is %v, %v", n, x, ok)
		}
		if _, panics := tryExact(n); panics {
			t.Errorf("Exact(%d) panics", n)
		}
	}
}

// A right reading comes as itself, whichever way it comes.

func TestLawEachWayIsTheSame(t *testing.T) {
	for _, x := range readings() {
		right := Right(x)
		for turn, v := range []any{x, [2]int{x.Value, x.Weight}} {
			if got, ok := Of(v); ok != right || ok && got != x || !ok && got != (api.Reading{}) {
				t.Errorf("%v, the way %d, comes as %v, %v", x, turn, got, ok)
			}
		}
		if x.Weight != 1 {
			continue
		}
		if got, ok := Of(x.Value); ok != right || ok && got != x {
			t.Errorf("%v, as a number, comes as %v, %v", x, got, ok)
		}
	}
}
