package bag

import (
	"maps"
	"math"
	"math/big"
	"slices"
	"testing"

	"dewpond/api"
)

// edges are bits at which universes end, and some that no universe has.
var edges = []int{math.MinInt, -64, -48, -3, -2, -1, 0, 1, 2, 3, 15, 16, 17, 18, 31, 32, 47, 48, 49, 50, 62, 63, 64, 65, 1 << 32, 1<<32 + 1, math.MaxInt}

// values are numbers at which universes end, and some ordinary and wrong ones.
var values = []int{
	math.MinInt, math.MinInt + 1, -1 << 48, -8, -2, -1, 0, 1, 2, 3, 4, 5, 7, 8, 9, 15, 16, 17, 31, 32,
	1<<16 - 1, 1 << 16, 1<<17 - 1, 1 << 17, 1 << 32, 1<<32 + 1, 1<<47 - 1, 1 << 47, 1<<48 - 2, 1<<48 - 1, 1 << 48, 1<<48 + 1, 1 << 49, 1 << 62, math.MaxInt - 1, math.MaxInt,
}

// weights are numbers at which weights end, and some ordinary and wrong ones.
var weights = []int{
	math.MinInt, -1 << 56, -2, -1, 0, 1, 2, 3, 100, 1<<55 - 1, 1 << 55,
	api.Most - 2, api.Most - 1, api.Most, api.Most + 1, 1 << 57, 1<<62 - 1, 1 << 62, math.MaxInt - api.Most, math.MaxInt - 1, math.MaxInt,
}

// model is what a bag should be: a map, without any bound of its own.
type model struct {
	l       int
	weights map[int]int
}

func of(l int) model { return model{l, map[int]int{}} }

// above tells whether a and b together are above Most.
func above(a, b *big.Int) bool {
	return new(big.Int).Add(a, b).Cmp(big.NewInt(api.Most)) > 0
}

// between is the weight of the values from x to y, each of which is asked.
func (m model) between(x, y int) int {
	sum := 0
	for value, weight := range m.weights {
		if value >= x && value <= y {
			sum += weight
		}
	}
	return sum
}

func (m model) total() *big.Int {
	sum := new(big.Int)
	for _, weight := range m.weights {
		sum.Add(sum, big.NewInt(int64(weight)))
	}
	return sum
}

func (m model) add(x, weight int) api.Errno {
	if x < 0 || x > 1<<m.l-1 {
		return api.ErrRange
	}
	if weight < 1 {
		return api.ErrZero
	}
	if above(m.total(), big.NewInt(int64(weight))) {
		return api.ErrFull
	}
	m.weights[x] += weight
	return api.OK
}

func (m model) pour(from model) api.Errno {
	if m.l != from.l {
		return api.ErrShape
	}
	if above(m.total(), from.total()) {
		return api.ErrFull
	}
	for value, weight := range maps.Clone(from.weights) {
		m.weights[value] += weight
	}
	return api.OK
}

func (m model) image(bits int) model {
	image := of(m.l - bits)
	for value, weight := range m.weights {
		image.weights[value/(1<<bits)] += weight
	}
	return image
}

func (m model) wider(l int) model { return model{l, maps.Clone(m.weights)} }

func (m model) items() []api.Reading {
	var l []api.Reading
	for _, value := range slices.Sorted(maps.Keys(m.weights)) {
		l = append(l, api.Reading{Value: value, Weight: m.weights[value]})
	}
	return l
}

// kth goes up all values of the bag till enough weighs.
func (m model) kth(r int) (int, api.Errno) {
	if len(m.weights) == 0 {
		return 0, api.ErrEmpty
	}
	for _, n := range m.items() {
		if r >= 1 && m.between(math.MinInt, n.Value) >= r {
			return n.Value, api.OK
		}
	}
	return 0, api.ErrArg
}

func made(t *testing.T, l int) (*Bag, model) {
	t.Helper()
	b, e := New(l)
	if b == nil || e != api.OK {
		t.Fatalf("New of %d is %v, %d", l, b, e)
	}
	return b, of(l)
}

// filled is a bag with the values and weights of numbers, one and the other in turn.
func filled(t *testing.T, l int, numbers ...int) (*Bag, model) {
	t.Helper()
	b, m := made(t, l)
	for at := 0; at < len(numbers); at += 2 {
		add(t, b, m, numbers[at], numbers[at+1])
	}
	return b, m
}

// small is the bag of 2 bits in whose set, by digits of the base 3, stands what each value weighs.
func small(t *testing.T, set int) (*Bag, model) {
	t.Helper()
	b, m := made(t, 2)
	for x := range 4 {
		if weight := set % 3; weight > 0 {
			add(t, b, m, x, weight)
		}
		set /= 3
	}
	return b, m
}

// smalls is how many small bags there are.
const smalls = 81

// add adds to both, and holds the answers against each other.
func add(t *testing.T, b *Bag, m model, x, weight int) {
	t.Helper()
	if got, want := b.Add(x, weight), m.add(x, weight); got != want {
		t.Fatalf("Add of %d, %d to %v is %d, and should be %d", x, weight, m, got, want)
	}
}

// pour pours into both, and holds the answers against each other.
func pour(t *testing.T, b *Bag, m model, from *Bag, mf model) {
	t.Helper()
	if got, want := b.Pour(from), m.pour(mf); got != want {
		t.Fatalf("Pour of %v into %v is %d, and should be %d", mf, m, got, want)
	}
}

// hold holds all that a bag tells without an argument against what it should.
func hold(t *testing.T, b *Bag, m model) {
	t.Helper()
	if b.L() != m.l || b.Len() != len(m.weights) || big.NewInt(int64(b.Total())).Cmp(m.total()) != 0 {
		t.Fatalf("%v tells %d, %d, %d, and should be %v", b.Items(), b.L(), b.Len(), b.Total(), m)
	}
	items := m.items()
	if got := b.Items(); !slices.Equal(got, items) {
		t.Fatalf("Items of %v are %v", m, got)
	}
	lo, hi, ok := b.Ends()
	if len(items) == 0 && (lo != 0 || hi != 0 || ok) || len(items) > 0 && (lo != items[0].Value || hi != items[len(items)-1].Value || !ok) {
		t.Fatalf("Ends of %v are %d, %d, %v", m, lo, hi, ok)
	}
}

// ask holds all that a bag tells of numbers against what it should.
func ask(t *testing.T, b *Bag, m model, numbers []int) {
	t.Helper()
	hold(t, b, m)
	for _, x := range numbers {
		if got, want := b.Rank(x), m.between(math.MinInt, x); got != want {
			t.Fatalf("Rank of %v, %d is %d, and should be %d", m, x, got, want)
		}
		for _, y := range numbers {
			if got, want := b.Between(x, y), m.between(x, y); got != want {
				t.Fatalf("Between of %v, %d, %d is %d, and should be %d", m, x, y, got, want)
			}
		}
	}
}

// pick holds Kth of a rank against what it should be.
func pick(t *testing.T, b *Bag, m model, r int) {
	t.Helper()
	got, e := b.Kth(r)
	if want, we := m.kth(r); got != want || e != we {
		t.Fatalf("Kth of %v, %d is %d, %d, and should be %d, %d", m, r, got, e, want, we)
	}
}

// next is the number behind n in a row of numbers that looks mixed.
func next(n uint64) uint64 { return n*6364136223846793005 + 1442695040888963407 }

// mixed is a bag of about so many values of l bits, close to one another, to the universe's ends, or anywhere.
func mixed(t *testing.T, l, many int, seed uint64) (*Bag, model) {
	t.Helper()
	b, m := made(t, l)
	for range many {
		seed = next(seed)
		x := int(seed >> 15)
		seed = next(seed)
		switch seed >> 40 % 3 {
		case 0:
			x %= 20
		case 1:
			x = 1<<l - 1 - x%20
		}
		add(t, b, m, x%(1<<l), 1+int(seed>>33)%9)
	}
	return b, m
}

// The chapter's example.

func TestExample(t *testing.T) {
	b, _ := New(3)
	if b.Add(5, 2) != api.OK || b.Add(1, 1) != api.OK {
		t.Fatal("Add is refused")
	}
	if b.Rank(4) != 1 {
		t.Errorf("Rank of 4 is %d", b.Rank(4))
	}
	if x, e := b.Kth(2); x != 5 || e != api.OK {
		t.Errorf("Kth of 2 is %d, %d", x, e)
	}
	image, e := b.Image(1)
	if e != api.OK || image.L() != 2 || !slices.Equal(image.Items(), []api.Reading{{Value: 0, Weight: 1}, {Value: 2, Weight: 2}}) {
		t.Errorf("Image by 1 is %v, %d", image.Items(), e)
	}
}

// P10.1

func TestNew(t *testing.T) {
	for l := 1; l <= 48; l++ {
		b, m := made(t, l)
		ask(t, b, m, values)
	}
}

func TestNewOfWrongBits(t *testing.T) {
	for _, l := range edges {
		if l >= 1 && l <= 48 {
			continue
		}
		if b, e := New(l); b != nil || e != api.ErrArg {
			t.Errorf("New of %d is %v, %d", l, b, e)
		}
	}
}

func TestNewBagsAreOnTheirOwn(t *testing.T) {
	a, _ := made(t, 3)
	b, m := made(t, 3)
	a.Add(5, 2)
	hold(t, b, m)
}

func TestItemsAreNewMemory(t *testing.T) {
	b, m := filled(t, 3, 5, 2, 1, 4, 7, 1, 0, 3, 2, 9)
	before := b.Items()
	answer := b.Items()
	for _, r := range answer[len(answer):cap(answer)] {
		if r != (api.Reading{}) {
			t.Errorf("behind %v stands %v", answer, r)
		}
	}
	for at := range answer {
		answer[at] = api.Reading{Value: 6, Weight: 99}
	}
	_ = append(answer, api.Reading{Value: 6, Weight: 98})
	ask(t, b, m, values)
	want := m.items()
	add(t, b, m, 1, 1)
	add(t, b, m, 6, 1)
	pour(t, b, m, b, m)
	if !slices.Equal(before, want) {
		t.Errorf("what was told has become %v", before)
	}
}

// P10.2

func TestAdd(t *testing.T) {
	b, m := made(t, 3)
	for _, r := range []struct {
		x, weight int
		want      api.Errno
	}{
		{5, 2, api.OK}, {1, 1, api.OK}, {5, 1, api.OK}, {0, 1, api.OK}, {7, 1, api.OK}, {6, 2, api.OK},
		{8, 1, api.ErrRange}, {-1, 1, api.ErrRange}, {math.MinInt, 1, api.ErrRange}, {math.MaxInt, 1, api.ErrRange},
		{8, 0, api.ErrRange}, {-1, -1, api.ErrRange}, {8, api.Most, api.ErrRange}, {-1, math.MaxInt, api.ErrRange},
		{5, 0, api.ErrZero}, {5, -1, api.ErrZero}, {2, 0, api.ErrZero}, {5, -3, api.ErrZero}, {5, math.MinInt, api.ErrZero},
		{5, api.Most, api.ErrFull}, {2, api.Most, api.ErrFull}, {2, api.Most - 7, api.ErrFull}, {5, math.MaxInt, api.ErrFull}, {2, math.MaxInt - 8, api.ErrFull}, {2, math.MaxInt - 7, api.ErrFull},
		{2, api.Most - 9, api.OK}, {2, 2, api.ErrFull}, {2, 1, api.OK}, {2, 1, api.ErrFull}, {3, 1, api.ErrFull}, {3, 0, api.ErrZero}, {8, 1, api.ErrRange},
	} {
		if got := b.Add(r.x, r.weight); got != r.want {
			t.Errorf("Add of %d, %d to %v is %d, and should be %d", r.x, r.weight, m, got, r.want)
		}
		m.add(r.x, r.weight)
		ask(t, b, m, values)
	}
}

func TestAddAtAllEdges(t *testing.T) {
	for l := 1; l <= 48; l++ {
		for _, first := range []int{1, api.Most - 2, api.Most - 1, api.Most} {
			for _, x := range append([]int{1<<l - 1, 1 << l}, values...) {
				b, m := filled(t, l, 1, first)
				for _, weight := range weights {
					add(t, b, m, x, weight)
					hold(t, b, m)
				}
			}
		}
	}
}

func TestAddInAllOrders(t *testing.T) {
	want := []api.Reading{{Value: 0, Weight: 1}, {Value: 1, Weight: 2}, {Value: 3, Weight: 4}, {Value: 4, Weight: 5}, {Value: 7, Weight: 8}}
	var lay func(ahead []int)
	lay = func(ahead []int) {
		if len(ahead) == len(want) {
			b, m := made(t, 3)
			for _, at := range ahead {
				add(t, b, m, want[at].Value, want[at].Weight)
				hold(t, b, m)
			}
			if got := b.Items(); !slices.Equal(got, want) {
				t.Fatalf("in the order %v it is %v", ahead, got)
			}
		}
		for at := range want {
			if !slices.Contains(ahead, at) {
				lay(append(slices.Clone(ahead), at))
			}
		}
	}
	lay(nil)
}

func TestManyValues(t *testing.T) {
	for l := 1; l <= 48; l++ {
		b, m := mixed(t, l, 300, uint64(l))
		numbers := slices.Clone(values)
		for _, r := range b.Items() {
			numbers = append(numbers, r.Value-1, r.Value, r.Value+1)
		}
		hold(t, b, m)
		for _, x := range numbers {
			if got, want := b.Rank(x), m.between(math.MinInt, x); got != want {
				t.Fatalf("Rank of %v, %d is %d, and should be %d", m, x, got, want)
			}
		}
		for at, x := range numbers {
			y := numbers[(at*7+3)%len(numbers)]
			if got, want := b.Between(x, y), m.between(x, y); got != want {
				t.Fatalf("Between of %v, %d, %d is %d, and should be %d", m, x, y, got, want)
			}
		}
	}
}

// P10.3

func TestRankAndBetweenOfAllSmallBags(t *testing.T) {
	numbers := []int{math.MinInt, -2, -1, 0, 1, 2, 3, 4, 5, math.MaxInt}
	for set := range smalls {
		b, m := small(t, set)
		ask(t, b, m, numbers)
	}
}

func TestRankAndBetween(t *testing.T) {
	b, _ := filled(t, 8, 9, 3, 200, 1, 0, 4, 255, 7)
	for _, r := range []struct{ x, want int }{
		{math.MinInt, 0}, {-1, 0}, {0, 4}, {1, 4}, {8, 4}, {9, 7}, {10, 7}, {199, 7}, {200, 8}, {254, 8}, {255, 15}, {256, 15}, {math.MaxInt, 15},
	} {
		if got := b.Rank(r.x); got != r.want {
			t.Errorf("Rank of %d is %d, and should be %d", r.x, got, r.want)
		}
	}
	for _, r := range []struct{ x, y, want int }{
		{9, 199, 3}, {9, 200, 4}, {10, 199, 0}, {9, 9, 3}, {10, 9, 0}, {200, 9, 0}, {math.MaxInt, math.MinInt, 0}, {math.MinInt, math.MaxInt, 15}, {math.MinInt, -1, 0}, {math.MinInt, 0, 4}, {math.MinInt, math.MinInt, 0},
		{0, 0, 4}, {0, 255, 15}, {1, 254, 4}, {255, math.MaxInt, 7}, {256, math.MaxInt, 0}, {math.MaxInt, math.MaxInt, 0}, {8, 10, 3}, {-5, 9, 7},
	} {
		if got := b.Between(r.x, r.y); got != r.want {
			t.Errorf("Between of %d, %d is %d, and should be %d", r.x, r.y, got, r.want)
		}
	}
}

// P10.4

func TestKthOfAllSmallBags(t *testing.T) {
	for set := range smalls {
		b, m := small(t, set)
		for _, r := range append([]int{4, 5, 6, 7, 8, 9}, weights...) {
			pick(t, b, m, r)
		}
		hold(t, b, m)
	}
}

func TestKth(t *testing.T) {
	b, _ := filled(t, 48, 9, 3, 1<<48-1, api.Most-10, 0, 4)
	for _, r := range []struct {
		r, want int
		e       api.Errno
	}{
		{1, 0, api.OK}, {4, 0, api.OK}, {5, 9, api.OK}, {7, 9, api.OK}, {8, 1<<48 - 1, api.OK}, {api.Most - 3, 1<<48 - 1, api.OK}, {api.Most - 2, 0, api.ErrArg},
		{api.Most, 0, api.ErrArg}, {math.MaxInt, 0, api.ErrArg}, {0, 0, api.ErrArg}, {-1, 0, api.ErrArg}, {math.MinInt, 0, api.ErrArg},
	} {
		if got, e := b.Kth(r.r); got != r.want || e != r.e {
			t.Errorf("Kth of %d is %d, %d, and should be %d, %d", r.r, got, e, r.want, r.e)
		}
	}
}

func TestKthOfNoValues(t *testing.T) {
	for _, l := range []int{1, 3, 48} {
		b, _ := made(t, l)
		for _, r := range weights {
			if got, e := b.Kth(r); got != 0 || e != api.ErrEmpty {
				t.Errorf("Kth of no values, %d is %d, %d", r, got, e)
			}
		}
	}
}

func TestEnds(t *testing.T) {
	b, _ := made(t, 48)
	for _, r := range []struct{ x, lo, hi int }{
		{9, 9, 9}, {9, 9, 9}, {12, 9, 12}, {10, 9, 12}, {0, 0, 12}, {1<<48 - 1, 0, 1<<48 - 1}, {7, 0, 1<<48 - 1},
	} {
		b.Add(r.x, 1)
		if lo, hi, ok := b.Ends(); lo != r.lo || hi != r.hi || !ok {
			t.Errorf("Ends of %v are %d, %d, %v", b.Items(), lo, hi, ok)
		}
	}
	// The value 0 is not the same as none.
	b, _ = filled(t, 1, 0, 1)
	if lo, hi, ok := b.Ends(); lo != 0 || hi != 0 || !ok {
		t.Errorf("Ends of 0 are %d, %d, %v", lo, hi, ok)
	}
	b, _ = made(t, 1)
	b.Add(2, 1)
	if lo, hi, ok := b.Ends(); lo != 0 || hi != 0 || ok {
		t.Errorf("Ends of no values are %d, %d, %v", lo, hi, ok)
	}
}

// P10.5

func TestPourOfAllSmallBags(t *testing.T) {
	for set := range smalls {
		for other := range smalls {
			b, m := small(t, set)
			from, mf := small(t, other)
			pour(t, b, m, from, mf)
			hold(t, b, m)
			hold(t, from, mf)
		}
	}
}

func TestPourIntoItself(t *testing.T) {
	for set := range smalls {
		b, m := small(t, set)
		for range 3 {
			pour(t, b, m, b, m)
			hold(t, b, m)
		}
		if b.Total() != 8*(set%3+set/3%3+set/9%3+set/27) {
			t.Errorf("%v weighs %d", m, b.Total())
		}
	}
	half := api.Most / 2
	b, m := filled(t, 3, 5, half-1, 1, 1)
	pour(t, b, m, b, m)
	hold(t, b, m)
	if e := b.Pour(b); e != api.ErrFull {
		t.Errorf("Pour of a bag of %d into itself is %d", b.Total(), e)
	}
	hold(t, b, m)
	b, m = filled(t, 3, 5, half, 1, 1)
	if e := b.Pour(b); e != api.ErrFull {
		t.Errorf("Pour of a bag of %d into itself is %d", b.Total(), e)
	}
	hold(t, b, m)
}

func TestPourOfTooMuch(t *testing.T) {
	for _, r := range []struct {
		first, second int
		want          api.Errno
	}{
		{api.Most, 1, api.ErrFull}, {1, api.Most, api.ErrFull}, {api.Most, api.Most, api.ErrFull}, {api.Most - 1, 1, api.OK}, {1, api.Most - 1, api.OK}, {2, api.Most - 1, api.ErrFull},
		{api.Most - 1, 2, api.ErrFull}, {1 << 55, 1<<55 - 1, api.OK}, {1 << 55, 1 << 55, api.ErrFull},
	} {
		for _, x := range []int{2, 5} {
			b, m := filled(t, 3, 5, r.first)
			from, mf := filled(t, 3, x, r.second)
			if got := b.Pour(from); got != r.want {
				t.Errorf("Pour of %d into %d is %d, and should be %d", r.second, r.first, got, r.want)
			}
			m.pour(mf)
			hold(t, b, m)
			hold(t, from, mf)
		}
	}
	b, m := filled(t, 3, 5, api.Most)
	from, _ := made(t, 3)
	if e := b.Pour(from); e != api.OK {
		t.Errorf("Pour of nothing is %d", e)
	}
	hold(t, b, m)
	if e := from.Pour(b); e != api.OK {
		t.Errorf("Pour of all that there may be is %d", e)
	}
	hold(t, from, m)
}

func TestPourOfOtherUniverses(t *testing.T) {
	for l := 1; l <= 48; l++ {
		for other := 1; other <= 48; other++ {
			b, m := filled(t, l, 1, 2, 0, 3)
			from, mf := filled(t, other, 1, 5)
			pour(t, b, m, from, mf)
			hold(t, b, m)
			hold(t, from, mf)
		}
	}
	// Another universe is told ahead of too much.
	b, m := filled(t, 3, 5, api.Most)
	from, mf := filled(t, 4, 5, api.Most)
	if e := b.Pour(from); e != api.ErrShape {
		t.Errorf("Pour of too much of another universe is %d", e)
	}
	hold(t, b, m)
	hold(t, from, mf)
	empty, _ := made(t, 4)
	if e := b.Pour(empty); e != api.ErrShape {
		t.Errorf("Pour of nothing of another universe is %d", e)
	}
}

func TestPourOfNil(t *testing.T) {
	for _, b := range []*Bag{nil, {bits: 3}} {
		if e := b.Pour(nil); e != api.ErrNone {
			t.Errorf("Pour of nil is %d", e)
		}
	}
	b, m := filled(t, 3, 5, api.Most)
	if e := b.Pour(nil); e != api.ErrNone {
		t.Errorf("Pour of nil is %d", e)
	}
	hold(t, b, m)
}

// goTheirWays changes two bags in turn, and holds both after each step.
func goTheirWays(t *testing.T, b *Bag, m model, c *Bag, mc model) {
	t.Helper()
	both := func() {
		t.Helper()
		hold(t, b, m)
		hold(t, c, mc)
	}
	both()
	for x := range 6 {
		add(t, c, mc, x, x+1)
		both()
		add(t, b, m, 5-x, 20)
		both()
		add(t, b, m, 1<<b.L()-1-x, 30)
		both()
		add(t, c, mc, 1<<c.L()-1-x, 40)
		both()
	}
	pour(t, b, m, b, m)
	both()
	pour(t, c, mc, c, mc)
	both()
}

func TestPouredBagsAreOnTheirOwn(t *testing.T) {
	for _, first := range [][]int{nil, {5, 1}, {0, 1}, {7, 2, 1, 2, 4, 2}} {
		for _, second := range [][]int{nil, {5, 1}, {7, 1}, {3, 4, 6, 1, 0, 2}} {
			b, m := filled(t, 3, first...)
			from, mf := filled(t, 3, second...)
			pour(t, b, m, from, mf)
			goTheirWays(t, b, m, from, mf)
		}
	}
}

// P10.6

func TestImage(t *testing.T) {
	for l := 1; l <= 48; l++ {
		b, m := mixed(t, l, 60, uint64(l)+7)
		for _, bits := range append([]int{l - 1, l, l + 1}, edges...) {
			image, e := b.Image(bits)
			if bits < 0 || bits >= l {
				if image != nil || e != api.ErrArg {
					t.Fatalf("Image of %d bits by %d is %v, %d", l, bits, image, e)
				}
				continue
			}
			if image == nil || e != api.OK || image == b {
				t.Fatalf("Image of %d bits by %d is %v, %d", l, bits, image, e)
			}
			ask(t, image, m.image(bits), []int{math.MinInt, -1, 0, 1, 5, 1<<(l-bits) - 2, 1<<(l-bits) - 1, 1 << (l - bits), math.MaxInt})
			hold(t, b, m)
		}
	}
}

func TestImageOfAllSmallBags(t *testing.T) {
	for set := range smalls {
		for bits := range 2 {
			b, m := small(t, set)
			image, e := b.Image(bits)
			if e != api.OK {
				t.Fatalf("Image by %d is %d", bits, e)
			}
			hold(t, image, m.image(bits))
			hold(t, b, m)
		}
	}
}

func TestImageOfAllThatThereMayBe(t *testing.T) {
	b, _ := filled(t, 48, 0, 1, 1, api.Most-3, 1<<48-1, 1, 1<<48-2, 1)
	for bits := range 48 {
		image, e := b.Image(bits)
		if e != api.OK || image.Total() != api.Most || image.L() != 48-bits {
			t.Fatalf("Image by %d is %v, %d", bits, image.Items(), e)
		}
		if e := image.Add(0, 1); e != api.ErrFull {
			t.Errorf("Add to an image of Most is %d", e)
		}
		if e := image.Add(1<<(48-bits), 1); e != api.ErrRange {
			t.Errorf("Add of no value to an image is %d", e)
		}
		if bits == 0 {
			continue
		}
		if got := image.Items(); !slices.Equal(got, []api.Reading{{Value: 0, Weight: api.Most - 2}, {Value: 1<<(48-bits) - 1, Weight: 2}}) {
			t.Errorf("Image by %d is %v", bits, got)
		}
	}
}

func TestWider(t *testing.T) {
	for own := 1; own <= 48; own++ {
		b, m := mixed(t, own, 30, uint64(own)+9)
		for _, l := range append([]int{own - 1, own, own + 1}, edges...) {
			wider, e := b.Wider(l)
			if l < own || l > 48 {
				if wider != nil || e != api.ErrArg {
					t.Fatalf("Wider of %d bits to %d is %v, %d", own, l, wider, e)
				}
				continue
			}
			if wider == nil || e != api.OK || wider == b {
				t.Fatalf("Wider of %d bits to %d is %v, %d", own, l, wider, e)
			}
			ask(t, wider, m.wider(l), []int{math.MinInt, -1, 0, 1, 5, 1<<own - 1, 1 << own, 1 << l, math.MaxInt})
			hold(t, b, m)
			if got := wider.Add(1<<l, 1); got != api.ErrRange {
				t.Errorf("Add of no value to %d bits is %d", l, got)
			}
		}
	}
}

func TestImagesAndWiderBagsAreOnTheirOwn(t *testing.T) {
	for _, numbers := range [][]int{nil, {5, 1}, {9, 2, 1, 2, 4, 2}, {1, 1, 2, 1, 3, 1, 4, 1, 15, 1}} {
		for _, bits := range []int{0, 1} {
			b, m := filled(t, 4, numbers...)
			image, _ := b.Image(bits)
			goTheirWays(t, b, m, image, m.image(bits))
			b, m = filled(t, 4, numbers...)
			wider, _ := b.Wider(4 + bits)
			goTheirWays(t, b, m, wider, m.wider(4+bits))
		}
	}
}

// P10.7

func TestSame(t *testing.T) {
	bags := []struct {
		l       int
		numbers []int
	}{
		{1, nil}, {2, nil}, {48, nil}, {2, []int{1, 1}}, {3, []int{1, 1}}, {3, []int{1, 2}}, {3, []int{2, 1}}, {3, []int{0, 1}}, {3, []int{1, 1, 2, 1}}, {3, []int{1, 2, 2, 1}}, {3, []int{1, 1, 2, 2}},
		{3, []int{1, 3}}, {3, []int{0, 1, 1, 1, 2, 1}}, {3, []int{7, api.Most}}, {48, []int{7, api.Most}}, {48, []int{1<<48 - 1, api.Most}},
	}
	for i, first := range bags {
		for j, second := range bags {
			a, m := filled(t, first.l, first.numbers...)
			b, mb := filled(t, second.l, second.numbers...)
			if got := Same(a, b); got != (i == j) {
				t.Errorf("Same of %v and %v is %v", m, mb, got)
			}
			hold(t, a, m)
			hold(t, b, mb)
		}
	}
}

func TestSameHangsOnNoWay(t *testing.T) {
	a, _ := filled(t, 5, 9, 2, 9, 1, 3, 1, 20, 4)
	b, _ := filled(t, 5, 20, 1, 3, 1, 9, 3, 20, 3)
	c, _ := filled(t, 5, 20, 2)
	d, _ := filled(t, 5, 9, 3, 3, 1)
	c.Pour(c)
	c.Pour(d)
	e, _ := a.Wider(5)
	f, _ := a.Image(0)
	all := []*Bag{a, b, c, e, f}
	for _, x := range all {
		for _, y := range all {
			if !Same(x, y) {
				t.Errorf("Same of %v and %v is false", x.Items(), y.Items())
			}
		}
		if Same(x, d) || Same(d, x) {
			t.Errorf("Same of %v and %v is true", x.Items(), d.Items())
		}
	}
	f.Add(0, 1)
	if Same(a, f) || Same(f, a) {
		t.Error("a bag is the same as one with more")
	}
}

func TestSameOfNil(t *testing.T) {
	if !Same(nil, nil) {
		t.Error("nil is not the same as nil")
	}
	for l := 1; l <= 48; l++ {
		b, _ := made(t, l)
		if Same(b, nil) || Same(nil, b) {
			t.Error("a bag without values is the same as nil")
		}
	}
}

// P10.8

func TestKthAndRankLeadBack(t *testing.T) {
	for l := 1; l <= 48; l++ {
		b, _ := mixed(t, l, 100, uint64(l)+20)
		for _, r := range b.Items() {
			if x, e := b.Kth(b.Rank(r.Value)); x != r.Value || e != api.OK {
				t.Fatalf("Kth of the Rank of %d is %d, %d", r.Value, x, e)
			}
		}
		for r := 1; r <= b.Total(); r++ {
			x, e := b.Kth(r)
			if e != api.OK || b.Rank(x) < r || b.Rank(x-1) >= r || b.Between(x, x) < 1 {
				t.Fatalf("Kth of %d is %d, %d, of the Rank %d", r, x, e, b.Rank(x))
			}
		}
	}
}

func TestRanksOfWhatIsPouredTogether(t *testing.T) {
	for l := 1; l <= 48; l++ {
		a, _ := mixed(t, l, 80, uint64(l)+30)
		b, _ := mixed(t, l, 50, uint64(l)+40)
		both, _ := made(t, l)
		both.Pour(a)
		both.Pour(b)
		other, _ := b.Wider(l)
		other.Pour(a)
		if !Same(both, other) {
			t.Fatalf("%v is poured together, and %v the other way round", both.Items(), other.Items())
		}
		for _, r := range both.Items() {
			for _, x := range []int{r.Value - 1, r.Value, r.Value + 1} {
				if both.Rank(x) != a.Rank(x)+b.Rank(x) {
					t.Fatalf("Rank of %d is %d, and %d and %d of both", x, both.Rank(x), a.Rank(x), b.Rank(x))
				}
			}
		}
	}
}

func TestRanksOfImages(t *testing.T) {
	for l := 1; l <= 48; l++ {
		b, _ := mixed(t, l, 60, uint64(l)+50)
		for bits := range l {
			image, _ := b.Image(bits)
			for _, r := range image.Items() {
				for _, x := range []int{r.Value - 1, r.Value, r.Value + 1} {
					// The greatest value that is cut to x.
					if whole := (x+1)<<bits - 1; image.Rank(x) != b.Rank(whole) {
						t.Fatalf("Rank of %d is %d, and of %d it was %d", x, image.Rank(x), whole, b.Rank(whole))
					}
				}
			}
			for more := range l - bits {
				once, _ := b.Image(bits + more)
				if twice, _ := image.Image(more); !Same(once, twice) {
					t.Fatalf("Image by %d and %d is %v", bits, more, twice.Items())
				}
			}
			wider, _ := b.Wider(min(48, l+bits))
			if back, _ := wider.Image(0); !Same(back, wider) {
				t.Fatalf("Image by 0 of %v is %v", wider.Items(), back.Items())
			}
		}
	}
}

// Of nil.

func TestNil(t *testing.T) {
	var b *Bag
	if b.L() != 0 || b.Len() != 0 || b.Total() != 0 || len(b.Items()) != 0 {
		t.Errorf("nil tells %d, %d, %d, %v", b.L(), b.Len(), b.Total(), b.Items())
	}
	if lo, hi, ok := b.Ends(); lo != 0 || hi != 0 || ok {
		t.Errorf("Ends of nil are %d, %d, %v", lo, hi, ok)
	}
	full, m := filled(t, 3, 5, 2)
	if e := b.Pour(full); e != api.ErrNone {
		t.Errorf("Pour into nil is %d", e)
	}
	hold(t, full, m)
	for _, l := range edges {
		image, e := b.Image(l)
		wider, e2 := b.Wider(l)
		if image != nil || e != api.ErrNone || wider != nil || e2 != api.ErrNone {
			t.Errorf("of nil, Image and Wider of %d are %v, %d, and %v, %d", l, image, e, wider, e2)
		}
	}
	for _, x := range values {
		if x2, e := b.Kth(x); b.Rank(x) != 0 || x2 != 0 || e != api.ErrNone {
			t.Errorf("of nil, Rank and Kth of %d are %d, and %d, %d", x, b.Rank(x), x2, e)
		}
		for _, y := range values {
			if b.Between(x, y) != 0 {
				t.Errorf("of nil, Between of %d, %d is %d", x, y, b.Between(x, y))
			}
		}
		for _, weight := range weights {
			if e := b.Add(x, weight); e != api.ErrNone {
				t.Errorf("of nil, Add of %d, %d is %d", x, weight, e)
			}
		}
	}
}
