package dense

import (
	"maps"
	"math"
	"math/big"
	"slices"
	"testing"

	"dewpond/api"
)

// ids are numbers at which nodes end, and some ordinary and wrong ones.
var ids = []int{
	math.MinInt, math.MinInt + 1, -1 << 17, -15, -2, -1, 0, 1, 2, 3, 4, 5, 7, 8, 9, 15, 16, 17, 31, 32,
	1<<16 - 1, 1 << 16, 1<<17 - 1, 1 << 17, 1<<17 + 1, 1 << 32, 1<<32 + 1, 1<<49 - 1, 1 << 62, math.MaxInt - 1, math.MaxInt,
}

// counts are numbers at which weights end, and some ordinary and wrong ones.
var counts = []int{
	math.MinInt, -1 << 56, -2, -1, 0, 1, 2, 3, 100, 1<<55 - 1, 1 << 55,
	api.Most - 2, api.Most - 1, api.Most, api.Most + 1, 1 << 57, 1<<62 - 1, 1 << 62, math.MaxInt - api.Most, math.MaxInt - 1, math.MaxInt,
}

// model is what a store should be: a map, without any bound of its own.
type model struct {
	l       int
	weights map[int]int
}

func (m model) total() *big.Int {
	sum := new(big.Int)
	for _, weight := range m.weights {
		sum.Add(sum, big.NewInt(int64(weight)))
	}
	return sum
}

func (m model) add(id, count int) api.Errno {
	if id < 1 || id >= 2<<m.l || count < 0 {
		return api.ErrArg
	}
	if sum := m.total(); sum.Add(sum, big.NewInt(int64(count))).Cmp(big.NewInt(api.Most)) > 0 {
		return api.ErrFull
	}
	if count > 0 {
		m.weights[id] += count
	}
	return api.OK
}

func (m model) take(id int) int {
	weight := m.weights[id]
	delete(m.weights, id)
	return weight
}

func (m model) snap() []api.Node {
	var l []api.Node
	for id, weight := range m.weights {
		l = append(l, api.Node{Id: id, Count: weight})
	}
	slices.SortFunc(l, func(a, b api.Node) int { return a.Id - b.Id })
	return l
}

func made(t *testing.T, l int) (*Dense, model) {
	t.Helper()
	d, e := New(l)
	if d == nil || e != api.OK {
		t.Fatalf("New of %d is %v, %d", l, d, e)
	}
	return d, model{l, map[int]int{}}
}

// hold holds all that a store tells against what it should.
func hold(t *testing.T, d *Dense, m model) {
	t.Helper()
	if d.L() != m.l || d.Len() != len(m.weights) || big.NewInt(int64(d.Total())).Cmp(m.total()) != 0 {
		t.Fatalf("%v tells %d, %d, %d, and should be %v", d.Snap(), d.L(), d.Len(), d.Total(), m)
	}
	if got := d.Snap(); !slices.Equal(got, m.snap()) {
		t.Fatalf("Snap of %v is %v", m, got)
	}
	for id := range m.weights {
		if d.Get(id) != m.weights[id] {
			t.Fatalf("Get of %v, %d is %d", m, id, d.Get(id))
		}
	}
	for _, id := range ids {
		if d.Get(id) != m.weights[id] {
			t.Fatalf("Get of %v, %d is %d", m, id, d.Get(id))
		}
	}
}

// add adds to both, and holds the answers against each other.
func add(t *testing.T, d *Dense, m model, id, count int) {
	t.Helper()
	if got, want := d.Add(id, count), m.add(id, count); got != want {
		t.Fatalf("Add of %d, %d to %v is %d, and should be %d", id, count, m, got, want)
	}
}

// take takes from both, and holds the answers against each other.
func take(t *testing.T, d *Dense, m model, id int) {
	t.Helper()
	if got, want := d.Take(id), m.take(id); got != want {
		t.Fatalf("Take of %d from %v is %d, and should be %d", id, m, got, want)
	}
}

// next is the number behind n in a row of numbers that looks mixed.
func next(n uint64) uint64 { return n*6364136223846793005 + 1442695040888963407 }

// P7.1

func TestNew(t *testing.T) {
	for l := 1; l <= 16; l++ {
		d, m := made(t, l)
		hold(t, d, m)
		for id := range 2<<l + 2 {
			if d.Get(id) != 0 {
				t.Fatalf("Get of %d from a new store of %d bits is %d", id, l, d.Get(id))
			}
		}
	}
}

func TestNewOfWrongBits(t *testing.T) {
	for _, l := range []int{math.MinInt, -64, -48, -16, -1, 0, 17, 18, 31, 32, 47, 48, 49, 62, 63, 64, 65, 1 << 32, 1<<32 + 1, math.MaxInt} {
		if d, e := New(l); d != nil || e != api.ErrArg {
			t.Errorf("New of %d is %v, %d", l, d, e)
		}
	}
}

func TestNewStoresAreOnTheirOwn(t *testing.T) {
	a, _ := made(t, 3)
	b, m := made(t, 3)
	a.Add(9, 2)
	hold(t, b, m)
}

func TestEachNodeHasItsPlace(t *testing.T) {
	for l := 1; l <= 16; l++ {
		d, _ := made(t, l)
		for id := 2<<l - 1; id >= 1; id-- {
			if e := d.Add(id, 3*id+1); e != api.OK {
				t.Fatalf("Add of %d to a store of %d bits is %d", id, l, e)
			}
		}
		top, total := 2<<l-1, 0
		for id := 1; id <= top; id++ {
			total += 3*id + 1
			if d.Get(id) != 3*id+1 {
				t.Fatalf("Get of %d from a full store of %d bits is %d", id, l, d.Get(id))
			}
		}
		if d.Len() != top || d.Total() != total || d.Get(0) != 0 || d.Get(top+1) != 0 {
			t.Fatalf("a full store of %d bits tells %d, %d, %d, %d", l, d.Len(), d.Total(), d.Get(0), d.Get(top+1))
		}
		for at, n := range d.Snap() {
			if n != (api.Node{Id: at + 1, Count: 3*at + 4}) {
				t.Fatalf("at %d of a full store of %d bits stands %v", at, l, n)
			}
		}
		for id := 1; id <= top; id++ {
			if d.Take(id) != 3*id+1 || d.Len() != top-id {
				t.Fatalf("what is taken from %d of a full store of %d bits is wrong", id, l)
			}
		}
		if d.Total() != 0 || len(d.Snap()) != 0 {
			t.Fatalf("a store of %d bits of which all was taken has %d, %v", l, d.Total(), d.Snap())
		}
	}
}

// P7.2

func TestAddAndTake(t *testing.T) {
	d, m := made(t, 3)
	for _, r := range []struct {
		id, count int
		want      api.Errno
	}{
		{9, 2, api.OK}, {1, 5, api.OK}, {9, 1, api.OK}, {15, 0, api.OK}, {9, 0, api.OK}, {16, 1, api.ErrArg}, {16, 0, api.ErrArg}, {0, 1, api.ErrArg}, {0, 0, api.ErrArg}, {-1, 1, api.ErrArg}, {-9, 1, api.ErrArg},
		{9, -1, api.ErrArg}, {9, -3, api.ErrArg}, {8, -1, api.ErrArg}, {9, math.MinInt, api.ErrArg}, {math.MinInt, math.MinInt, api.ErrArg}, {math.MaxInt, 1, api.ErrArg},
		{16, api.Most + 1, api.ErrArg}, {0, math.MaxInt, api.ErrArg}, {9, api.Most + 1, api.ErrFull}, {9, api.Most, api.ErrFull}, {2, api.Most - 7, api.ErrFull}, {2, math.MaxInt, api.ErrFull}, {9, math.MaxInt - 2, api.ErrFull},
		{2, api.Most - 8, api.OK}, {2, 1, api.ErrFull}, {3, 1, api.ErrFull}, {3, 0, api.OK}, {2, 0, api.OK}, {2, -1, api.ErrArg}, {16, 1, api.ErrArg}, {3, math.MaxInt, api.ErrFull},
	} {
		if got := d.Add(r.id, r.count); got != r.want || m.add(r.id, r.count) != r.want {
			t.Errorf("Add of %d, %d is %d, and should be %d", r.id, r.count, got, r.want)
		}
		hold(t, d, m)
	}
	for _, r := range []struct{ id, want int }{
		{9, 3}, {9, 0}, {15, 0}, {3, 0}, {0, 0}, {-1, 0}, {16, 0}, {1 << 17, 0}, {math.MinInt, 0}, {math.MaxInt, 0}, {2, api.Most - 8}, {1, 5}, {1, 0},
	} {
		if got := d.Take(r.id); got != r.want || m.take(r.id) != r.want {
			t.Errorf("Take of %d is %d, and should be %d", r.id, got, r.want)
		}
		hold(t, d, m)
	}
	add(t, d, m, 7, api.Most)
	hold(t, d, m)
}

func TestExample(t *testing.T) {
	d, _ := made(t, 3)
	if d.Add(9, 2) != api.OK || d.Add(1, 5) != api.OK || d.Add(9, 1) != api.OK {
		t.Fatal("a count is not added")
	}
	if got := d.Snap(); !slices.Equal(got, []api.Node{{Id: 1, Count: 5}, {Id: 9, Count: 3}}) {
		t.Errorf("Snap is %v", got)
	}
	if got := d.Take(9); got != 3 || d.Get(9) != 0 || d.Len() != 1 || d.Total() != 5 {
		t.Errorf("Take is %d; left is %v", got, d.Snap())
	}
}

func TestOfTwoEdges(t *testing.T) {
	for _, l := range []int{1, 3} {
		for _, one := range ids {
			for _, first := range counts {
				d, m := made(t, l)
				add(t, d, m, one, first)
				hold(t, d, m)
				for _, id := range []int{one, 1, 2, 15, 16} {
					for _, count := range counts {
						c, mc := d.Clone(), model{l, maps.Clone(m.weights)}
						add(t, c, mc, id, count)
						take(t, c, mc, one)
						hold(t, c, mc)
					}
				}
			}
		}
	}
}

func TestEdgesOneAfterAnother(t *testing.T) {
	for l := 1; l <= 16; l++ {
		d, m := made(t, l)
		for _, id := range ids {
			for _, count := range counts {
				add(t, d, m, id, count)
				hold(t, d, m)
			}
			take(t, d, m, id)
			hold(t, d, m)
		}
	}
}

func TestManySteps(t *testing.T) {
	seed := uint64(7)
	for l := 1; l <= 16; l++ {
		d, m := made(t, l)
		for step := range 300 {
			seed = next(seed)
			// A few numbers beside the nodes, below and above them, are among those that are asked for.
			id := int(seed>>33)%(2<<min(l, 5)+4) - 2
			if seed>>20&1 == 1 {
				id += 2<<l - 2<<min(l, 5)
			}
			seed = next(seed)
			count := int(seed>>33)%12 - 2
			if seed>>20&15 == 0 {
				count = api.Most / 3
			}
			if step%3 == 2 {
				take(t, d, m, id)
			} else {
				add(t, d, m, id, count)
			}
			hold(t, d, m)
		}
	}
}

// P7.3

func TestSnap(t *testing.T) {
	for set := range 1 << 7 {
		d, m := made(t, 2)
		for id := 7; id >= 1; id-- {
			if set>>(id-1)&1 == 1 {
				add(t, d, m, id, 10*id)
			}
		}
		hold(t, d, m)
		before := d.Snap()
		answer := d.Snap()
		for _, n := range answer[len(answer):cap(answer)] {
			if n != (api.Node{}) {
				t.Errorf("behind %v stands %v", answer, n)
			}
		}
		for at := range answer {
			answer[at] = api.Node{Id: 99, Count: 99}
		}
		_ = append(answer, api.Node{Id: 98, Count: 98})
		hold(t, d, m)
		d.Add(1, 1)
		if !slices.Equal(before, m.snap()) {
			t.Errorf("what was told has become %v", before)
		}
	}
}

func TestClone(t *testing.T) {
	for l := 1; l <= 16; l++ {
		d, m := made(t, l)
		hold(t, d.Clone(), m)
		for _, id := range []int{1, 2, 3, 1 << l, 2<<l - 1} {
			add(t, d, m, id, id)
		}
		c := d.Clone()
		if c == d {
			t.Fatal("a clone is the store itself")
		}
		hold(t, c, m)
		hold(t, d, m)
		if e := c.Add(2<<l-1, api.Most); e != api.ErrFull {
			t.Errorf("Add of too much to a clone is %d", e)
		}
		if e := c.Add(2<<l, 1); e != api.ErrArg {
			t.Errorf("Add of no node to a clone is %d", e)
		}
		hold(t, c, m)
	}
}

// P7.4

func TestClonesAreOnTheirOwn(t *testing.T) {
	for _, l := range []int{1, 4, 16} {
		d, m := made(t, l)
		add(t, d, m, 2, 7)
		add(t, d, m, 1<<l, 3)
		c, mc := d.Clone(), model{l, map[int]int{2: 7, 1 << l: 3}}
		if l == 1 {
			mc.weights = map[int]int{2: 10}
		}
		hold(t, c, mc)
		add(t, c, mc, 1, 5)
		take(t, c, mc, 2)
		hold(t, c, mc)
		hold(t, d, m)
		add(t, d, m, 3, 9)
		take(t, d, m, 1<<l)
		hold(t, c, mc)
		hold(t, d, m)
		again := c.Clone()
		c.Take(1)
		hold(t, again, mc)
	}
}

func TestTotalIsOfAllNodes(t *testing.T) {
	d, _ := made(t, 10)
	seed := uint64(11)
	for range 5000 {
		seed = next(seed)
		id := 1 + int(seed>>33)%2047
		if seed>>20&1 == 1 {
			d.Take(id)
		} else {
			d.Add(id, int(seed>>8)%1000)
		}
		total, snap := 0, d.Snap()
		for _, n := range snap {
			total += n.Count
			if n.Count < 1 || n.Count != d.Get(n.Id) {
				t.Fatalf("%v stands where %d is told", n, d.Get(n.Id))
			}
		}
		if total != d.Total() || len(snap) != d.Len() {
			t.Fatalf("%d nodes of %d are told of %v", d.Len(), d.Total(), snap)
		}
	}
}

// Of nil.

func TestNil(t *testing.T) {
	var d *Dense
	if d.L() != 0 || d.Len() != 0 || d.Total() != 0 || len(d.Snap()) != 0 || d.Clone() != nil {
		t.Errorf("nil tells %d, %d, %d, %v, %v", d.L(), d.Len(), d.Total(), d.Snap(), d.Clone())
	}
	for _, id := range ids {
		if d.Get(id) != 0 || d.Take(id) != 0 {
			t.Errorf("nil has %d, %d at %d", d.Get(id), d.Take(id), id)
		}
		for _, count := range counts {
			if e := d.Add(id, count); e != api.ErrNone {
				t.Errorf("Add of %d, %d to nil is %d", id, count, e)
			}
		}
	}
}
