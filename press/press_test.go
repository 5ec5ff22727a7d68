package press

import (
	"maps"
	"math"
	"slices"
	"strconv"
	"testing"

	"dewpond/api"
	"dewpond/fold"
	"dewpond/pool"
)

// kinds are the kinds of pools.
var kinds = []int{api.Dense, api.Hash}

// wrongs are numbers that are no k.
var wrongs = []int{math.MinInt, math.MinInt + 1, -api.MaxK, -2, -1, 0, api.MaxK + 1, api.MaxK + 2, 2 * api.MaxK, 1 << 32, 1<<32 + 1, api.Most, 1 << 62, math.MaxInt - 1, math.MaxInt}

// rights are numbers that are a k: the ends, and some ordinary ones.
var rights = []int{1, 2, 3, 4, 5, 7, 8, 9, 16, 100, 1000, api.MaxK / 2, api.MaxK - 1, api.MaxK}

// model is what a pool should be: a map.
type model struct {
	l       int
	weights map[int]int
}

// each calls f with each kind and each number of bits for which there are pools.
func each(f func(kind, l int)) {
	for l := 1; l <= 48; l++ {
		if l <= 16 {
			f(api.Dense, l)
		}
		f(api.Hash, l)
	}
}

func (m model) total() int {
	sum := 0
	for _, weight := range m.weights {
		sum += weight
	}
	return sum
}

func (m model) snap() []api.Node {
	var l []api.Node
	for _, id := range slices.Sorted(maps.Keys(m.weights)) {
		l = append(l, api.Node{Id: id, Count: m.weights[id]})
	}
	return l
}

func (m model) clone() model { return model{m.l, maps.Clone(m.weights)} }

// before is the order of folding, of nodes as binary digits: the longer ones first, then those that come first.
func before(a, b int) int {
	x, y := strconv.FormatInt(int64(a), 2), strconv.FormatInt(int64(b), 2)
	if len(x) != len(y) {
		return len(y) - len(x)
	}
	if x < y {
		return -1
	}
	if x > y {
		return 1
	}
	return 0
}

// first is the first parent that is ready for most; 0, if none is.
func (m model) first(most int) int {
	first := 0
	for id := range m.weights {
		parent := id / 2
		if id > 1 && m.weights[2*parent]+m.weights[2*parent+1]+m.weights[parent] <= most && (first == 0 || before(parent, first) < 0) {
			first = parent
		}
	}
	return first
}

// fold gives to a parent what its children weigh.
func (m model) fold(parent int) {
	m.weights[parent] += m.weights[2*parent] + m.weights[2*parent+1]
	delete(m.weights, 2*parent)
	delete(m.weights, 2*parent+1)
}

// press folds as far as it may be, and is what was folded: each time all parents are looked at anew.
func (m model) press(k int) []int {
	most := m.total() / k
	var parents []int
	for parent := m.first(most); parent != 0; parent = m.first(most) {
		m.fold(parent)
		parents = append(parents, parent)
	}
	return parents
}

func (m model) tight(k int) bool { return m.first(m.total()/k) == 0 }

func (m model) light(k int) bool {
	for id, weight := range m.weights {
		if id < 1<<m.l && weight > m.total()/k {
			return false
		}
	}
	return true
}

// filled is a pool with the nodes and weights of numbers, one and the other in turn.
func filled(t *testing.T, kind, l int, numbers ...int) (*pool.Pool, model) {
	t.Helper()
	p, e := pool.New(kind, l)
	if e != api.OK {
		t.Fatalf("there is no pool of %d, %d: %d", kind, l, e)
	}
	m := model{l, map[int]int{}}
	for at := 0; at < len(numbers); at += 2 {
		put(t, p, m, numbers[at], numbers[at+1])
	}
	return p, m
}

// put gives both so much more.
func put(t *testing.T, p *pool.Pool, m model, id, weight int) {
	t.Helper()
	if e := p.Add(id, weight); e != api.OK {
		t.Fatalf("%d, %d is refused: %d", id, weight, e)
	}
	if weight > 0 {
		m.weights[id] += weight
	}
}

// next is the number behind n in a row of numbers that looks mixed.
func next(n uint64) uint64 { return n*6364136223846793005 + 1442695040888963407 }

// mixed is a pool of about so many nodes, close to the root, among the last leaves, or of any depth.
func mixed(t *testing.T, kind, l, many int, seed uint64) (*pool.Pool, model) {
	t.Helper()
	p, m := filled(t, kind, l)
	for range many {
		seed = next(seed)
		id := int(seed >> 15)
		seed = next(seed)
		switch seed >> 40 % 3 {
		case 0:
			id = 1 + id%min(40, 2<<l-1)
		case 1:
			id = 2<<l - 1 - id%min(20, 1<<l)
		case 2:
			id = max(1, id%(2<<l)>>(seed>>50%uint64(l+1)))
		}
		put(t, p, m, id, 1+int(seed>>33)%9)
	}
	return p, m
}

// leaves gives some leaves, close to one another and far apart, more.
func leaves(t *testing.T, p *pool.Pool, m model, many int, seed uint64) {
	t.Helper()
	for range many {
		seed = next(seed)
		x := int(seed>>15) % (1 << m.l)
		seed = next(seed)
		if seed>>40%2 == 0 {
			x %= min(64, 1<<m.l)
		}
		put(t, p, m, 1<<m.l+x, 1+int(seed>>33)%5)
	}
}

// hold holds all that a pool has against what it should.
func hold(t *testing.T, p *pool.Pool, m model) {
	t.Helper()
	if got, want := p.Snap(), m.snap(); !slices.Equal(got, want) || p.L() != m.l || p.Total() != m.total() {
		t.Fatalf("the pool is of %d bits and %v, and should be of %d and %v", p.L(), got, m.l, want)
	}
}

// ask holds what is told of a pool against what it should be, and the pool that is folded, too.
func ask(t *testing.T, p *pool.Pool, m model, k int) {
	t.Helper()
	if got, want := Tight(p, k), m.tight(k); got != want {
		t.Fatalf("Tight of %v, %d is %v", m, k, got)
	}
	if got, want := Light(p, k), m.light(k); got != want {
		t.Fatalf("Light of %v, %d is %v", m, k, got)
	}
	way, e := Trace(p, k)
	hold(t, p, m)
	q, pressed := p.Clone(), m.clone()
	want := pressed.press(k)
	if e != api.OK || !slices.Equal(way, want) {
		t.Fatalf("Trace of %v, %d is %v, %d, and should be %v", m, k, way, e, want)
	}
	if n, e := Run(q, k); e != api.OK || n != len(want) {
		t.Fatalf("Run of %v, %d is %d, %d, and should be %d", m, k, n, e, len(want))
	}
	hold(t, q, pressed)
	hold(t, p, m)
	laws(t, p, q, k, len(want))
}

// laws holds a pool that was folded so often against what it was.
func laws(t *testing.T, was, p *pool.Pool, k, folds int) {
	t.Helper()
	if !Tight(p, k) || p.Total() != was.Total() || p.Len() > Bound(k) || p.Len() > was.Len() || folds > was.Len()*was.L() {
		t.Fatalf("folded %d times for %d, %v is %v", folds, k, was.Snap(), p.Snap())
	}
	if Light(was, k) && !Light(p, k) {
		t.Fatalf("of %v, which is light for %d, comes %v", was.Snap(), k, p.Snap())
	}
	more := p.Clone()
	if n, e := Run(more, k); n != 0 || e != api.OK || !pool.Same(more, p) {
		t.Fatalf("run once more for %d, %v is folded %d times, %d", k, p.Snap(), n, e)
	}
	if way, e := Trace(p, k); len(way) != 0 || e != api.OK {
		t.Fatalf("Trace of %v, which is folded for %d, is %v, %d", p.Snap(), k, way, e)
	}
	then, now := sums(was), sums(p)
	for id, sum := range now {
		if sum > then[id] {
			t.Fatalf("folded for %d, %v is %v: with all below it %d weighs more", k, was.Snap(), p.Snap(), id)
		}
	}
	if now[1] != then[1] {
		t.Fatalf("folded for %d, %v is %v: the root has another sum", k, was.Snap(), p.Snap())
	}
}

// sums is what each node weighs with all below it, of the nodes for which that is anything.
func sums(p *pool.Pool) map[int]int {
	sums := map[int]int{}
	for id, weight := range p.Each() {
		for ; id >= 1; id /= 2 {
			sums[id] += weight
		}
	}
	return sums
}

// The chapter's example.

func TestExample(t *testing.T) {
	for _, kind := range kinds {
		p, m := filled(t, kind, 2, 4, 1, 5, 2, 2, 1)
		if way, e := Trace(p, 1); e != api.OK || !slices.Equal(way, []int{2, 1}) {
			t.Errorf("Trace for 1 is %v, %d", way, e)
		}
		if way, e := Trace(p, 2); e != api.OK || !slices.Equal(way, []int{1}) {
			t.Errorf("Trace for 2 is %v, %d", way, e)
		}
		hold(t, p, m)
		q := p.Clone()
		if n, e := Run(q, 1); n != 2 || e != api.OK || q.Len() != 1 || q.Get(1) != 4 {
			t.Errorf("Run for 1 is %d, %d, and leaves %v", n, e, q.Snap())
		}
		if n, e := Run(p, 2); n != 1 || e != api.OK || !slices.Equal(p.Snap(), []api.Node{{Id: 1, Count: 1}, {Id: 4, Count: 1}, {Id: 5, Count: 2}}) {
			t.Errorf("Run for 2 is %d, %d, and leaves %v", n, e, p.Snap())
		}
	}
}

// P12.1, P12.2

func TestWhatIsFolded(t *testing.T) {
	for _, kind := range kinds {
		for _, r := range []struct {
			l, k        int
			nodes, want []int
			left        []api.Node
		}{
			{3, 1, nil, nil, nil},
			{3, 1, []int{1, 5}, nil, []api.Node{{Id: 1, Count: 5}}},
			{3, 5, []int{1, 5}, nil, []api.Node{{Id: 1, Count: 5}}},
			{3, 1, []int{13, 5}, []int{6, 3, 1}, []api.Node{{Id: 1, Count: 5}}},
			// What weighs more than the cap stays where it is.
			{3, 2, []int{13, 5}, nil, []api.Node{{Id: 13, Count: 5}}},
			// Below k in all, the cap is 0, and nothing is folded.
			{3, 6, []int{8, 1, 9, 1, 3, 3}, nil, []api.Node{{Id: 3, Count: 3}, {Id: 8, Count: 1}, {Id: 9, Count: 1}}},
			{3, 5, []int{8, 1, 9, 1, 4, 3}, nil, []api.Node{{Id: 4, Count: 3}, {Id: 8, Count: 1}, {Id: 9, Count: 1}}},
			{3, 5, []int{8, 1, 9, 1, 2, 3}, nil, []api.Node{{Id: 2, Count: 3}, {Id: 8, Count: 1}, {Id: 9, Count: 1}}},
			// Of one depth the lesser ones are first; the deeper ones are ahead of these.
			{3, 1, []int{14, 1, 12, 1, 10, 1, 8, 1}, []int{4, 5, 6, 7, 2, 3, 1}, []api.Node{{Id: 1, Count: 4}}},
			{3, 2, []int{15, 1, 13, 1, 10, 1, 8, 1}, []int{4, 5, 6, 7, 2, 3}, []api.Node{{Id: 2, Count: 2}, {Id: 3, Count: 2}}},
			{3, 1, []int{15, 1, 4, 1}, []int{7, 2, 3, 1}, []api.Node{{Id: 1, Count: 2}}},
			// Just the cap is folded, one more is not.
			{3, 2, []int{8, 2, 9, 1, 4, 2, 15, 5}, []int{4, 7, 2, 3}, []api.Node{{Id: 2, Count: 5}, {Id: 3, Count: 5}}},
			{3, 2, []int{8, 3, 9, 3, 15, 5}, []int{7, 3, 1}, []api.Node{{Id: 1, Count: 5}, {Id: 8, Count: 3}, {Id: 9, Count: 3}}},
			// 4 is too heavy for its pair till it is folded away itself; then its pair is folded, but no farther.
			{3, 3, []int{4, 3, 8, 1, 9, 1, 15, 7}, []int{2, 4, 1, 2}, []api.Node{{Id: 1, Count: 3}, {Id: 2, Count: 2}, {Id: 15, Count: 7}}},
			// So is 5, the other one of its pair.
			{3, 3, []int{5, 3, 10, 1, 11, 1, 15, 7}, []int{2, 5, 1, 2}, []api.Node{{Id: 1, Count: 3}, {Id: 2, Count: 2}, {Id: 15, Count: 7}}},
			// Both are, and the lesser one is first.
			{3, 4, []int{4, 2, 5, 2, 8, 2, 9, 1, 10, 1, 11, 2, 15, 6}, []int{2, 4, 5, 1}, []api.Node{{Id: 1, Count: 4}, {Id: 4, Count: 3}, {Id: 5, Count: 3}, {Id: 15, Count: 6}}},
			// What a fold leaves at a parent goes on up from there.
			{4, 1, []int{31, 1}, []int{15, 7, 3, 1}, []api.Node{{Id: 1, Count: 1}}},
			{4, 2, []int{16, 1, 31, 1}, []int{8, 15, 4, 7, 2, 3}, []api.Node{{Id: 2, Count: 1}, {Id: 3, Count: 1}}},
		} {
			p, m := filled(t, kind, r.l, r.nodes...)
			way, e := Trace(p, r.k)
			if e != api.OK || !slices.Equal(way, r.want) {
				t.Errorf("Trace of %v, %d is %v, %d, and should be %v", r.nodes, r.k, way, e, r.want)
			}
			hold(t, p, m)
			if n, e := Run(p, r.k); n != len(r.want) || e != api.OK || !slices.Equal(p.Snap(), r.left) {
				t.Errorf("Run of %v, %d is %d, %d, and leaves %v, and should leave %v", r.nodes, r.k, n, e, p.Snap(), r.left)
			}
		}
	}
}

func TestAllSmallPools(t *testing.T) {
	for _, kind := range kinds {
		for _, r := range []struct{ l, weights, pools int }{{1, 6, 6 * 6 * 6}, {2, 3, 3 * 3 * 3 * 3 * 3 * 3 * 3}} {
			for set := range r.pools {
				p, m := filled(t, kind, r.l)
				for id := 1; id < 2<<r.l; id++ {
					put(t, p, m, id, set%r.weights)
					set /= r.weights
				}
				for k := 1; k <= m.total()+1; k++ {
					ask(t, p, m, k)
				}
			}
		}
	}
}

func TestAllSetsOfNodes(t *testing.T) {
	for _, kind := range kinds {
		for set := range 1 << 15 {
			p, m := filled(t, kind, 3)
			for id := 1; id <= 15; id++ {
				put(t, p, m, id, set>>(id-1)&1*(1+(id+set)%3))
			}
			ask(t, p, m, 1+set%5)
		}
	}
}

func TestMixedPools(t *testing.T) {
	each(func(kind, l int) {
		for seed := range uint64(3) {
			p, m := mixed(t, kind, l, 12+int(seed)*12, seed*1000+uint64(l))
			for _, k := range append([]int{6, 20, 50, m.total(), m.total() - 1, m.total() + 1, m.total() / 2}, rights...) {
				ask(t, p, m, k)
			}
		}
	})
}

func TestRunAfterRun(t *testing.T) {
	each(func(kind, l int) {
		for _, k := range []int{1, 2, 3, 7} {
			p, m := filled(t, kind, l)
			for round := range 4 {
				leaves(t, p, m, 3*k+round, uint64(100*l+10*k+round))
				if !m.light(k) {
					t.Fatalf("%v is not light for %d", m, k)
				}
				ask(t, p, m, k)
				want := m.press(k)
				if n, e := Run(p, k); n != len(want) || e != api.OK {
					t.Fatalf("Run is %d, %d, and should be %d", n, e, len(want))
				}
				hold(t, p, m)
			}
			// A lesser k has a greater cap.
			for k := k; k >= 1; k-- {
				ask(t, p, m, k)
			}
		}
	})
}

func TestOneLeafGoesUpToTheRoot(t *testing.T) {
	each(func(kind, l int) {
		for _, leaf := range []int{1 << l, 2<<l - 1} {
			p, _ := filled(t, kind, l, leaf, 7)
			way, e := Trace(p, 1)
			if e != api.OK || len(way) != l {
				t.Fatalf("of %d bits, Trace is %v, %d", l, way, e)
			}
			for at, parent := range way {
				if parent != leaf>>(at+1) {
					t.Fatalf("of %d bits, Trace is %v", l, way)
				}
			}
			// There is just one node, so there are as many folds as nodes times bits.
			if n, e := Run(p, 1); n != l || e != api.OK || p.Get(1) != 7 || p.Len() != 1 {
				t.Errorf("of %d bits, Run is %d, %d, and leaves %v", l, n, e, p.Snap())
			}
		}
	})
}

func TestWithKOneAllIsAtTheRoot(t *testing.T) {
	each(func(kind, l int) {
		p, m := mixed(t, kind, l, 30, uint64(700+l))
		if _, e := Run(p, 1); e != api.OK || p.Len() != 1 || p.Get(1) != m.total() {
			t.Errorf("of %v, Run leaves %v, %d", m, p.Snap(), e)
		}
	})
}

func TestOfAllThatThereMayBe(t *testing.T) {
	for _, kind := range kinds {
		for _, r := range [][]int{
			{8, api.Most}, {1, api.Most}, {8, 1, 9, api.Most - 1}, {8, 1 << 55, 9, 1<<55 - 1}, {4, 1 << 54, 8, 1 << 54, 9, 1 << 54, 15, 1<<54 - 1}, {2, api.Most - 1, 8, 1}, {2, api.Most - 2, 8, 1, 15, 1}, {3, 5, 15, 5, 14, 5, 1, api.Most - 15},
			{8, 1<<36 - 1, 9, 1, 15, api.Most - 1<<36}, {8, 1<<36 - 2, 9, 1, 15, api.Most - 1<<36 + 1},
		} {
			p, m := filled(t, kind, 3, r...)
			for _, k := range rights {
				ask(t, p, m, k)
			}
			if _, e := Run(p, 1); e != api.OK || p.Total() != api.Most || p.Get(1) != api.Most {
				t.Errorf("of %v, Run leaves %v, %d", r, p.Snap(), e)
			}
		}
		// With the greatest k 2^36 - 1 is the cap of all that there may be.
		p, _ := filled(t, kind, 3, 8, 1<<36-2, 9, 1, 15, api.Most-1<<36+1)
		if way, e := Trace(p, api.MaxK); e != api.OK || !slices.Equal(way, []int{4, 2, 1}) {
			t.Errorf("Trace of just the cap is %v, %d", way, e)
		}
		p, _ = filled(t, kind, 3, 8, 1<<36-1, 9, 1, 15, api.Most-1<<36)
		if way, e := Trace(p, api.MaxK); e != api.OK || len(way) != 0 {
			t.Errorf("Trace of one above the cap is %v, %d", way, e)
		}
	}
}

func TestTraceIsOnItsOwn(t *testing.T) {
	for _, kind := range kinds {
		p, m := filled(t, kind, 3, 14, 1, 12, 1, 10, 1, 8, 1)
		a, _ := Trace(p, 1)
		for at := range a {
			a[at] = -1
		}
		if cap(a) > len(a) {
			_ = append(a, -1)
		}
		hold(t, p, m)
		if b, e := Trace(p, 1); e != api.OK || !slices.Equal(b, []int{4, 5, 6, 7, 2, 3, 1}) {
			t.Errorf("Trace is %v, %d", b, e)
		}
		if n, e := Run(p, 1); n != 7 || e != api.OK {
			t.Errorf("Run is %d, %d", n, e)
		}
	}
}

func TestTraceIsWhatRunFolds(t *testing.T) {
	each(func(kind, l int) {
		for _, k := range []int{1, 2, 4, 9} {
			p, _ := mixed(t, kind, l, 50, uint64(300+l))
			way, e := Trace(p, k)
			if e != api.OK {
				t.Fatal(e)
			}
			q := p.Clone()
			for _, parent := range way {
				if id, ok := fold.First(q, q.Total()/k); id != parent || !ok {
					t.Fatalf("of %v, %d is first, not %d", q.Snap(), id, parent)
				}
				fold.Do(q, parent)
			}
			if n, e := Run(p, k); n != len(way) || e != api.OK || !pool.Same(p, q) {
				t.Fatalf("Run is %d, %d, and leaves %v, not %v", n, e, p.Snap(), q.Snap())
			}
		}
	})
}

func TestWrongOfRunAndTrace(t *testing.T) {
	for _, kind := range kinds {
		for _, nodes := range [][]int{nil, {8, 1, 9, 1, 15, 4}, {1, 1}} {
			p, m := filled(t, kind, 3, nodes...)
			for _, k := range wrongs {
				if n, e := Run(p, k); n != 0 || e != api.ErrArg {
					t.Errorf("Run for %d is %d, %d", k, n, e)
				}
				if way, e := Trace(p, k); len(way) != 0 || e != api.ErrArg {
					t.Errorf("Trace for %d is %v, %d", k, way, e)
				}
				hold(t, p, m)
			}
			for _, k := range rights {
				if _, e := Trace(p, k); e != api.OK {
					t.Errorf("Trace for %d is %d", k, e)
				}
				if _, e := Run(p.Clone(), k); e != api.OK {
					t.Errorf("Run for %d is %d", k, e)
				}
			}
		}
	}
}

func TestNil(t *testing.T) {
	var p *pool.Pool
	for _, k := range append(rights, wrongs...) {
		if n, e := Run(p, k); n != 0 || e != api.ErrNone {
			t.Errorf("Run of nil, %d is %d, %d", k, n, e)
		}
		if way, e := Trace(p, k); len(way) != 0 || e != api.ErrNone {
			t.Errorf("Trace of nil, %d is %v, %d", k, way, e)
		}
		if Tight(p, k) || Light(p, k) {
			t.Errorf("of nil, %d: Tight is %v, Light is %v", k, Tight(p, k), Light(p, k))
		}
	}
}

// P12.3

func TestTight(t *testing.T) {
	for _, kind := range kinds {
		for _, r := range []struct {
			k     int
			nodes []int
			want  bool
		}{
			{1, nil, true}, {api.MaxK, nil, true}, {1, []int{1, 1}, true}, {1, []int{2, 1}, false}, {2, []int{2, 1}, true}, {1, []int{15, 1}, false}, {2, []int{15, 2}, true},
			{2, []int{8, 1, 9, 2, 4, 1, 15, 4}, false}, {2, []int{8, 1, 9, 2, 4, 2, 15, 4}, false}, {2, []int{8, 2, 9, 2, 4, 1, 15, 5}, false}, {2, []int{8, 2, 9, 2, 4, 1, 15, 4}, false}, {3, []int{8, 2, 9, 2, 4, 1, 15, 6}, false}, {3, []int{8, 2, 9, 2, 15, 6}, true}, {2, []int{8, 2, 9, 2, 15, 4}, false},
			{4, []int{1, 2, 2, 1, 15, 9}, false}, {4, []int{1, 3, 2, 1, 15, 9}, true}, {4, []int{1, 2, 2, 1, 15, 8}, true}, {4, []int{1, 9, 3, 1, 15, 2}, false},
			{api.MaxK, []int{8, 1, 9, 1}, true}, {api.MaxK, []int{8, 1, 15, api.MaxK - 1}, false}, {api.MaxK, []int{8, 1, 15, api.MaxK - 2}, true},
		} {
			p, m := filled(t, kind, 3, r.nodes...)
			if got := Tight(p, r.k); got != r.want || got != m.tight(r.k) {
				t.Errorf("Tight of %v, %d is %v", r.nodes, r.k, got)
			}
			hold(t, p, m)
		}
	}
}

func TestLight(t *testing.T) {
	for _, kind := range kinds {
		for _, r := range []struct {
			k     int
			nodes []int
			want  bool
		}{
			{1, nil, true}, {api.MaxK, nil, true}, {1, []int{1, 1}, true}, {2, []int{1, 1}, false}, {2, []int{1, 2}, false}, {1, []int{7, 5}, true}, {2, []int{7, 5}, false},
			// Leaves weigh what they will.
			{api.MaxK, []int{8, 1}, true}, {api.MaxK, []int{8, 1, 15, 100}, true}, {100, []int{8, 1000, 9, 1, 12, 5}, true},
			// Just the cap is light, one more is not.
			{2, []int{1, 4, 15, 4}, true}, {2, []int{1, 5, 15, 4}, false}, {2, []int{1, 5, 15, 5}, true}, {3, []int{2, 3, 8, 6}, true}, {3, []int{2, 3, 8, 5}, false}, {3, []int{7, 3, 8, 6}, true}, {3, []int{7, 4, 8, 7}, false}, {3, []int{7, 4, 8, 8}, true}, {3, []int{4, 4, 8, 8}, true}, {3, []int{4, 4, 8, 7}, false},
			// One that is too heavy will do, wherever it stands.
			{4, []int{1, 3, 2, 2, 3, 2, 15, 2}, false}, {4, []int{1, 2, 2, 3, 3, 2, 15, 2}, false}, {4, []int{1, 2, 2, 2, 3, 3, 15, 2}, false}, {4, []int{1, 2, 2, 2, 3, 2, 15, 2}, true}, {4, []int{1, 2, 2, 1, 3, 2, 15, 3}, true},
			{api.MaxK, []int{4, 1, 15, api.MaxK - 1}, true}, {api.MaxK, []int{4, 1, 15, api.MaxK - 2}, false},
		} {
			p, m := filled(t, kind, 3, r.nodes...)
			if got := Light(p, r.k); got != r.want || got != m.light(r.k) {
				t.Errorf("Light of %v, %d is %v", r.nodes, r.k, got)
			}
			hold(t, p, m)
		}
	}
}

// A node is a leaf in one universe, and has children in another one.
func TestLightHangsOnTheUniverse(t *testing.T) {
	each(func(kind, l int) {
		p, _ := filled(t, kind, l, 1<<l, 3, 2<<l-1, 2)
		if !Light(p, 2) || !Light(p, api.MaxK) {
			t.Errorf("leaves of %d bits are not light", l)
		}
		for _, id := range []int{1 << (l - 1), 1<<l - 1, 1} {
			q := p.Clone()
			q.Add(id, 5)
			if Light(q, 3) || !Light(q, 2) {
				t.Errorf("of %d bits, with %d, Light for 3 is %v, for 2 %v", l, id, Light(q, 3), Light(q, 2))
			}
		}
	})
}

func TestWrongOfTightLightAndBound(t *testing.T) {
	for _, kind := range kinds {
		for _, nodes := range [][]int{nil, {8, 1, 9, 1}, {1, 1}} {
			p, m := filled(t, kind, 3, nodes...)
			for _, k := range wrongs {
				if Tight(p, k) || Light(p, k) {
					t.Errorf("of %v, %d: Tight is %v, Light is %v", nodes, k, Tight(p, k), Light(p, k))
				}
			}
			hold(t, p, m)
		}
	}
	for _, k := range wrongs {
		if got := Bound(k); got != 0 {
			t.Errorf("Bound of %d is %d", k, got)
		}
	}
}

func TestBound(t *testing.T) {
	for _, r := range []struct{ k, want int }{
		{1, 3}, {2, 7}, {3, 11}, {10, 39}, {1600, 6399}, {api.MaxK - 1, 4194299}, {api.MaxK, 4194303},
	} {
		if got := Bound(r.k); got != r.want {
			t.Errorf("Bound of %d is %d, and should be %d", r.k, got, r.want)
		}
	}
	for k := 2; k <= api.MaxK; k++ {
		if Bound(k) != Bound(k-1)+4 {
			t.Fatalf("Bound of %d is %d", k, Bound(k))
		}
	}
}

// P12.4, P12.5

func TestLawsOfManyNodes(t *testing.T) {
	for _, r := range []struct{ kind, l, k int }{
		{api.Dense, 16, 1}, {api.Dense, 16, 30}, {api.Dense, 16, 1000}, {api.Dense, 16, 8192}, {api.Dense, 13, 1000}, {api.Hash, 16, 1000}, {api.Hash, 24, 700}, {api.Hash, 48, 100}, {api.Hash, 48, 900},
	} {
		p, m := filled(t, r.kind, r.l)
		for round := range 3 {
			leaves(t, p, m, 8*r.k, uint64(r.l*r.k+round))
			was := p.Clone()
			n, e := Run(p, r.k)
			if e != api.OK || !Light(p, r.k) {
				t.Fatalf("of %v Run is %d, and Light %v", r, e, Light(p, r.k))
			}
			laws(t, was, p, r.k, n)
		}
	}
}

// For 513 all pairs weigh more than the cap, for 512 just the cap.
func TestManyNodesThatAreTight(t *testing.T) {
	for _, kind := range kinds {
		p, m := filled(t, kind, 10)
		for x := range 1 << 10 {
			put(t, p, m, 1<<10+x, 1)
		}
		for _, k := range []int{1, 2, 4, 8, 64, 256, 511, 512, 513, 1023, 1024} {
			ask(t, p, m, k)
		}
		if !Tight(p, 513) || Tight(p, 512) {
			t.Errorf("1024 leaves are tight for 513: %v, for 512: %v", Tight(p, 513), Tight(p, 512))
		}
	}
}

func TestBothKindsTellTheSame(t *testing.T) {
	for l := 1; l <= 16; l++ {
		for _, k := range rights {
			a, _ := mixed(t, api.Dense, l, 80, uint64(900+l))
			b, e := a.Turn(api.Hash)
			if e != api.OK {
				t.Fatal(e)
			}
			if Tight(a, k) != Tight(b, k) || Light(a, k) != Light(b, k) {
				t.Fatalf("of %d bits, for %d, both kinds are not both tight, or light", l, k)
			}
			x, _ := Trace(a, k)
			y, _ := Trace(b, k)
			if !slices.Equal(x, y) {
				t.Fatalf("Trace is %v and %v", x, y)
			}
			n, _ := Run(a, k)
			if other, e := Run(b, k); n != other || e != api.OK || !pool.Same(a, b) {
				t.Fatalf("Run is %d and %d, and leaves %v and %v", n, other, a.Snap(), b.Snap())
			}
		}
	}
}
