package fold

import (
	"maps"
	"math"
	"math/big"
	"slices"
	"strconv"
	"testing"

	"dewpond/api"
	"dewpond/pool"
)

// kinds are the kinds of pools.
var kinds = []int{api.Dense, api.Hash}

// ids are numbers at which nodes end, and some ordinary and wrong ones.
var ids = []int{
	math.MinInt, math.MinInt + 1, -1 << 49, -15, -2, -1, 0, 1, 2, 3, 4, 5, 6, 7, 8, 9, 15, 16, 17, 31, 32,
	1<<15 - 1, 1 << 15, 1<<16 - 1, 1 << 16, 1<<17 - 1, 1 << 17, 1<<17 + 1, 1 << 32, 1<<32 + 1, 1<<47 - 1, 1 << 47, 1<<48 - 1, 1 << 48, 1<<48 + 1, 1<<49 - 1, 1 << 49, 1<<49 + 1,
	1<<62 - 1, 1 << 62, 1<<62 + 1, math.MaxInt - 1, math.MaxInt,
}

// numbers are numbers at which weights end, and some ordinary and wrong ones.
var numbers = []int{
	math.MinInt, math.MinInt + 1, -1 << 56, -3, -2, -1, 0, 1, 2, 3, 4, 5, 7, 100, 1<<20 - 1, 1 << 20, 1<<20 + 1, 1<<55 - 1, 1 << 55,
	api.Most - 2, api.Most - 1, api.Most, api.Most + 1, 1 << 57, 1<<62 - 1, 1 << 62, math.MaxInt - 1, math.MaxInt,
}

// model is what a pool should be: a map.
type model struct {
	l       int
	weights map[int]int
}

// fits tells whether there are pools of a kind for l bits.
func fits(kind, l int) bool {
	return l >= 1 && (kind == api.Dense && l <= 16 || kind == api.Hash && l <= 48)
}

// each calls f with each kind and each number of bits for which there are pools.
func each(f func(kind, l int)) {
	for _, kind := range kinds {
		for l := 1; fits(kind, l); l++ {
			f(kind, l)
		}
	}
}

// parent tells whether a node is a parent: it is neither a leaf nor beside the universe.
func (m model) parent(id int) bool { return id >= 1 && id < 1<<m.l }

func (m model) mass(id int) (pair, all int) {
	if !m.parent(id) {
		return 0, 0
	}
	for node, weight := range m.weights {
		if node != 1 && node/2 == id {
			pair += weight
		}
		if node == id || node != 1 && node/2 == id {
			all += weight
		}
	}
	return pair, all
}

func (m model) ready(id, most int) bool {
	pair, all := m.mass(id)
	return pair != 0 && !(all > most)
}

func (m model) do(id int) int {
	pair, all := m.mass(id)
	if pair == 0 {
		return 0
	}
	maps.DeleteFunc(m.weights, func(node, _ int) bool { return node != 1 && node/2 == id })
	m.weights[id] = all
	return pair
}

// before is the order of folding, of nodes as binary digits: the longer ones first, then those that come first.
func before(a, b int) int {
	x, y := strconv.FormatInt(int64(a), 2), strconv.FormatInt(int64(b), 2)
	if len(x) != len(y) {
		return len(y) - len(x)
	}
	if x < y {
		return -1
	}
	if x > y {
		return 1
	}
	return 0
}

func (m model) parents() []int {
	set := map[int]bool{}
	for node := range m.weights {
		if node > 1 {
			set[node/2] = true
		}
	}
	return slices.SortedFunc(maps.Keys(set), before)
}

// first asks all parents of the universe, which has few bits, level by level from below.
func (m model) first(most int) (int, bool) {
	for depth := m.l - 1; depth >= 0; depth-- {
		for id := 1 << depth; id < 2<<depth; id++ {
			if m.ready(id, most) {
				return id, true
			}
		}
	}
	return 0, false
}

func (m model) snap() []api.Node {
	var l []api.Node
	for _, id := range slices.Sorted(maps.Keys(m.weights)) {
		l = append(l, api.Node{Id: id, Count: m.weights[id]})
	}
	return l
}

func (m model) clone() model { return model{m.l, maps.Clone(m.weights)} }

// filled is a pool with the nodes and weights of numbers, one and the other in turn.
func filled(t *testing.T, kind, l int, numbers ...int) (*pool.Pool, model) {
	t.Helper()
	p, e := pool.New(kind, l)
	if e != api.OK {
		t.Fatalf("there is no pool of %d, %d: %d", kind, l, e)
	}
	m := model{l, map[int]int{}}
	for at := 0; at < len(numbers); at += 2 {
		put(t, p, m, numbers[at], numbers[at+1])
	}
	return p, m
}

// put gives both so much more.
func put(t *testing.T, p *pool.Pool, m model, id, weight int) {
	t.Helper()
	if e := p.Add(id, weight); e != api.OK {
		t.Fatalf("%d, %d is refused: %d", id, weight, e)
	}
	if weight > 0 {
		m.weights[id] += weight
	}
}

// small is the pool of 2 bits in whose set, by digits of the base 3, stands what each of its 7 nodes weighs.
func small(t *testing.T, kind, set int) (*pool.Pool, model) {
	t.Helper()
	p, m := filled(t, kind, 2)
	for id := 1; id <= 7; id++ {
		put(t, p, m, id, set%3)
		set /= 3
	}
	return p, m
}

// smalls is how many small pools there are.
const smalls = 3 * 3 * 3 * 3 * 3 * 3 * 3

// next is the number behind n in a row of numbers that looks mixed.
func next(n uint64) uint64 { return n*6364136223846793005 + 1442695040888963407 }

// mixed is a pool of about so many nodes, close to the root, among the last leaves, or of any depth.
func mixed(t *testing.T, kind, l, many int, seed uint64) (*pool.Pool, model) {
	t.Helper()
	p, m := filled(t, kind, l)
	for range many {
		seed = next(seed)
		id := int(seed >> 15)
		seed = next(seed)
		switch seed >> 40 % 3 {
		case 0:
			id = 1 + id%min(40, 2<<l-1)
		case 1:
			id = 2<<l - 1 - id%min(20, 1<<l)
		case 2:
			id = max(1, id%(2<<l)>>(seed>>50%uint64(l+1)))
		}
		put(t, p, m, id, 1+int(seed>>33)%9)
	}
	return p, m
}

// hold holds all that a pool has against what it should.
func hold(t *testing.T, p *pool.Pool, m model) {
	t.Helper()
	if got, want := p.Snap(), m.snap(); !slices.Equal(got, want) || p.L() != m.l {
		t.Fatalf("the pool is of %d bits and %v, and should be of %d and %v", p.L(), got, m.l, want)
	}
}

// ask holds what is told of a node against what it should be.
func ask(t *testing.T, p *pool.Pool, m model, id int, most ...int) {
	t.Helper()
	pair, all := Mass(p, id)
	if x, y := m.mass(id); pair != x || all != y {
		t.Fatalf("Mass of %v, %d is %d, %d, and should be %d, %d", m, id, pair, all, x, y)
	}
	for _, most := range append([]int{all - 1, all, all + 1, pair - 1, pair}, most...) {
		if got, want := Ready(p, id, most), m.ready(id, most); got != want {
			t.Fatalf("Ready of %v, %d, %d is %v", m, id, most, got)
		}
	}
}

// do folds in both, and holds what comes of it against what should.
func do(t *testing.T, p *pool.Pool, m model, id int) {
	t.Helper()
	was := m.clone()
	if got, want := Do(p, id), m.do(id); got != want {
		t.Fatalf("Do of %v, %d is %d, and should be %d", was, id, got, want)
	}
	hold(t, p, m)
}

// line holds both the parents and, of a universe of few bits, the first ones against what they should be.
func line(t *testing.T, p *pool.Pool, m model, most ...int) {
	t.Helper()
	if got, want := Parents(p), m.parents(); !slices.Equal(got, want) {
		t.Fatalf("Parents of %v are %v, and should be %v", m, got, want)
	}
	for _, most := range most {
		id, ok := First(p, most)
		if x, y := m.first(most); id != x || ok != y {
			t.Fatalf("First of %v, %d is %d, %v, and should be %d, %v", m, most, id, ok, x, y)
		}
	}
}

// The chapter's example.

func TestExample(t *testing.T) {
	for _, kind := range kinds {
		p, m := filled(t, kind, 2, 4, 1, 5, 2, 2, 1)
		if pair, all := Mass(p, 2); pair != 3 || all != 4 {
			t.Errorf("Mass of 2 is %d, %d", pair, all)
		}
		if !Ready(p, 2, 4) || Ready(p, 2, 3) {
			t.Errorf("2 is ready for 4: %v, for 3: %v", Ready(p, 2, 4), Ready(p, 2, 3))
		}
		hold(t, p, m)
	}
}

// P11.1

func TestCap(t *testing.T) {
	for _, r := range []struct{ n, k, want int }{
		{0, 1, 0}, {0, 5, 0}, {1, 1, 1}, {4, 1, 4}, {4, 2, 2}, {4, 3, 1}, {4, 4, 1}, {4, 5, 0}, {10, 3, 3}, {9, 3, 3}, {8, 3, 2}, {9, 1, 9},
		{-1, 1, 0}, {-1, 3, 0}, {-10, 3, 0}, {-10, -3, 0}, {10, -3, 0}, {10, 0, 0}, {0, 0, 0}, {10, -1, 0}, {-1, -1, 0}, {-5, 0, 0},
		{api.Most, 1, api.Most}, {api.Most, api.MaxK, 1<<36 - 1}, {api.Most, api.MaxK + 1, 1<<36 - 1<<16}, {api.Most + 1, api.MaxK, 1 << 36}, {api.Most, api.Most, 1}, {api.Most - 1, api.Most, 0},
		{math.MaxInt, 1, math.MaxInt}, {math.MaxInt, 2, 1<<62 - 1}, {math.MaxInt, math.MaxInt, 1}, {math.MaxInt - 1, math.MaxInt, 0}, {math.MinInt, -1, 0}, {math.MinInt, 1, 0}, {math.MinInt, math.MinInt, 0}, {math.MaxInt, math.MinInt, 0},
	} {
		if got := Cap(r.n, r.k); got != r.want {
			t.Errorf("Cap of %d, %d is %d, and should be %d", r.n, r.k, got, r.want)
		}
	}
}

// goes tells whether k goes into n just so often, by numbers of any size.
func goes(n, k, often int) bool {
	times := func(by *big.Int) *big.Int { return by.Mul(by, big.NewInt(int64(k))) }
	one := new(big.Int).Add(big.NewInt(int64(often)), big.NewInt(1))
	return times(big.NewInt(int64(often))).Cmp(big.NewInt(int64(n))) <= 0 && times(one).Cmp(big.NewInt(int64(n))) > 0
}

func TestCapAtAllEdges(t *testing.T) {
	for _, n := range numbers {
		for _, k := range numbers {
			got := Cap(n, k)
			if n < 0 || k < 1 {
				if got != 0 {
					t.Errorf("Cap of %d, %d is %d", n, k, got)
				}
				continue
			}
			if got < 0 || !goes(n, k, got) {
				t.Errorf("Cap of %d, %d is %d", n, k, got)
			}
		}
	}
	for n := range 60 {
		for k := 1; k < 70; k++ {
			if got := Cap(n, k); got < 0 || !goes(n, k, got) {
				t.Errorf("Cap of %d, %d is %d", n, k, got)
			}
		}
	}
}

// P11.2

func TestMassReadyAndDoOfAllSmallPools(t *testing.T) {
	mosts := []int{math.MinInt, -1, 0, 1, 2, 3, 4, 5, 6, 7, math.MaxInt}
	for _, kind := range kinds {
		for set := range smalls {
			p, m := small(t, kind, set)
			for id := -4; id <= 16; id++ {
				ask(t, p, m, id, mosts...)
				do(t, p.Clone(), m.clone(), id)
			}
			hold(t, p, m)
		}
	}
}

func TestFoldsOneAfterAnother(t *testing.T) {
	for _, kind := range kinds {
		p, m := filled(t, kind, 3, 8, 1, 9, 2, 11, 4, 4, 8, 2, 16, 3, 32, 15, 64, 1, 128)
		for _, r := range []struct{ id, want int }{
			{8, 0}, {15, 0}, {16, 0}, {0, 0}, {-1, 0}, {6, 0}, {4, 3}, {4, 0}, {5, 4}, {2, 15}, {2, 0}, {7, 64}, {3, 64}, {1, 16 + 15 + 64 + 32}, {1, 0}, {3, 0}, {2, 0},
		} {
			was := m.clone()
			if got := Do(p, r.id); got != r.want {
				t.Errorf("Do of %v, %d is %d, and should be %d", was, r.id, got, r.want)
			}
			m.do(r.id)
			hold(t, p, m)
		}
		if got := p.Snap(); len(got) != 1 || got[0] != (api.Node{Id: 1, Count: 255}) {
			t.Errorf("all is %v", got)
		}
	}
}

func TestOfAllUniverses(t *testing.T) {
	each(func(kind, l int) {
		last := 1<<l - 1
		p, m := filled(t, kind, l, last, 3, 2*last, 5, 2*last+1, 7)
		for _, id := range append([]int{last - 1, last, last + 1, last / 2, 2 * last, 2*last + 1, 2*last + 2, 1 << (l - 1)}, ids...) {
			ask(t, p, m, id, numbers...)
			do(t, p.Clone(), m.clone(), id)
		}
		line(t, p, m)
		// All goes up to the root, step by step.
		weight := 12
		for id := last; id >= 1; id /= 2 {
			was, all := Mass(p, id)
			if id == last && was != weight || id != last && was != 15 || all != 15 {
				t.Fatalf("Mass of %v, %d is %d, %d", m, id, was, all)
			}
			do(t, p, m, id)
		}
		if p.Get(1) != 15 || p.Len() != 1 {
			t.Fatalf("of %d bits, all is %v", l, p.Snap())
		}
	})
}

func TestOfLeavesAndOfWhatIsNone(t *testing.T) {
	each(func(kind, l int) {
		p, m := filled(t, kind, l, 1<<l, 3, 1<<l+1, 5, 2<<l-1, 7, 1, 1)
		for _, id := range append([]int{1 << l, 1<<l + 1, 2<<l - 1, 2 << l, 4 << l}, ids...) {
			if m.parent(id) {
				continue
			}
			if pair, all := Mass(p, id); pair != 0 || all != 0 {
				t.Errorf("Mass of %v, %d is %d, %d", m, id, pair, all)
			}
			for _, most := range numbers {
				if Ready(p, id, most) {
					t.Errorf("of %v, %d is ready for %d", m, id, most)
				}
			}
			if got := Do(p, id); got != 0 {
				t.Errorf("Do of %v, %d is %d", m, id, got)
			}
			hold(t, p, m)
		}
	})
}

func TestOfAllThatThereMayBe(t *testing.T) {
	for _, kind := range kinds {
		for _, r := range [][]int{
			{4, api.Most}, {5, api.Most}, {4, 1, 5, api.Most - 1}, {4, 1 << 55, 5, 1<<55 - 1}, {2, 1, 4, 1, 5, api.Most - 2}, {2, api.Most - 1, 4, 1}, {2, api.Most - 1, 5, 1}, {2, api.Most - 2, 4, 1, 5, 1}, {2, api.Most}, {2, 5, 4, 5, 5, 5, 1, api.Most - 15},
		} {
			p, m := filled(t, kind, 2, r...)
			for id := range 5 {
				ask(t, p, m, id, numbers...)
			}
			do(t, p, m, 2)
			do(t, p, m, 1)
			if p.Total() != api.Most || p.Len() != 1 || p.Get(1) != api.Most {
				t.Errorf("of %v, all is %v", r, p.Snap())
			}
			if e := p.Add(1, 1); e != api.ErrFull {
				t.Errorf("one more is %d", e)
			}
		}
	}
}

func TestReady(t *testing.T) {
	for _, kind := range kinds {
		p, _ := filled(t, kind, 2, 4, 1, 5, 2, 2, 1, 1, 9, 3, 2)
		for _, r := range []struct {
			id, most int
			want     bool
		}{
			{2, 4, true}, {2, 5, true}, {2, 3, false}, {2, 0, false}, {2, -1, false}, {2, math.MaxInt, true}, {2, math.MinInt, false},
			{1, 12, true}, {1, 11, false}, {1, 13, true}, {3, 2, false}, {3, 1, false}, {3, 100, false}, {4, 100, false}, {5, 2, false}, {0, 100, false}, {-2, 100, false}, {8, 100, false},
		} {
			if got := Ready(p, r.id, r.most); got != r.want {
				t.Errorf("Ready of %d, %d is %v", r.id, r.most, got)
			}
		}
	}
}

func TestManyFolds(t *testing.T) {
	each(func(kind, l int) {
		p, m := mixed(t, kind, l, 60, uint64(l))
		for _, id := range Parents(p) {
			ask(t, p, m, id)
			ask(t, p, m, id/2)
			ask(t, p, m, id^1)
		}
		for _, id := range Parents(p) {
			do(t, p, m, id)
			ask(t, p, m, id)
		}
		line(t, p, m)
	})
}

// P11.3

func TestParents(t *testing.T) {
	for _, kind := range kinds {
		for _, r := range []struct {
			l           int
			nodes, want []int
		}{
			{3, nil, nil}, {3, []int{1}, nil}, {3, []int{2}, []int{1}}, {3, []int{3}, []int{1}}, {3, []int{2, 3}, []int{1}}, {3, []int{1, 2, 3}, []int{1}}, {3, []int{4}, []int{2}}, {3, []int{15}, []int{7}}, {3, []int{8, 9}, []int{4}},
			{3, []int{2, 8}, []int{4, 1}}, {3, []int{3, 4, 15}, []int{7, 2, 1}}, {3, []int{4, 5, 6, 7}, []int{2, 3}}, {3, []int{7, 4}, []int{2, 3}}, {3, []int{14, 12, 10, 8}, []int{4, 5, 6, 7}}, {3, []int{15, 14, 7, 6, 3, 2, 1}, []int{7, 3, 1}},
			{3, []int{1, 2, 3, 4, 5, 6, 7, 8, 9, 10, 11, 12, 13, 14, 15}, []int{4, 5, 6, 7, 2, 3, 1}}, {1, []int{1, 2, 3}, []int{1}}, {1, []int{3}, []int{1}}, {16, []int{1<<17 - 1, 5, 1 << 16, 1 << 15}, []int{1 << 15, 1<<16 - 1, 1 << 14, 2}},
		} {
			p, m := filled(t, kind, r.l)
			for _, id := range r.nodes {
				put(t, p, m, id, 1)
			}
			if got := Parents(p); !slices.Equal(got, r.want) {
				t.Errorf("Parents of %v are %v, and should be %v", r.nodes, got, r.want)
			}
			hold(t, p, m)
		}
	}
	p, _ := filled(t, api.Hash, 48, 1<<49-1, 1, 1<<48, 1, 1<<48+1, 1, 1<<47, 1, 2, 1, 1, 1)
	if got := Parents(p); !slices.Equal(got, []int{1 << 47, 1<<48 - 1, 1 << 46, 1}) {
		t.Errorf("Parents of 48 bits are %v", got)
	}
}

func TestParentsOfAllSetsOfNodes(t *testing.T) {
	for _, kind := range kinds {
		for set := range 1 << 15 {
			p, m := filled(t, kind, 3)
			for id := 15; id >= 1; id-- {
				put(t, p, m, id, set>>(id-1)&1)
			}
			line(t, p, m)
		}
	}
}

func TestFirstOfAllSmallPools(t *testing.T) {
	mosts := []int{math.MinInt, -1, 0, 1, 2, 3, 4, 5, 6, 7, math.MaxInt}
	for _, kind := range kinds {
		for set := range smalls {
			p, m := small(t, kind, set)
			line(t, p, m, mosts...)
			hold(t, p, m)
		}
	}
}

func TestFirst(t *testing.T) {
	for _, kind := range kinds {
		p, m := filled(t, kind, 3, 8, 5, 9, 4, 12, 2, 13, 3, 14, 1, 15, 1, 7, 2, 3, 1, 2, 1, 1, 9)
		for _, r := range []struct {
			most, id int
			ok       bool
		}{
			{math.MinInt, 0, false}, {-1, 0, false}, {0, 0, false}, {1, 0, false}, {2, 0, false}, {3, 3, true}, {4, 7, true}, {5, 6, true}, {6, 6, true}, {8, 6, true}, {9, 4, true}, {10, 4, true}, {math.MaxInt, 4, true},
		} {
			if id, ok := First(p, r.most); id != r.id || ok != r.ok {
				t.Errorf("First for %d is %d, %v, and should be %d, %v", r.most, id, ok, r.id, r.ok)
			}
		}
		hold(t, p, m)
	}
	for _, kind := range kinds {
		p, _ := filled(t, kind, 3, 1, 5, 2, 1, 3, 1)
		for _, r := range []struct {
			most, id int
			ok       bool
		}{{6, 0, false}, {7, 1, true}, {8, 1, true}} {
			if id, ok := First(p, r.most); id != r.id || ok != r.ok {
				t.Errorf("First for %d is %d, %v", r.most, id, ok)
			}
		}
		root, _ := filled(t, kind, 3, 1, 5)
		if id, ok := First(root, math.MaxInt); id != 0 || ok {
			t.Errorf("First of the root alone is %d, %v", id, ok)
		}
	}
}

func TestParentsAndFirstOfManyNodes(t *testing.T) {
	each(func(kind, l int) {
		p, m := mixed(t, kind, l, 150, uint64(100+l))
		var mosts []int
		if l <= 8 {
			mosts = []int{0, 1, 5, 9, 10, 20, 40, 100, 1000}
		}
		line(t, p, m, mosts...)
		// Of many bits not all parents of the universe are asked, but all that have something below them.
		for _, most := range []int{-1, 0, 1, 5, 9, 10, 20, 40, 100, 1000} {
			want := 0
			for _, id := range slices.Backward(m.parents()) {
				if m.ready(id, most) {
					want = id
				}
			}
			if id, ok := First(p, most); id != want || ok != (want != 0) {
				t.Fatalf("First of %v, %d is %d, %v, and should be %d", m, most, id, ok, want)
			}
		}
		hold(t, p, m)
	})
}

func TestParentsAreNewMemory(t *testing.T) {
	for _, kind := range kinds {
		p, m := filled(t, kind, 3, 8, 1, 9, 1, 12, 1, 15, 1, 5, 1, 3, 1)
		before := Parents(p)
		answer := Parents(p)
		for _, id := range answer[len(answer):cap(answer)] {
			if id != 0 {
				t.Errorf("behind %v stands %d", answer, id)
			}
		}
		for at := range answer {
			answer[at] = 99
		}
		line(t, p, m)
		do(t, p, m, 4)
		if !slices.Equal(before, []int{4, 6, 7, 2, 1}) {
			t.Errorf("what was told has become %v", before)
		}
	}
}

// P11.4

// rows is an agenda that should be: a list without any order.
type rows struct{ l []int }

func (r *rows) put(id int) bool {
	if id < 1 || slices.Contains(r.l, id) {
		return false
	}
	r.l = append(r.l, id)
	return true
}

func (r *rows) pop() (int, bool) {
	if len(r.l) == 0 {
		return 0, false
	}
	id := slices.MinFunc(r.l, before)
	r.l = slices.DeleteFunc(r.l, func(n int) bool { return n == id })
	return id, true
}

// step puts into both, or pops from both, and holds the answers against each other.
func step(t *testing.T, a *Agenda, r *rows, pop bool, id int) {
	t.Helper()
	was := slices.Clone(r.l)
	if pop {
		got, ok := a.Pop()
		if want, wok := r.pop(); got != want || ok != wok {
			t.Fatalf("Pop of %v is %d, %v, and should be %d, %v", was, got, ok, want, wok)
		}
	} else if got, want := a.Put(id), r.put(id); got != want {
		t.Fatalf("Put of %d to %v is %v", id, was, got)
	}
	if a.Len() != len(r.l) {
		t.Fatalf("Len of %v is %d", r.l, a.Len())
	}
}

// drained is all that an agenda has, as it is taken.
func drained(t *testing.T, a *Agenda) []int {
	t.Helper()
	var l []int
	for left := a.Len(); left > 0; left-- {
		if a.Len() != left {
			t.Fatalf("Len is %d, and should be %d", a.Len(), left)
		}
		id, ok := a.Pop()
		if !ok {
			t.Fatalf("behind %v, nothing is there", l)
		}
		l = append(l, id)
	}
	for range 3 {
		if id, ok := a.Pop(); id != 0 || ok || a.Len() != 0 {
			t.Fatalf("behind all, Pop is %d, %v, and Len %d", id, ok, a.Len())
		}
	}
	return l
}

func TestAgendaBeginsWithWhatItIsHanded(t *testing.T) {
	for _, r := range []struct{ ids, want []int }{
		{nil, nil}, {[]int{}, nil}, {[]int{1}, []int{1}}, {[]int{0}, nil}, {[]int{-1}, nil}, {[]int{math.MinInt, -5, 0}, nil}, {[]int{7, 7, 7}, []int{7}}, {[]int{1, 2, 3}, []int{2, 3, 1}}, {[]int{3, 2, 1}, []int{2, 3, 1}},
		{[]int{1, 6, 2, 6, 5, -3}, []int{5, 6, 2, 1}}, {[]int{15, 8, 7, 4, 3, 2, 1}, []int{8, 15, 4, 7, 2, 3, 1}}, {[]int{8, 0, 7, 0, 8, -7, 7, 16}, []int{16, 8, 7}},
		{[]int{math.MaxInt, 1 << 62, 1<<62 - 1, 1 << 61, 1, math.MinInt, math.MaxInt}, []int{1 << 62, math.MaxInt, 1 << 61, 1<<62 - 1, 1}}, {[]int{1<<49 - 1, 1 << 48, 1<<49 + 1, 1<<48 - 1}, []int{1<<49 + 1, 1 << 48, 1<<49 - 1, 1<<48 - 1}},
	} {
		a := New(r.ids...)
		if a == nil || a.Len() != len(r.want) {
			t.Fatalf("New of %v is %v", r.ids, a)
		}
		if got := drained(t, a); !slices.Equal(got, r.want) {
			t.Errorf("New of %v has %v, and should have %v", r.ids, got, r.want)
		}
	}
	if got := drained(t, New()); got != nil {
		t.Errorf("New of nothing has %v", got)
	}
}

func TestAgendaOfAllOrders(t *testing.T) {
	want := []int{8, 15, 4, 5, 2, 1}
	var lay func(first []int)
	lay = func(first []int) {
		if len(first) < len(want) {
			for _, id := range want {
				if !slices.Contains(first, id) {
					lay(append(slices.Clone(first), id))
				}
			}
			return
		}
		if got := drained(t, New(first...)); !slices.Equal(got, want) {
			t.Fatalf("New of %v has %v", first, got)
		}
		for some := range first {
			a := New(first[:some]...)
			for _, id := range first {
				if got := a.Put(id); got != !slices.Contains(first[:some], id) {
					t.Fatalf("with %v, Put of %d is %v", first[:some], id, got)
				}
			}
			if got := drained(t, a); !slices.Equal(got, want) {
				t.Fatalf("%v, and all of them, are %v", first[:some], got)
			}
		}
	}
	lay(nil)
}

func TestPut(t *testing.T) {
	a, r := New(6), &rows{[]int{6}}
	for _, s := range []struct {
		id   int
		want bool
	}{
		{6, false}, {5, true}, {5, false}, {0, false}, {-1, false}, {-6, false}, {math.MinInt, false}, {1, true}, {1, false}, {math.MaxInt, true}, {math.MaxInt, false}, {7, true}, {4, true}, {6, false}, {2, true}, {1 << 62, true}, {1 << 62, false},
	} {
		r.put(s.id)
		if got := a.Put(s.id); got != s.want || a.Len() != len(r.l) {
			t.Fatalf("Put of %d is %v, and Len %d", s.id, got, a.Len())
		}
	}
	if got := drained(t, a); !slices.Equal(got, []int{1 << 62, math.MaxInt, 4, 5, 6, 7, 2, 1}) {
		t.Errorf("there is %v", got)
	}
}

func TestWhatWasTakenMayBePutAgain(t *testing.T) {
	a := New(2, 5, 3)
	for range 3 {
		if id, ok := a.Pop(); id != 5 || !ok || a.Len() != 2 {
			t.Fatalf("Pop is %d, %v", id, ok)
		}
		if !a.Put(5) || a.Put(5) || a.Put(2) || a.Len() != 3 {
			t.Fatalf("5 is not there again, or twice: %d", a.Len())
		}
	}
	if got := drained(t, a); !slices.Equal(got, []int{5, 2, 3}) {
		t.Fatalf("there is %v", got)
	}
	for _, id := range []int{3, 5, 2} {
		if !a.Put(id) {
			t.Fatalf("%d can't be put again", id)
		}
	}
	if got := drained(t, a); !slices.Equal(got, []int{5, 2, 3}) {
		t.Fatalf("there is %v", got)
	}
}

func TestManyStepsOfAnAgenda(t *testing.T) {
	for seed := range uint64(40) {
		a, r := New(ids...), &rows{}
		for _, id := range ids {
			r.put(id)
		}
		mixed := seed
		for range 400 {
			mixed = next(mixed)
			id := int(mixed>>33)%70 - 3
			switch mixed >> 20 % 8 {
			case 0:
				id = ids[int(mixed>>33)%len(ids)]
			case 1:
				id = int(mixed) >> (mixed >> 50 % 60)
			}
			// Some seeds fill it, some empty it.
			step(t, a, r, mixed>>28%8 < 2+seed%5, id)
		}
		for range len(r.l) + 2 {
			step(t, a, r, true, 0)
		}
	}
}

func TestAgendaOfManyNodes(t *testing.T) {
	var l []int
	seed := uint64(3)
	for range 20000 {
		seed = next(seed)
		l = append(l, int(seed>>1)>>(seed>>50%63))
	}
	want := slices.Clone(l)
	want = slices.DeleteFunc(want, func(id int) bool { return id < 1 })
	slices.SortFunc(want, before)
	want = slices.Compact(want)
	if got := drained(t, New(l...)); !slices.Equal(got, want) {
		t.Error("many nodes are not in the order of folding")
	}
}

func TestAgendaKeepsNoList(t *testing.T) {
	memory := []int{6, 2, 0, 5, 2, 9, 8}
	a := New(memory[:5]...)
	if !slices.Equal(memory, []int{6, 2, 0, 5, 2, 9, 8}) {
		t.Fatalf("New wrote %v", memory)
	}
	a.Put(7)
	a.Put(4)
	if !slices.Equal(memory, []int{6, 2, 0, 5, 2, 9, 8}) {
		t.Fatalf("Put wrote %v", memory)
	}
	for at := range memory {
		memory[at] = 100 + at
	}
	if got := drained(t, a); !slices.Equal(got, []int{4, 5, 6, 7, 2}) {
		t.Errorf("there is %v", got)
	}
	if !slices.Equal(memory, []int{100, 101, 102, 103, 104, 105, 106}) {
		t.Errorf("Pop wrote %v", memory)
	}
}

func TestAgendasAreOnTheirOwn(t *testing.T) {
	a, b := New(4, 5), New(4, 5)
	a.Pop()
	a.Put(9)
	if b.Len() != 2 || b.Put(4) || !b.Put(9) {
		t.Error("what is done to an agenda is done to another one")
	}
	if got := drained(t, a); !slices.Equal(got, []int{9, 5}) {
		t.Errorf("there is %v", got)
	}
	if got := drained(t, b); !slices.Equal(got, []int{9, 4, 5}) {
		t.Errorf("there is %v", got)
	}
}

// P11.5

// below is what a node and all below it weigh together.
func below(p *pool.Pool, id int) int {
	sum := 0
	for node, weight := range p.Each() {
		for node > id {
			node /= 2
		}
		if node == id {
			sum += weight
		}
	}
	return sum
}

func TestWhatIsFoldedWeighsAsMuch(t *testing.T) {
	each(func(kind, l int) {
		p, _ := mixed(t, kind, l, 40, uint64(500+l))
		for _, most := range []int{1, 5, 12, 30, 100, math.MaxInt} {
			for folds := 0; ; folds++ {
				id, ok := First(p, most)
				if !ok {
					break
				}
				if folds > 40*l {
					t.Fatalf("folding does not end: %v", p.Snap())
				}
				total, many, there := p.Total(), p.Len(), below(p, id)
				pair, all := Mass(p, id)
				if got := Do(p, id); got != pair || p.Get(id) != all {
					t.Fatalf("Do of %d is %d, and leaves %d", id, got, p.Get(id))
				}
				if p.Total() != total || p.Len() > many || below(p, id) != there {
					t.Fatalf("%d weighed %d, with %d nodes, and weighs %d, with %d", id, total, many, p.Total(), p.Len())
				}
				for _, most := range numbers {
					if Ready(p, id, most) {
						t.Fatalf("%d was folded, and is ready for %d", id, most)
					}
				}
			}
		}
		if p.Len() != 1 || p.Get(1) != p.Total() {
			t.Fatalf("folded as far as it may be, it is %v", p.Snap())
		}
	})
}

func TestBothKindsTellTheSame(t *testing.T) {
	for l := 1; l <= 16; l++ {
		a, _ := mixed(t, api.Dense, l, 80, uint64(900+l))
		b, e := a.Turn(api.Hash)
		if e != api.OK {
			t.Fatal(e)
		}
		for {
			if x, y := Parents(a), Parents(b); !slices.Equal(x, y) {
				t.Fatalf("Parents are %v and %v", x, y)
			}
			id, ok := First(a, 60)
			if x, y := First(b, 60); x != id || y != ok {
				t.Fatalf("First is %d and %d", id, x)
			}
			if !ok {
				break
			}
			if x, y := Do(a, id), Do(b, id); x != y || !pool.Same(a, b) {
				t.Fatalf("Do of %d is %d and %d", id, x, y)
			}
		}
	}
}

// Of nil.

func TestNilPool(t *testing.T) {
	var p *pool.Pool
	if got := Parents(p); len(got) != 0 {
		t.Errorf("Parents of nil are %v", got)
	}
	for _, most := range numbers {
		if id, ok := First(p, most); id != 0 || ok {
			t.Errorf("First of nil, %d is %d, %v", most, id, ok)
		}
		for _, id := range ids {
			if Ready(p, id, most) {
				t.Errorf("of nil, %d is ready for %d", id, most)
			}
		}
	}
	for _, id := range ids {
		if pair, all := Mass(p, id); pair != 0 || all != 0 {
			t.Errorf("Mass of nil, %d is %d, %d", id, pair, all)
		}
		if got := Do(p, id); got != 0 {
			t.Errorf("Do of nil, %d is %d", id, got)
		}
	}
}

func TestNilAgenda(t *testing.T) {
	var a *Agenda
	for _, id := range ids {
		if a.Put(id) || a.Len() != 0 {
			t.Errorf("Put of %d to nil is true, or Len %d", id, a.Len())
		}
	}
	if id, ok := a.Pop(); id != 0 || ok {
		t.Errorf("Pop of nil is %d, %v", id, ok)
	}
}
