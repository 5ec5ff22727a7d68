package pool

import (
	"maps"
	"math"
	"math/big"
	"slices"
	"testing"

	"dewpond/api"
)

// kinds are the kinds of pools.
var kinds = []int{api.Dense, api.Hash}

// noKinds are numbers beside the kinds.
var noKinds = []int{math.MinInt, -2, -1, 0, 3, 4, 5, 1 << 32, 1<<32 + 1, 1<<32 + 2, math.MaxInt}

// edges are bits at which universes end, and some that no universe has.
var edges = []int{math.MinInt, -64, -48, -16, -1, 0, 1, 2, 3, 15, 16, 17, 18, 31, 32, 47, 48, 49, 50, 62, 63, 64, 65, 1 << 32, 1<<32 + 1, math.MaxInt}

// ids are numbers at which nodes end, and some ordinary and wrong ones.
var ids = []int{
	math.MinInt, math.MinInt + 1, -1 << 49, -15, -2, -1, 0, 1, 2, 3, 4, 5, 7, 8, 9, 15, 16, 17, 31, 32,
	1<<16 - 1, 1 << 16, 1<<17 - 1, 1 << 17, 1<<17 + 1, 1 << 32, 1<<32 + 1, 1<<48 - 1, 1 << 48, 1<<49 - 1, 1 << 49, 1<<49 + 1, 1 << 62, math.MaxInt - 1, math.MaxInt,
}

// counts are numbers at which weights end, and some ordinary and wrong ones.
var counts = []int{
	math.MinInt, -1 << 56, -2, -1, 0, 1, 2, 3, 100, 1<<55 - 1, 1 << 55,
	api.Most - 2, api.Most - 1, api.Most, api.Most + 1, 1 << 57, 1<<62 - 1, 1 << 62, math.MaxInt - api.Most, math.MaxInt - 1, math.MaxInt,
}

// model is what a pool should be: a map, without any bound of its own.
type model struct {
	kind, l int
	weights map[int]int
}

// fits tells whether there are pools of a kind for l bits.
func fits(kind, l int) bool {
	return kind == api.Dense && l >= 1 && l <= 16 || kind == api.Hash && l >= 1 && l <= 48
}

// each calls f with each kind and each number of bits for which there are pools.
func each(f func(kind, l int)) {
	for _, kind := range kinds {
		for l := 1; fits(kind, l); l++ {
			f(kind, l)
		}
	}
}

func (m model) total() *big.Int {
	sum := new(big.Int)
	for _, weight := range m.weights {
		sum.Add(sum, big.NewInt(int64(weight)))
	}
	return sum
}

func (m model) add(id, count int) api.Errno {
	if id < 1 || id >= 2<<m.l || count < 0 {
		return api.ErrArg
	}
	if sum := m.total(); sum.Add(sum, big.NewInt(int64(count))).Cmp(big.NewInt(api.Most)) > 0 {
		return api.ErrFull
	}
	if count > 0 {
		m.weights[id] += count
	}
	return api.OK
}

func (m model) take(id int) int {
	weight := m.weights[id]
	delete(m.weights, id)
	return weight
}

func (m model) snap() []api.Node {
	var l []api.Node
	for id, weight := range m.weights {
		l = append(l, api.Node{Id: id, Count: weight})
	}
	slices.SortFunc(l, func(a, b api.Node) int { return a.Id - b.Id })
	return l
}

func (m model) clone() model { return model{m.kind, m.l, maps.Clone(m.weights)} }

func made(t *testing.T, kind, l int) (*Pool, model) {
	t.Helper()
	p, e := New(kind, l)
	if p == nil || e != api.OK {
		t.Fatalf("New of %d, %d is %v, %d", kind, l, p, e)
	}
	return p, model{kind, l, map[int]int{}}
}

// nodes is a list of nodes of numbers, an Id and a Count in turn.
func nodes(l ...int) []api.Node {
	var r []api.Node
	for at := 0; at < len(l); at += 2 {
		r = append(r, api.Node{Id: l[at], Count: l[at+1]})
	}
	return r
}

// loaded is a pool that was made of a roll.
func loaded(t *testing.T, kind, l int, r []api.Node) *Pool {
	t.Helper()
	p, e := Load(kind, l, r)
	if p == nil || e != api.OK {
		t.Fatalf("Load of %d, %d, %v is %v, %d", kind, l, r, p, e)
	}
	return p
}

// gone is all that going over a pool tells.
func gone(p *Pool) []api.Node {
	var l []api.Node
	for id, count := range p.Each() {
		l = append(l, api.Node{Id: id, Count: count})
	}
	return l
}

// hold holds all that a pool tells against what it should.
func hold(t *testing.T, p *Pool, m model) {
	t.Helper()
	if p.Kind() != m.kind || p.L() != m.l || p.Len() != len(m.weights) || big.NewInt(int64(p.Total())).Cmp(m.total()) != 0 {
		t.Fatalf("%v tells %d, %d, %d, %d, and should be %v", p.Snap(), p.Kind(), p.L(), p.Len(), p.Total(), m)
	}
	want := m.snap()
	if got := p.Snap(); !slices.Equal(got, want) {
		t.Fatalf("Snap of %v is %v", m, got)
	}
	if got := gone(p); !slices.Equal(got, want) {
		t.Fatalf("Each of %v goes over %v", m, got)
	}
	for id := range m.weights {
		if p.Get(id) != m.weights[id] {
			t.Fatalf("Get of %v, %d is %d", m, id, p.Get(id))
		}
	}
	for _, id := range ids {
		if p.Get(id) != m.weights[id] {
			t.Fatalf("Get of %v, %d is %d", m, id, p.Get(id))
		}
	}
}

// add adds to both, and holds the answers against each other.
func add(t *testing.T, p *Pool, m model, id, count int) {
	t.Helper()
	if got, want := p.Add(id, count), m.add(id, count); got != want {
		t.Fatalf("Add of %d, %d to %v is %d, and should be %d", id, count, m, got, want)
	}
}

// take takes from both, and holds the answers against each other.
func take(t *testing.T, p *Pool, m model, id int) {
	t.Helper()
	if got, want := p.Take(id), m.take(id); got != want {
		t.Fatalf("Take of %d from %v is %d, and should be %d", id, m, got, want)
	}
}

// next is the number behind n in a row of numbers that looks mixed.
func next(n uint64) uint64 { return n*6364136223846793005 + 1442695040888963407 }

// P9.1

func TestNew(t *testing.T) {
	for _, kind := range append(slices.Clone(kinds), noKinds...) {
		for _, l := range edges {
			p, e := New(kind, l)
			if !fits(kind, l) {
				if p != nil || e != api.ErrArg {
					t.Errorf("New of %d, %d is %v, %d", kind, l, p, e)
				}
				continue
			}
			if p == nil || e != api.OK {
				t.Fatalf("New of %d, %d is %v, %d", kind, l, p, e)
			}
			hold(t, p, model{kind, l, map[int]int{}})
		}
	}
	each(func(kind, l int) {
		p, m := made(t, kind, l)
		hold(t, p, m)
	})
}

func TestNewPoolsAreOnTheirOwn(t *testing.T) {
	for _, kind := range kinds {
		a, _ := made(t, kind, 3)
		b, m := made(t, kind, 3)
		a.Add(9, 2)
		hold(t, b, m)
	}
}

func TestLoad(t *testing.T) {
	for _, r := range []struct {
		l    int
		roll []api.Node
		want api.Errno
	}{
		{3, nil, api.OK}, {3, nodes(), api.OK}, {1, nodes(1, 1, 2, 2, 3, 3), api.OK}, {3, nodes(1, api.Most), api.OK}, {3, nodes(15, api.Most), api.OK}, {3, nodes(2, 4, 15, 1), api.OK},
		{3, nodes(1, 1, 15, api.Most-1), api.OK}, {16, nodes(1, 5, 1<<16, 6, 1<<17-1, 7), api.OK}, {3, nodes(4, 1, 5, 1, 8, 1, 9, 1, 10, 1, 11, 1, 12, 1), api.OK},
		{3, nodes(16, 1), api.ErrForm}, {3, nodes(2, 4, 16, 1), api.ErrForm}, {1, nodes(4, 1), api.ErrForm}, {16, nodes(1<<17, 1), api.ErrForm}, {3, nodes(0, 1), api.ErrForm}, {3, nodes(-1, 1), api.ErrForm}, {3, nodes(math.MinInt, 1, 2, 1), api.ErrForm}, {3, nodes(0, 0), api.ErrForm},
		{3, nodes(2, 0), api.ErrForm}, {3, nodes(2, 1, 3, 0), api.ErrForm}, {3, nodes(2, -1), api.ErrForm}, {3, nodes(2, 5, 3, -1), api.ErrForm}, {3, nodes(2, math.MinInt), api.ErrForm},
		{3, nodes(3, 1, 2, 1), api.ErrForm}, {3, nodes(2, 1, 2, 1), api.ErrForm}, {3, nodes(2, 1, 4, 1, 3, 1), api.ErrForm}, {3, nodes(2, 1, 3, 1, 3, 1), api.ErrForm},
		{3, nodes(2, api.Most+1), api.ErrForm}, {3, nodes(2, api.Most, 3, 1), api.ErrForm}, {3, nodes(1, 1, 2, 1, 3, api.Most-1), api.ErrForm}, {3, nodes(2, math.MaxInt), api.ErrForm}, {3, nodes(2, math.MaxInt, 3, math.MaxInt, 4, 3), api.ErrForm},
	} {
		for _, kind := range kinds {
			p, e := Load(kind, r.l, r.roll)
			if e != r.want || (p == nil) != (e != api.OK) {
				t.Fatalf("Load of %d, %d, %v is %v, %d, and should be %d", kind, r.l, r.roll, p, e, r.want)
			}
			if e == api.OK {
				hold(t, p, modelOf(kind, r.l, r.roll))
			}
		}
	}
}

func modelOf(kind, l int, r []api.Node) model {
	m := model{kind, l, map[int]int{}}
	for _, n := range r {
		m.weights[n.Id] = n.Count
	}
	return m
}

func TestLoadTellsTheErrorOfNewFirst(t *testing.T) {
	for _, r := range [][]api.Node{nil, nodes(1, 1), nodes(3, 1, 2, 1), nodes(0, 0), nodes(2, math.MaxInt), nodes(1<<17, 1)} {
		for _, kind := range append(slices.Clone(kinds), noKinds...) {
			for _, l := range edges {
				if fits(kind, l) {
					continue
				}
				if p, e := Load(kind, l, r); p != nil || e != api.ErrArg {
					t.Errorf("Load of %d, %d, %v is %v, %d", kind, l, r, p, e)
				}
			}
		}
	}
	if p, e := Load(api.Hash, 17, nodes(1<<17, 1)); p == nil || e != api.OK {
		t.Errorf("Load of a leaf of 17 bits is %v, %d", p, e)
	}
	if p, e := Load(api.Hash, 48, nodes(1, 2, 1<<49-1, 3)); p == nil || e != api.OK || p.Get(1<<49-1) != 3 {
		t.Errorf("Load of a leaf of 48 bits is %v, %d", p, e)
	}
	if p, e := Load(api.Hash, 48, nodes(1, 2, 1<<49, 3)); p != nil || e != api.ErrForm {
		t.Errorf("Load of what is no node of 48 bits is %v, %d", p, e)
	}
}

// lists calls f with each list of up to n nodes of these.
func lists(l []api.Node, n int, f func(r []api.Node)) {
	var longer func(r []api.Node)
	longer = func(r []api.Node) {
		f(r)
		if len(r) == n {
			return
		}
		for _, x := range l {
			longer(append(slices.Clone(r), x))
		}
	}
	longer(nil)
}

// isRoll is the chapter's words of a roll, with a sum of any size.
func isRoll(l int, r []api.Node) bool {
	sum := new(big.Int)
	for at, n := range r {
		if n.Id < 1 || n.Id >= 2<<l || n.Count < 1 || at > 0 && n.Id <= r[at-1].Id {
			return false
		}
		sum.Add(sum, big.NewInt(int64(n.Count)))
	}
	return sum.Cmp(big.NewInt(api.Most)) <= 0
}

func TestLoadOfAllSmallLists(t *testing.T) {
	var all []api.Node
	for _, id := range []int{-1, 0, 1, 2, 3, 4} {
		for _, count := range []int{-1, 0, 1, api.Most - 1, api.Most, math.MaxInt} {
			all = append(all, api.Node{Id: id, Count: count})
		}
	}
	for _, kind := range kinds {
		lists(all, 3, func(r []api.Node) {
			before := slices.Clone(r)
			p, e := Load(kind, 1, r)
			if !slices.Equal(r, before) {
				t.Fatalf("Load wrote to %v", before)
			}
			if !isRoll(1, r) {
				if p != nil || e != api.ErrForm {
					t.Fatalf("Load of %d, %v is %v, %d", kind, r, p, e)
				}
				return
			}
			if p == nil || e != api.OK {
				t.Fatalf("Load of %d, %v is %v, %d", kind, r, p, e)
			}
			hold(t, p, modelOf(kind, 1, r))
		})
	}
}

func TestLoadKeepsNoList(t *testing.T) {
	for _, kind := range kinds {
		memory := nodes(2, 4, 5, 1, 3, 9, 0, 0)
		p := loaded(t, kind, 3, memory[:2])
		m := modelOf(kind, 3, nodes(2, 4, 5, 1))
		hold(t, p, m)
		if !slices.Equal(memory, nodes(2, 4, 5, 1, 3, 9, 0, 0)) {
			t.Errorf("Load wrote to what was handed in: %v", memory)
		}
		memory[0], memory[1] = api.Node{Id: 7, Count: 7}, api.Node{}
		hold(t, p, m)
		add(t, p, m, 2, 5)
		take(t, p, m, 5)
		hold(t, p, m)
		if !slices.Equal(memory, nodes(7, 7, 0, 0, 3, 9, 0, 0)) {
			t.Errorf("a pool wrote to what it was loaded from: %v", memory)
		}
	}
}

// P9.2

func TestExample(t *testing.T) {
	p, m := made(t, api.Hash, 20)
	add(t, p, m, 7, 3)
	hold(t, p, m)
	if p.Kind() != 2 || p.L() != 20 || p.Get(7) != 3 {
		t.Errorf("%v is told", p.Snap())
	}
	if p, e := New(api.Dense, 20); p != nil || e != 2 {
		t.Errorf("New of an array of 20 bits is %v, %d", p, e)
	}
}

func TestAddAndTake(t *testing.T) {
	for _, kind := range kinds {
		p, m := made(t, kind, 3)
		for _, r := range []struct {
			id, count int
			want      api.Errno
		}{
			{9, 2, api.OK}, {1, 5, api.OK}, {9, 1, api.OK}, {15, 0, api.OK}, {9, 0, api.OK}, {16, 1, api.ErrArg}, {16, 0, api.ErrArg}, {0, 1, api.ErrArg}, {0, 0, api.ErrArg}, {-1, 1, api.ErrArg}, {-9, 1, api.ErrArg},
			{9, -1, api.ErrArg}, {9, -3, api.ErrArg}, {8, -1, api.ErrArg}, {9, math.MinInt, api.ErrArg}, {math.MinInt, math.MinInt, api.ErrArg}, {math.MaxInt, 1, api.ErrArg},
			{16, api.Most + 1, api.ErrArg}, {0, math.MaxInt, api.ErrArg}, {9, api.Most + 1, api.ErrFull}, {9, api.Most, api.ErrFull}, {2, api.Most - 7, api.ErrFull}, {2, math.MaxInt, api.ErrFull}, {9, math.MaxInt - 2, api.ErrFull},
			{2, api.Most - 8, api.OK}, {2, 1, api.ErrFull}, {3, 1, api.ErrFull}, {3, 0, api.OK}, {2, 0, api.OK}, {2, -1, api.ErrArg}, {16, 1, api.ErrArg}, {3, math.MaxInt, api.ErrFull},
		} {
			if got := p.Add(r.id, r.count); got != r.want {
				t.Errorf("Add of %d, %d is %d, and should be %d", r.id, r.count, got, r.want)
			}
			m.add(r.id, r.count)
			hold(t, p, m)
		}
		for _, r := range []struct{ id, want int }{
			{9, 3}, {9, 0}, {15, 0}, {3, 0}, {0, 0}, {-1, 0}, {16, 0}, {1 << 17, 0}, {math.MinInt, 0}, {math.MaxInt, 0}, {2, api.Most - 8}, {1, 5}, {1, 0},
		} {
			if got := p.Take(r.id); got != r.want {
				t.Errorf("Take of %d is %d, and should be %d", r.id, got, r.want)
			}
			m.take(r.id)
			hold(t, p, m)
		}
		add(t, p, m, 7, api.Most)
		hold(t, p, m)
	}
}

func TestOfTwoEdges(t *testing.T) {
	for _, kind := range kinds {
		for _, l := range []int{1, 3} {
			for _, one := range ids {
				for _, first := range counts {
					p, m := made(t, kind, l)
					add(t, p, m, one, first)
					hold(t, p, m)
					for _, id := range []int{one, 1, 15, 16} {
						for _, count := range counts {
							c, mc := p.Clone(), m.clone()
							add(t, c, mc, id, count)
							take(t, c, mc, one)
							hold(t, c, mc)
						}
					}
				}
			}
		}
	}
}

func TestEdgesOneAfterAnother(t *testing.T) {
	each(func(kind, l int) {
		p, m := made(t, kind, l)
		for _, id := range ids {
			for _, count := range counts {
				add(t, p, m, id, count)
			}
			hold(t, p, m)
			take(t, p, m, id)
			hold(t, p, m)
		}
		for _, id := range ids {
			add(t, p, m, id, 2)
		}
		hold(t, p, m)
	})
}

func TestManySteps(t *testing.T) {
	seed := uint64(7)
	each(func(kind, l int) {
		p, m := made(t, kind, l)
		for step := range 150 {
			seed = next(seed)
			// A few numbers beside the nodes, below and above them, are among those that are asked for.
			id := int(seed>>33)%(2<<min(l, 5)+4) - 2
			if seed>>20&1 == 1 {
				id += 2<<l - 2<<min(l, 5)
			}
			seed = next(seed)
			count := int(seed>>33)%12 - 2
			if seed>>20&15 == 0 {
				count = api.Most / 3
			}
			if step%3 == 2 {
				take(t, p, m, id)
			} else {
				add(t, p, m, id, count)
			}
			hold(t, p, m)
		}
	})
}

func TestSnap(t *testing.T) {
	for _, kind := range kinds {
		for set := range 1 << 7 {
			p, m := made(t, kind, 2)
			for id := 7; id >= 1; id-- {
				if set>>(id-1)&1 == 1 {
					add(t, p, m, id, 10*id)
				}
			}
			hold(t, p, m)
			before := p.Snap()
			answer := p.Snap()
			for _, n := range answer[len(answer):cap(answer)] {
				if n != (api.Node{}) {
					t.Errorf("behind %v stands %v", answer, n)
				}
			}
			for at := range answer {
				answer[at] = api.Node{Id: 99, Count: 99}
			}
			_ = append(answer, api.Node{Id: 98, Count: 98})
			hold(t, p, m)
			p.Add(1, 1)
			if !slices.Equal(before, m.snap()) {
				t.Errorf("what was told has become %v", before)
			}
		}
	}
}

// goTheirWays changes two pools in turn, and holds both after each step.
func goTheirWays(t *testing.T, p *Pool, m model, q *Pool, mq model) {
	t.Helper()
	both := func() {
		t.Helper()
		hold(t, p, m)
		hold(t, q, mq)
	}
	both()
	add(t, q, mq, 1, 5)
	both()
	take(t, q, mq, 2)
	both()
	add(t, p, m, 3, 9)
	both()
	take(t, p, m, 2<<m.l-1)
	both()
	for id := 1; id < min(2<<m.l, 30); id++ {
		add(t, q, mq, id, id)
	}
	both()
	for id := 1; id < min(2<<m.l, 30); id++ {
		take(t, p, m, id)
	}
	both()
}

func TestClone(t *testing.T) {
	each(func(kind, l int) {
		p, m := made(t, kind, l)
		hold(t, p.Clone(), m)
		for _, id := range []int{1, 2, 1 << l, 2<<l - 1} {
			add(t, p, m, id, id)
		}
		c := p.Clone()
		if c == p {
			t.Fatal("a clone is the pool itself")
		}
		if e := c.Add(2<<l-1, api.Most); e != api.ErrFull {
			t.Errorf("Add of too much to a clone is %d", e)
		}
		if e := c.Add(2<<l, 1); e != api.ErrArg {
			t.Errorf("Add of no node to a clone is %d", e)
		}
		goTheirWays(t, p, m, c, m.clone())
	})
}

// P9.3

func TestTurn(t *testing.T) {
	each(func(kind, l int) {
		for _, to := range kinds {
			p, m := made(t, kind, l)
			for step := range 4 {
				q, e := p.Turn(to)
				if !fits(to, l) {
					if q != nil || e != api.ErrArg {
						t.Errorf("Turn to %d of %v is %v, %d", to, m, q, e)
					}
					hold(t, p, m)
				} else {
					if q == nil || e != api.OK || q == p {
						t.Fatalf("Turn to %d of %v is %v, %d", to, m, q, e)
					}
					mq := model{to, l, maps.Clone(m.weights)}
					hold(t, q, mq)
					goTheirWays(t, p.Clone(), m.clone(), q, mq)
					hold(t, p, m)
				}
				add(t, p, m, []int{1, 2, 1 << l, 2<<l - 1}[step], step+1)
			}
		}
	})
}

func TestTurnedPoolsAreOnTheirOwn(t *testing.T) {
	for _, kind := range kinds {
		for _, to := range kinds {
			p, m := made(t, kind, 4)
			for _, id := range []int{2, 9, 16, 31} {
				add(t, p, m, id, id)
			}
			q, _ := p.Turn(to)
			goTheirWays(t, p, m, q, model{to, 4, maps.Clone(m.weights)})
		}
	}
}

func TestTurnToNoKind(t *testing.T) {
	for _, kind := range kinds {
		p, m := made(t, kind, 3)
		add(t, p, m, 9, 2)
		for _, to := range noKinds {
			if q, e := p.Turn(to); q != nil || e != api.ErrArg {
				t.Errorf("Turn to %d is %v, %d", to, q, e)
			}
			hold(t, p, m)
		}
	}
}

func TestTurnOfAllThatThereMayBe(t *testing.T) {
	for _, kind := range kinds {
		for _, to := range kinds {
			for _, r := range [][]api.Node{nodes(1, api.Most), nodes(15, api.Most), nodes(1, 1, 7, api.Most-2, 15, 1)} {
				p := loaded(t, kind, 3, r)
				q, e := p.Turn(to)
				if q == nil || e != api.OK {
					t.Fatalf("Turn to %d of %v is %v, %d", to, r, q, e)
				}
				hold(t, q, modelOf(to, 3, r))
				if e := q.Add(1, 1); e != api.ErrFull {
					t.Errorf("Add of 1 to Most is %d", e)
				}
			}
		}
	}
}

// P9.4

func TestEachTellsWhatIsThereWhenItIsGoneOver(t *testing.T) {
	for _, kind := range kinds {
		p, m := made(t, kind, 3)
		over := p.Each()
		check := func() {
			t.Helper()
			var got []api.Node
			for id, count := range over {
				got = append(got, api.Node{Id: id, Count: count})
			}
			if !slices.Equal(got, m.snap()) {
				t.Errorf("%v is gone over, and should be %v", got, m.snap())
			}
		}
		check()
		for _, id := range []int{9, 2, 15, 8, 1, 12, 3, 9, 9} {
			add(t, p, m, id, id)
			check()
			check()
		}
		for _, id := range []int{2, 15, 2, 9} {
			take(t, p, m, id)
			check()
		}
	}
}

func TestEachEndsWhenItIsEnough(t *testing.T) {
	for _, kind := range kinds {
		want := nodes(1, 4, 2, 5, 9, 1, 12, 7, 15, 3)
		p := loaded(t, kind, 3, want)
		for enough := 1; enough <= 7; enough++ {
			var got []api.Node
			p.Each()(func(id, count int) bool {
				got = append(got, api.Node{Id: id, Count: count})
				return len(got) < enough
			})
			if !slices.Equal(got, want[:min(enough, 5)]) {
				t.Errorf("what is to end behind %d tells %v", enough, got)
			}
		}
		for range 2 {
			for id := range p.Each() {
				if id != 1 {
					t.Errorf("the first one is told to be %d", id)
				}
				break
			}
		}
		hold(t, p, modelOf(kind, 3, want))
	}
}

func TestEachWithinEach(t *testing.T) {
	for _, kind := range kinds {
		p := loaded(t, kind, 3, nodes(1, 4, 5, 2, 9, 1))
		over := p.Each()
		var got []int
		for a := range over {
			for b, count := range over {
				got = append(got, a, b, count)
			}
		}
		if !slices.Equal(got, []int{1, 1, 4, 1, 5, 2, 1, 9, 1, 5, 1, 4, 5, 5, 2, 5, 9, 1, 9, 1, 4, 9, 5, 2, 9, 9, 1}) {
			t.Errorf("each within each tells %v", got)
		}
	}
}

func TestEachOfWhatChangesMeanwhile(t *testing.T) {
	for _, kind := range kinds {
		p := loaded(t, kind, 3, nodes(1, 4, 5, 2, 9, 1))
		m := modelOf(kind, 3, nodes(1, 4, 5, 2, 9, 1))
		var got []api.Node
		for id, count := range p.Each() {
			got = append(got, api.Node{Id: id, Count: count})
			take(t, p, m, id)
			add(t, p, m, 9, 3)
			add(t, p, m, id+1, 1)
			for other := 10; other < 16; other++ {
				add(t, p, m, other, 1)
			}
		}
		// It begins with what is there; what changes behind that is told the next time.
		if !slices.Equal(got, nodes(1, 4, 5, 2, 9, 1)) {
			t.Errorf("%v is gone over", got)
		}
		hold(t, p, m)
	}
}

// P9.5

func TestSame(t *testing.T) {
	rolls := []struct {
		l int
		r []api.Node
	}{
		{1, nil}, {2, nil}, {16, nil}, {2, nodes(1, 1)}, {3, nodes(1, 1)}, {3, nodes(1, 2)}, {3, nodes(2, 1)}, {3, nodes(1, 1, 2, 1)}, {3, nodes(1, 1, 2, 2)}, {3, nodes(1, 2, 2, 1)}, {3, nodes(1, 1, 3, 1)},
		{3, nodes(1, 1, 2, 1, 3, 1)}, {3, nodes(2, 1, 3, 1)}, {3, nodes(1, 3)}, {3, nodes(15, 1)}, {16, nodes(15, 1)}, {3, nodes(1, api.Most)},
	}
	for i, a := range rolls {
		for j, b := range rolls {
			for _, kind := range kinds {
				for _, other := range kinds {
					if got := Same(loaded(t, kind, a.l, a.r), loaded(t, other, b.l, b.r)); got != (i == j) {
						t.Errorf("Same of %v and %v is %v", a, b, got)
					}
				}
			}
		}
	}
	for _, l := range []int{17, 47, 48} {
		if Same(loaded(t, api.Hash, l, nil), loaded(t, api.Hash, l-1, nil)) || !Same(loaded(t, api.Hash, l, nil), loaded(t, api.Hash, l, nil)) {
			t.Errorf("Same of pools of %d bits is wrong", l)
		}
	}
}

func TestSameHangsOnNoWay(t *testing.T) {
	for _, kind := range kinds {
		p, _ := made(t, kind, 6)
		for id := 1; id <= 60; id++ {
			p.Add(id, 1)
		}
		for id := 60; id >= 4; id-- {
			p.Take(id)
		}
		p.Add(2, 4)
		for _, other := range kinds {
			q := loaded(t, other, 6, nodes(1, 1, 2, 5, 3, 1))
			if !Same(p, q) || !Same(q, p) || !Same(p, p) {
				t.Errorf("Same of %v and %v is false", p.Snap(), q.Snap())
			}
			q.Take(3)
			if Same(p, q) || Same(q, p) {
				t.Errorf("Same of %v and %v is true", p.Snap(), q.Snap())
			}
		}
	}
}

func TestSameOfNil(t *testing.T) {
	if !Same(nil, nil) {
		t.Error("nil is not the same as nil")
	}
	for _, kind := range kinds {
		p, _ := made(t, kind, 1)
		if Same(p, nil) || Same(nil, p) {
			t.Error("a pool without nodes is the same as nil")
		}
	}
}

// P9.6

// tells holds two pools of one universe against each other.
func tells(t *testing.T, a, b *Pool) {
	t.Helper()
	if a.L() != b.L() || a.Len() != b.Len() || a.Total() != b.Total() || !slices.Equal(a.Snap(), b.Snap()) || !slices.Equal(gone(a), gone(b)) || !Same(a, b) || !Same(b, a) {
		t.Fatalf("%v is told by the one, and by the other one %v", a.Snap(), b.Snap())
	}
}

func TestBothKindsTellTheSame(t *testing.T) {
	seed := uint64(13)
	for l := 1; l <= 16; l++ {
		a, _ := made(t, api.Dense, l)
		b, _ := made(t, api.Hash, l)
		for step := range 100 {
			seed = next(seed)
			id := int(seed>>33)%(2<<l+4) - 2
			if seed>>20&1 == 1 {
				id = int(seed>>33) % 40
			}
			seed = next(seed)
			count := int(seed>>33)%40 - 2
			if seed>>20&31 == 0 {
				count = api.Most / 5
			}
			if seed>>40&3 == 0 {
				if x, y := a.Take(id), b.Take(id); x != y {
					t.Fatalf("Take of %d is %d and %d", id, x, y)
				}
			} else if x, y := a.Add(id, count), b.Add(id, count); x != y {
				t.Fatalf("Add of %d, %d is %d and %d", id, count, x, y)
			}
			if a.Get(id) != b.Get(id) {
				t.Fatalf("Get of %d is %d and %d", id, a.Get(id), b.Get(id))
			}
			if step%10 == 0 {
				tells(t, a, b)
				turned, _ := a.Turn(api.Hash)
				back, _ := turned.Turn(api.Dense)
				tells(t, turned, b)
				tells(t, a, back)
				tells(t, loaded(t, api.Dense, l, b.Snap()), a)
				tells(t, loaded(t, api.Hash, l, a.Snap()), a)
				// What was turned goes on as the pools that were there.
				if step%20 == 0 {
					b, _ = a.Turn(api.Hash)
					a = back
				}
			}
		}
	}
}

// Of nil.

func TestNil(t *testing.T) {
	var p *Pool
	if p.Kind() != 0 || p.L() != 0 || p.Len() != 0 || p.Total() != 0 || len(p.Snap()) != 0 || p.Clone() != nil {
		t.Errorf("nil tells %d, %d, %d, %d, %v, %v", p.Kind(), p.L(), p.Len(), p.Total(), p.Snap(), p.Clone())
	}
	for id, count := range p.Each() {
		t.Errorf("nil goes over %d, %d", id, count)
	}
	for _, kind := range append(slices.Clone(kinds), noKinds...) {
		if q, e := p.Turn(kind); q != nil || e != api.ErrNone {
			t.Errorf("Turn of nil to %d is %v, %d", kind, q, e)
		}
	}
	for _, id := range ids {
		if p.Get(id) != 0 || p.Take(id) != 0 {
			t.Errorf("nil has %d, %d at %d", p.Get(id), p.Take(id), id)
		}
		for _, count := range counts {
			if e := p.Add(id, count); e != api.ErrNone {
				t.Errorf("Add of %d, %d to nil is %d", id, count, e)
			}
		}
	}
}
