package probe

import (
	"math"
	"math/big"
	"slices"
	"testing"

	"dewpond/api"
	"dewpond/dense"
)

// ids are numbers at which nodes end, and some ordinary and wrong ones.
var ids = []int{
	math.MinInt, math.MinInt + 1, -1 << 49, -15, -2, -1, 0, 1, 2, 3, 4, 5, 7, 8, 9, 15, 16, 17, 31, 32,
	1<<16 - 1, 1 << 16, 1<<17 - 1, 1 << 17, 1<<17 + 1, 1 << 32, 1<<32 + 1, 1<<48 - 1, 1 << 48, 1<<49 - 1, 1 << 49, 1<<49 + 1, 1 << 62, math.MaxInt - 1, math.MaxInt,
}

// counts are numbers at which weights end, and some ordinary and wrong ones.
var counts = []int{
	math.MinInt, -1 << 56, -2, -1, 0, 1, 2, 3, 100, 1<<55 - 1, 1 << 55,
	api.Most - 2, api.Most - 1, api.Most, api.Most + 1, 1 << 57, 1<<62 - 1, 1 << 62, math.MaxInt - api.Most, math.MaxInt - 1, math.MaxInt,
}

// crowd is nodes of 5 bits that stand in one another's way in a table of 8 slots: the home of 8, 16, 21 and 29 is the slot 7, that of 5, 13 and 18 the slot 0, that of 2 and 10 the slot 1.
var crowd = []int{8, 16, 21, 29, 5, 13, 18, 2, 10}

// model is what a store should be: a map of the weights, and the nodes of all slots, by the chapter's words.
type model struct {
	l, b    int
	weights map[int]int
	slots   []int
}

// wantHome is a node's home, reckoned with a number of any length.
func wantHome(b, id int) int {
	if b < 1 || b > 62 || id < 1 {
		return 0
	}
	n, _ := new(big.Int).SetString("9e3779b97f4a7c15", 16)
	n.Mul(n, big.NewInt(int64(id)))
	n.And(n, new(big.Int).SetUint64(math.MaxUint64))
	return int(n.Rsh(n, uint(64-b)).Int64())
}

func (m *model) total() *big.Int {
	sum := new(big.Int)
	for _, weight := range m.weights {
		sum.Add(sum, big.NewInt(int64(weight)))
	}
	return sum
}

// end is the slot at which looking for a node ends, and how many slots are looked at.
func (m *model) end(id int) (at, looked int) {
	home := Home(m.b, id)
	for step := range m.slots {
		at = (home + step) % len(m.slots)
		if m.slots[at] == id || m.slots[at] == 0 {
			return at, step + 1
		}
	}
	panic("a table is full")
}

// put puts a node that is not there yet into its slot.
func (m *model) put(id int) {
	if 2*(len(m.weights)+1) > len(m.slots) {
		before := m.slots
		m.b, m.slots = m.b+1, make([]int, 2*len(before))
		for _, old := range before {
			if old != 0 {
				at, _ := m.end(old)
				m.slots[at] = old
			}
		}
	}
	at, _ := m.end(id)
	m.slots[at] = id
}

func (m *model) add(id, count int) api.Errno {
	if id < 1 || id >= 2<<m.l || count < 0 {
		return api.ErrArg
	}
	if sum := m.total(); sum.Add(sum, big.NewInt(int64(count))).Cmp(big.NewInt(api.Most)) > 0 {
		return api.ErrFull
	}
	if count == 0 {
		return api.OK
	}
	if m.weights[id] == 0 {
		m.put(id)
	}
	m.weights[id] += count
	return api.OK
}

// far is how many steps, one by one, it is from a slot to another.
func (m *model) far(from, to int) int {
	steps := 0
	for from != to {
		steps++
		from++
		if from == len(m.slots) {
			from = 0
		}
	}
	return steps
}

func (m *model) take(id int) int {
	weight := m.weights[id]
	if weight == 0 {
		return 0
	}
	delete(m.weights, id)
	empty := slices.Index(m.slots, id)
	m.slots[empty] = 0
	for step, first := 1, empty; ; step++ {
		at := (first + step) % len(m.slots)
		node := m.slots[at]
		if node == 0 {
			return weight
		}
		home := Home(m.b, node)
		if m.far(home, empty) > m.far(home, at) {
			continue
		}
		m.slots[empty], m.slots[at] = node, 0
		empty = at
	}
}

func (m *model) snap() []api.Node {
	var l []api.Node
	for id, weight := range m.weights {
		l = append(l, api.Node{Id: id, Count: weight})
	}
	slices.SortFunc(l, func(a, b api.Node) int { return a.Id - b.Id })
	return l
}

func (m *model) clone() *model {
	c := *m
	c.slots = slices.Clone(m.slots)
	c.weights = map[int]int{}
	for id, weight := range m.weights {
		c.weights[id] = weight
	}
	return &c
}

func made(t *testing.T, l int) (*Probe, *model) {
	t.Helper()
	p, e := New(l)
	if p == nil || e != api.OK {
		t.Fatalf("New of %d is %v, %d", l, p, e)
	}
	return p, &model{l, 3, map[int]int{}, make([]int, 8)}
}

// holdNode holds what a store tells of a number against what it should.
func holdNode(t *testing.T, p *Probe, m *model, id int) {
	t.Helper()
	if got := p.Get(id); got != m.weights[id] {
		t.Fatalf("Get of %d from %v is %d", id, m, got)
	}
	looked := 0
	if id >= 1 && id < 2<<m.l {
		_, looked = m.end(id)
	}
	if got := p.Walk(id); got != looked {
		t.Fatalf("Walk of %d in %v is %d, and should be %d", id, m, got, looked)
	}
}

// hold holds all that a store tells against what it should.
func hold(t *testing.T, p *Probe, m *model) {
	t.Helper()
	if p.L() != m.l || p.Len() != len(m.weights) || big.NewInt(int64(p.Total())).Cmp(m.total()) != 0 {
		t.Fatalf("%v tells %d, %d, %d, and should be %v", p.Snap(), p.L(), p.Len(), p.Total(), m)
	}
	if got := p.Snap(); !slices.Equal(got, m.snap()) {
		t.Fatalf("Snap of %v is %v", m, got)
	}
	if got := p.Size(); got != len(m.slots) {
		t.Fatalf("Size of %v is %d", m, got)
	}
	for i, id := range m.slots {
		if got := p.Slot(i); got != (api.Node{Id: id, Count: m.weights[id]}) {
			t.Fatalf("in the slot %d of %v is %v", i, m, got)
		}
	}
	for _, i := range []int{math.MinInt, -len(m.slots), -1, len(m.slots), len(m.slots) + 1, 1 << 32, math.MaxInt} {
		if got := p.Slot(i); got != (api.Node{}) {
			t.Fatalf("in the slot %d of %v is %v", i, m, got)
		}
	}
	for id := range m.weights {
		holdNode(t, p, m, id)
	}
}

// add adds to both, and holds the answers against each other.
func add(t *testing.T, p *Probe, m *model, id, count int) {
	t.Helper()
	if got, want := p.Add(id, count), m.add(id, count); got != want {
		t.Fatalf("Add of %d, %d to %v is %d, and should be %d", id, count, m, got, want)
	}
}

// take takes from both, and holds the answers against each other.
func take(t *testing.T, p *Probe, m *model, id int) {
	t.Helper()
	if got, want := p.Take(id), m.take(id); got != want {
		t.Fatalf("Take of %d from %v is %d, and should be %d", id, m, got, want)
	}
}

// stand holds the nodes of all slots against those that are told.
func stand(t *testing.T, p *Probe, want ...int) {
	t.Helper()
	var got []int
	for i := range p.Size() {
		got = append(got, p.Slot(i).Id)
	}
	if !slices.Equal(got, want) {
		t.Errorf("in the slots are %v, and should be %v", got, want)
	}
}

// filled is a store of l bits to which nodes were added, each with its number as its weight.
func filled(t *testing.T, l int, nodes ...int) *Probe {
	t.Helper()
	p, _ := made(t, l)
	for _, id := range nodes {
		if e := p.Add(id, id); e != api.OK {
			t.Fatalf("Add of %d is %d", id, e)
		}
	}
	return p
}

// next is the number behind n in a row of numbers that looks mixed.
func next(n uint64) uint64 { return n*6364136223846793005 + 1442695040888963407 }

// P8.2

func TestHome(t *testing.T) {
	for _, r := range []struct{ bits, id, want int }{
		{3, 1, 4}, {3, 2, 1}, {3, 5, 0}, {3, 8, 7}, {3, 10, 1}, {4, 1, 9}, {4, 8, 15}, {4, 13, 0}, {1, 1, 1}, {1, 2, 0}, {2, 1, 2},
		{61, 1, 1425089352415399810}, {62, 1, 2850178704830799621}, {62, 1<<49 - 1, 1620347612776194298}, {62, math.MaxInt, 4067350322810282234},
		{63, 1, 0}, {64, 1, 0}, {65, 1, 0}, {128, 1, 0}, {math.MaxInt, 1, 0}, {0, 1, 0}, {-1, 1, 0}, {-3, 5, 0}, {math.MinInt, 1, 0},
		{3, 0, 0}, {3, -1, 0}, {62, -1, 0}, {3, math.MinInt, 0}, {0, 0, 0}, {63, -1, 0}, {math.MinInt, math.MinInt, 0},
	} {
		if got := Home(r.bits, r.id); got != r.want {
			t.Errorf("Home of %d, %d is %d, and should be %d", r.bits, r.id, got, r.want)
		}
	}
}

func TestHomeAgainstLongNumbers(t *testing.T) {
	all := slices.Clone(ids)
	for id := range 300 {
		all = append(all, id, 1<<49-id, math.MaxInt-id)
	}
	for b := -2; b <= 66; b++ {
		for _, id := range all {
			if got, want := Home(b, id), wantHome(b, id); got != want {
				t.Fatalf("Home of %d, %d is %d, and should be %d", b, id, got, want)
			}
		}
	}
}

func TestWalk(t *testing.T) {
	p := filled(t, 5, 8, 16, 5, 10)
	stand(t, p, 16, 5, 10, 0, 0, 0, 0, 8)
	for _, r := range []struct{ id, want int }{
		{8, 1}, {16, 2}, {5, 2}, {10, 2}, {21, 5}, {29, 5}, {13, 4}, {2, 3}, {1, 1}, {63, wantWalk(p, 63)},
		{64, 0}, {65, 0}, {0, 0}, {-1, 0}, {-8, 0}, {1 << 49, 0}, {math.MaxInt, 0}, {math.MinInt, 0},
	} {
		if got := p.Walk(r.id); got != r.want {
			t.Errorf("Walk of %d is %d, and should be %d", r.id, got, r.want)
		}
	}
}

// wantWalk is how many slots are looked at, of the slots as they are told.
func wantWalk(p *Probe, id int) int {
	home := wantHome(3, id)
	for step := range p.Size() {
		if there := p.Slot((home + step) % p.Size()).Id; there == id || there == 0 {
			return step + 1
		}
	}
	return 0
}

func TestSlot(t *testing.T) {
	p := filled(t, 5, 8, 16)
	p.Add(8, 1)
	for i := -20; i <= 20; i++ {
		want := api.Node{}
		switch i {
		case 7:
			want = api.Node{Id: 8, Count: 9}
		case 0:
			want = api.Node{Id: 16, Count: 16}
		}
		if got := p.Slot(i); got != want {
			t.Errorf("in the slot %d is %v, and should be %v", i, got, want)
		}
	}
}

// P8.3

func TestWhereNodesAre(t *testing.T) {
	stand(t, filled(t, 5), 0, 0, 0, 0, 0, 0, 0, 0)
	stand(t, filled(t, 5, 1, 2, 5), 5, 2, 0, 0, 1, 0, 0, 0)
	stand(t, filled(t, 5, 8, 16, 21, 29), 16, 21, 29, 0, 0, 0, 0, 8)
	stand(t, filled(t, 5, 29, 21, 16, 8), 21, 16, 8, 0, 0, 0, 0, 29)
	stand(t, filled(t, 5, 5, 8, 16, 2), 5, 16, 2, 0, 0, 0, 0, 8)
}

func TestTheTableGetsTwiceAsMany(t *testing.T) {
	// 16, 5, 10, 8 are put anew from the slot 0 on, and 21 behind them: the home of 8 and 21 is the slot 15 then.
	stand(t, filled(t, 5, 8, 16, 5, 10, 21), 21, 5, 10, 0, 0, 0, 0, 0, 0, 0, 0, 0, 0, 0, 16, 8)
	// 21 stands in the slot 0 by then, so it is put ahead of 8, though it came behind it.
	stand(t, filled(t, 5, 8, 21, 1, 3, 4), 8, 0, 0, 0, 0, 0, 0, 4, 0, 1, 0, 0, 0, 3, 0, 21)
	stand(t, filled(t, 5, 8, 21, 1, 3), 21, 0, 0, 0, 1, 0, 3, 8)
}

func TestWhatMakesTheTableGrowHasItsWeight(t *testing.T) {
	for _, l := range []int{3, 9, 48} {
		p, m := made(t, l)
		for id := 1; id <= min(2<<l-1, 300); id++ {
			add(t, p, m, id, 10+id)
			hold(t, p, m)
		}
	}
}

func TestSizes(t *testing.T) {
	p, _ := made(t, 48)
	for n := 1; n <= 3000; n++ {
		p.Add(1<<48+n*n, 1)
		size := 8
		for 2*n > size {
			size *= 2
		}
		if p.Size() != size || p.Len() != n {
			t.Fatalf("of %d nodes there are %d slots, and should be %d", p.Len(), p.Size(), size)
		}
	}
	for n := 1; n <= 3000; n++ {
		p.Take(1<<48 + n*n)
		if p.Size() != 8192 || p.Len() != 3000-n {
			t.Fatalf("of %d nodes there are %d slots", p.Len(), p.Size())
		}
	}
	p.Add(1, 1)
	if p.Size() != 8192 || p.Walk(1) != 1 {
		t.Errorf("there are %d slots", p.Size())
	}
}

func TestWhatLeavesTheTableAsItIs(t *testing.T) {
	p := filled(t, 5, 8, 16, 5, 10)
	for _, r := range []struct {
		id, count int
		want      api.Errno
	}{
		{21, 0, api.OK}, {8, 0, api.OK}, {8, 1, api.OK}, {16, 5, api.OK}, {21, api.Most, api.ErrFull}, {21, math.MaxInt, api.ErrFull},
		{21, -1, api.ErrArg}, {64, 1, api.ErrArg}, {0, 1, api.ErrArg}, {-8, 1, api.ErrArg}, {8, api.Most, api.ErrFull},
	} {
		if got := p.Add(r.id, r.count); got != r.want {
			t.Errorf("Add of %d, %d is %d, and should be %d", r.id, r.count, got, r.want)
		}
		stand(t, p, 16, 5, 10, 0, 0, 0, 0, 8)
	}
	for _, id := range []int{21, 0, 64, -8, 1, math.MinInt, math.MaxInt} {
		if got := p.Take(id); got != 0 {
			t.Errorf("Take of %d is %d", id, got)
		}
		stand(t, p, 16, 5, 10, 0, 0, 0, 0, 8)
	}
	p.Take(10)
	p.Add(10, 3)
	stand(t, p, 16, 5, 10, 0, 0, 0, 0, 8)
}

func TestWhatATakeMoves(t *testing.T) {
	for _, r := range []struct {
		nodes []int
		id    int
		want  []int
	}{
		{[]int{8, 16, 5, 10}, 8, []int{5, 10, 0, 0, 0, 0, 0, 16}},
		{[]int{8, 16, 5, 10}, 16, []int{5, 10, 0, 0, 0, 0, 0, 8}},
		{[]int{8, 16, 5, 10}, 5, []int{16, 10, 0, 0, 0, 0, 0, 8}},
		{[]int{8, 16, 5, 10}, 10, []int{16, 5, 0, 0, 0, 0, 0, 8}},
		// 2 is at home, and stays; 21 goes past it.
		{[]int{8, 16, 2, 21}, 8, []int{21, 2, 0, 0, 0, 0, 0, 16}},
		{[]int{8, 16, 2, 21}, 16, []int{21, 2, 0, 0, 0, 0, 0, 8}},
		{[]int{8, 16, 2, 21}, 2, []int{16, 21, 0, 0, 0, 0, 0, 8}},
		// 5 and 2 are at home behind 8, and stay.
		{[]int{8, 5, 2}, 8, []int{5, 2, 0, 0, 0, 0, 0, 0}},
		// 10 is at home in the slot 1, so the slot 0 stays empty behind 16.
		{[]int{8, 16, 10, 3}, 8, []int{0, 10, 0, 0, 0, 0, 3, 16}},
		{[]int{7, 4, 1, 9}, 7, []int{0, 0, 0, 4, 1, 9, 0, 0}},
		{[]int{7, 4, 1, 9}, 1, []int{0, 0, 7, 4, 9, 0, 0, 0}},
	} {
		p := filled(t, 5, r.nodes...)
		if got := p.Take(r.id); got != r.id {
			t.Errorf("Take of %d from %v is %d", r.id, r.nodes, got)
		}
		stand(t, p, r.want...)
	}
}

// rows calls f with each row of n of the numbers, each once.
func rows(l []int, n int, f func(row []int)) {
	var longer func(row []int)
	longer = func(row []int) {
		if len(row) == n {
			f(row)
			return
		}
		for _, id := range l {
			if !slices.Contains(row, id) {
				longer(append(slices.Clone(row), id))
			}
		}
	}
	longer(nil)
}

func TestAllOrdersOfACrowd(t *testing.T) {
	for n := 1; n <= 4; n++ {
		rows(crowd, n, func(row []int) {
			p, m := made(t, 5)
			for _, id := range row {
				add(t, p, m, id, id)
			}
			hold(t, p, m)
			for _, id := range row {
				c, mc := p.Clone(), m.clone()
				take(t, c, mc, id)
				hold(t, c, mc)
				for _, other := range crowd {
					holdNode(t, c, mc, other)
					take(t, c, mc, other)
				}
				hold(t, c, mc)
			}
		})
	}
}

// neighbours is nodes of 20 bits whose homes are near the end, or near the beginning, of tables up to 2^12 slots.
func neighbours() []int {
	var l []int
	for id := 1; id < 2<<20; id++ {
		if home := Home(12, id); home >= 1<<12-2 || home < 2 {
			l = append(l, id)
		}
	}
	return l
}

func TestLongWays(t *testing.T) {
	near := neighbours()[:300]
	p, m := made(t, 20)
	for _, id := range near {
		add(t, p, m, id, id)
		holdNode(t, p, m, id)
	}
	hold(t, p, m)
	for _, id := range near {
		holdNode(t, p, m, id+1)
	}
	seed := uint64(5)
	for range 2000 {
		seed = next(seed)
		take(t, p, m, near[int(seed>>33)%len(near)])
		seed = next(seed)
		if seed>>40&3 == 0 {
			add(t, p, m, near[int(seed>>33)%len(near)], 1)
		}
		if seed>>50&31 == 0 {
			hold(t, p, m)
		}
	}
	for _, id := range near {
		take(t, p, m, id)
	}
	hold(t, p, m)
}

// P8.1, as P7.1

func TestNew(t *testing.T) {
	for l := 1; l <= 48; l++ {
		p, m := made(t, l)
		hold(t, p, m)
		for _, id := range append([]int{1<<l - 1, 1 << l, 2<<l - 1, 2 << l}, ids...) {
			holdNode(t, p, m, id)
		}
	}
}

func TestNewOfWrongBits(t *testing.T) {
	for _, l := range []int{math.MinInt, -64, -48, -16, -1, 0, 49, 50, 61, 62, 63, 64, 65, 1 << 32, 1<<32 + 1, math.MaxInt} {
		if p, e := New(l); p != nil || e != api.ErrArg {
			t.Errorf("New of %d is %v, %d", l, p, e)
		}
	}
}

func TestNewStoresAreOnTheirOwn(t *testing.T) {
	a, _ := made(t, 3)
	b, m := made(t, 3)
	a.Add(9, 2)
	hold(t, b, m)
}

func TestAllNodesOfAUniverse(t *testing.T) {
	for l := 1; l <= 12; l++ {
		p, _ := made(t, l)
		for id := 2<<l - 1; id >= 1; id-- {
			if e := p.Add(id, 3*id+1); e != api.OK {
				t.Fatalf("Add of %d to a store of %d bits is %d", id, l, e)
			}
		}
		top, total := 2<<l-1, 0
		for id := 1; id <= top; id++ {
			total += 3*id + 1
			if p.Get(id) != 3*id+1 {
				t.Fatalf("Get of %d from a full store of %d bits is %d", id, l, p.Get(id))
			}
		}
		if p.Len() != top || p.Total() != total || p.Get(0) != 0 || p.Get(top+1) != 0 {
			t.Fatalf("a full store of %d bits tells %d, %d, %d, %d", l, p.Len(), p.Total(), p.Get(0), p.Get(top+1))
		}
		for at, n := range p.Snap() {
			if n != (api.Node{Id: at + 1, Count: 3*at + 4}) {
				t.Fatalf("at %d of a full store of %d bits stands %v", at, l, n)
			}
		}
		for id := 1; id <= top; id++ {
			if p.Take(id) != 3*id+1 || p.Len() != top-id || p.Get(id) != 0 {
				t.Fatalf("what is taken from %d of a full store of %d bits is wrong", id, l)
			}
		}
		if p.Total() != 0 || len(p.Snap()) != 0 {
			t.Fatalf("a store of %d bits of which all was taken has %d, %v", l, p.Total(), p.Snap())
		}
	}
}

// P8.1, as P7.2

func TestAddAndTake(t *testing.T) {
	p, m := made(t, 3)
	for _, r := range []struct {
		id, count int
		want      api.Errno
	}{
		{9, 2, api.OK}, {1, 5, api.OK}, {9, 1, api.OK}, {15, 0, api.OK}, {9, 0, api.OK}, {16, 1, api.ErrArg}, {16, 0, api.ErrArg}, {0, 1, api.ErrArg}, {0, 0, api.ErrArg}, {-1, 1, api.ErrArg}, {-9, 1, api.ErrArg},
		{9, -1, api.ErrArg}, {9, -3, api.ErrArg}, {8, -1, api.ErrArg}, {9, math.MinInt, api.ErrArg}, {math.MinInt, math.MinInt, api.ErrArg}, {math.MaxInt, 1, api.ErrArg},
		{16, api.Most + 1, api.ErrArg}, {0, math.MaxInt, api.ErrArg}, {9, api.Most + 1, api.ErrFull}, {9, api.Most, api.ErrFull}, {2, api.Most - 7, api.ErrFull}, {2, math.MaxInt, api.ErrFull}, {9, math.MaxInt - 2, api.ErrFull},
		{2, api.Most - 8, api.OK}, {2, 1, api.ErrFull}, {3, 1, api.ErrFull}, {3, 0, api.OK}, {2, 0, api.OK}, {2, -1, api.ErrArg}, {16, 1, api.ErrArg}, {3, math.MaxInt, api.ErrFull},
	} {
		if got := p.Add(r.id, r.count); got != r.want || m.add(r.id, r.count) != r.want {
			t.Errorf("Add of %d, %d is %d, and should be %d", r.id, r.count, got, r.want)
		}
		hold(t, p, m)
	}
	for _, r := range []struct{ id, want int }{
		{9, 3}, {9, 0}, {15, 0}, {3, 0}, {0, 0}, {-1, 0}, {16, 0}, {1 << 17, 0}, {math.MinInt, 0}, {math.MaxInt, 0}, {2, api.Most - 8}, {1, 5}, {1, 0},
	} {
		if got := p.Take(r.id); got != r.want || m.take(r.id) != r.want {
			t.Errorf("Take of %d is %d, and should be %d", r.id, got, r.want)
		}
		hold(t, p, m)
	}
	add(t, p, m, 7, api.Most)
	hold(t, p, m)
}

func TestOfTwoEdges(t *testing.T) {
	for _, l := range []int{1, 3, 48} {
		for _, one := range ids {
			for _, first := range counts {
				p, m := made(t, l)
				add(t, p, m, one, first)
				hold(t, p, m)
				for _, id := range []int{one, 1, 2, 15, 16, 1<<49 - 1} {
					for _, count := range counts {
						c, mc := p.Clone(), m.clone()
						add(t, c, mc, id, count)
						take(t, c, mc, one)
						hold(t, c, mc)
					}
				}
			}
		}
	}
}

func TestEdgesOneAfterAnother(t *testing.T) {
	for l := 1; l <= 48; l++ {
		p, m := made(t, l)
		for _, id := range ids {
			for _, count := range counts {
				add(t, p, m, id, count)
				hold(t, p, m)
			}
			holdNode(t, p, m, id)
			take(t, p, m, id)
			hold(t, p, m)
		}
		for _, id := range ids {
			add(t, p, m, id, 2)
			holdNode(t, p, m, id)
		}
		hold(t, p, m)
		for _, id := range ids {
			take(t, p, m, id)
			hold(t, p, m)
		}
	}
}

func TestManySteps(t *testing.T) {
	seed := uint64(7)
	for l := 1; l <= 48; l++ {
		p, m := made(t, l)
		for step := range 250 {
			seed = next(seed)
			// A few numbers beside the nodes, below and above them, are among those that are asked for.
			id := int(seed>>33)%(2<<min(l, 5)+4) - 2
			if seed>>20&1 == 1 {
				id += 2<<l - 2<<min(l, 5)
			}
			seed = next(seed)
			count := int(seed>>33)%12 - 2
			if seed>>20&15 == 0 {
				count = api.Most / 3
			}
			if step%3 == 2 {
				take(t, p, m, id)
			} else {
				add(t, p, m, id, count)
			}
			holdNode(t, p, m, id)
			hold(t, p, m)
		}
	}
}

// P8.1, as P7.3

func TestSnap(t *testing.T) {
	for set := range 1 << 7 {
		p, m := made(t, 2)
		for id := 7; id >= 1; id-- {
			if set>>(id-1)&1 == 1 {
				add(t, p, m, id, 10*id)
			}
		}
		hold(t, p, m)
		before := p.Snap()
		answer := p.Snap()
		for _, n := range answer[len(answer):cap(answer)] {
			if n != (api.Node{}) {
				t.Errorf("behind %v stands %v", answer, n)
			}
		}
		for at := range answer {
			answer[at] = api.Node{Id: 99, Count: 99}
		}
		_ = append(answer, api.Node{Id: 98, Count: 98})
		hold(t, p, m)
		p.Add(1, 1)
		if !slices.Equal(before, m.snap()) {
			t.Errorf("what was told has become %v", before)
		}
	}
}

func TestClone(t *testing.T) {
	for l := 1; l <= 48; l++ {
		p, m := made(t, l)
		hold(t, p.Clone(), m)
		for _, id := range []int{1, 2, 3, 1 << l, 2<<l - 1} {
			add(t, p, m, id, id)
		}
		take(t, p, m, 2)
		c := p.Clone()
		if c == p {
			t.Fatal("a clone is the store itself")
		}
		hold(t, c, m)
		hold(t, p, m)
		if e := c.Add(2<<l-1, api.Most); e != api.ErrFull {
			t.Errorf("Add of too much to a clone is %d", e)
		}
		if e := c.Add(2<<l, 1); e != api.ErrArg {
			t.Errorf("Add of no node to a clone is %d", e)
		}
		hold(t, c, m)
	}
}

func TestClonesAreOnTheirOwn(t *testing.T) {
	for _, l := range []int{4, 16, 48} {
		p, m := made(t, l)
		add(t, p, m, 2, 7)
		add(t, p, m, 1<<l, 3)
		c, mc := p.Clone(), m.clone()
		add(t, c, mc, 1, 5)
		take(t, c, mc, 2)
		hold(t, c, mc)
		hold(t, p, m)
		add(t, p, m, 3, 9)
		take(t, p, m, 1<<l)
		hold(t, c, mc)
		hold(t, p, m)
		for id := 5; id < 30; id++ {
			add(t, c, mc, id, id)
		}
		hold(t, c, mc)
		hold(t, p, m)
		again, ma := c.Clone(), mc.clone()
		take(t, c, mc, 1)
		hold(t, again, ma)
		hold(t, c, mc)
	}
}

// P8.4

func TestAsTheArray(t *testing.T) {
	seed := uint64(13)
	for l := 1; l <= 12; l++ {
		p, _ := made(t, l)
		d, _ := dense.New(l)
		for range 600 {
			seed = next(seed)
			id := int(seed>>33)%(2<<l+4) - 2
			seed = next(seed)
			count := int(seed>>33)%40 - 2
			if seed>>20&31 == 0 {
				count = api.Most / 5
			}
			if seed>>40&3 == 0 {
				if got, want := p.Take(id), d.Take(id); got != want {
					t.Fatalf("Take of %d is %d, and of the array's %d", id, got, want)
				}
			} else if got, want := p.Add(id, count), d.Add(id, count); got != want {
				t.Fatalf("Add of %d, %d is %d, and of the array's %d", id, count, got, want)
			}
			if p.L() != d.L() || p.Len() != d.Len() || p.Total() != d.Total() || p.Get(id) != d.Get(id) || !slices.Equal(p.Snap(), d.Snap()) {
				t.Fatalf("%v is told, and of the array %v", p.Snap(), d.Snap())
			}
		}
	}
}

func TestNoWayIsBroken(t *testing.T) {
	near := neighbours()
	p, _ := made(t, 20)
	seed := uint64(17)
	for range 3000 {
		seed = next(seed)
		id := near[int(seed>>33)%200]
		if seed>>20&1 == 0 {
			id = 1 + int(seed>>33)%200
		}
		if seed>>24&3 == 0 {
			p.Take(id)
		} else {
			p.Add(id, 1+int(seed>>50))
		}
		nodes, total := 0, 0
		for i := range p.Size() {
			n := p.Slot(i)
			if n.Id == 0 {
				continue
			}
			nodes, total = nodes+1, total+n.Count
			if n.Count < 1 || p.Get(n.Id) != n.Count {
				t.Fatalf("%v stands where %d is told", n, p.Get(n.Id))
			}
			way := 1
			for at := wantHome(bitsOf(p.Size()), n.Id); at != i; at = (at + 1) % p.Size() {
				way++
				if p.Slot(at).Id == 0 {
					t.Fatalf("the slot %d on the way to %v is empty", at, n)
				}
			}
			if p.Walk(n.Id) != way {
				t.Fatalf("Walk of %d is %d, and should be %d", n.Id, p.Walk(n.Id), way)
			}
		}
		if nodes != p.Len() || total != p.Total() || 2*nodes > p.Size() {
			t.Fatalf("%d nodes of %d in %d slots are told, and should be %d of %d", p.Len(), p.Total(), p.Size(), nodes, total)
		}
	}
}

func bitsOf(size int) int {
	b := 0
	for 1<<b < size {
		b++
	}
	return b
}

// Of nil.

func TestNil(t *testing.T) {
	var p *Probe
	if p.L() != 0 || p.Len() != 0 || p.Total() != 0 || len(p.Snap()) != 0 || p.Clone() != nil || p.Size() != 0 {
		t.Errorf("nil tells %d, %d, %d, %v, %v, %d", p.L(), p.Len(), p.Total(), p.Snap(), p.Clone(), p.Size())
	}
	for _, id := range ids {
		if p.Get(id) != 0 || p.Take(id) != 0 || p.Walk(id) != 0 || p.Slot(id) != (api.Node{}) {
			t.Errorf("nil has %d, %d, %d, %v at %d", p.Get(id), p.Take(id), p.Walk(id), p.Slot(id), id)
		}
		for _, count := range counts {
			if e := p.Add(id, count); e != api.ErrNone {
				t.Errorf("Add of %d, %d to nil is %d", id, count, e)
			}
		}
	}
}
