package rank

import (
	"maps"
	"math"
	"math/bits"
	"slices"
	"testing"

	"dewpond/api"
	"dewpond/bag"
	"dewpond/blend"
	"dewpond/digest"
	"dewpond/recast"
)

// kinds are the kinds of digests.
var kinds = []int{api.Dense, api.Hash}

// odd are numbers that are values of no universe, but for a few large ones.
var odd = []int{math.MinInt, math.MinInt + 1, -1 << 56, -1 << 48, -1<<32 - 1, -1 << 32, -1<<32 + 1, -65536, -48, -2, -1, 1 << 32, 1<<32 + 1, 1<<48 - 1, 1 << 48, 1<<48 + 1, 1<<49 - 1, 1 << 49, api.Most, 1 << 56, 1 << 62, math.MaxInt - 1, math.MaxInt}

// model is what a digest has: a map of nodes, and one of all values that were accepted.
type model struct {
	c        api.Conf
	weights  map[int]int
	accepted map[int]int
}

// eachKind calls f with each kind and each number of bits for which there are digests.
func eachKind(f func(kind, l int)) {
	for l := 1; l <= 48; l++ {
		if l <= 16 {
			f(api.Dense, l)
		}
		f(api.Hash, l)
	}
}

func (m model) total() int {
	sum := 0
	for _, weight := range m.weights {
		sum += weight
	}
	return sum
}

func (m model) nodes() []api.Node {
	var l []api.Node
	for _, id := range slices.Sorted(maps.Keys(m.weights)) {
		l = append(l, api.Node{Id: id, Count: m.weights[id]})
	}
	return l
}

// ends is the first and the last value of a node, gone down to step by step.
func (m model) ends(id int) (first, last int) {
	first, last = id, id
	for first < 1<<m.c.L {
		first, last = 2*first, 2*last+1
	}
	return first - 1<<m.c.L, last - 1<<m.c.L
}

// low is what Low should be.
func (m model) low(x int) int {
	sum := 0
	for id, weight := range m.weights {
		if _, last := m.ends(id); last <= x {
			sum += weight
		}
	}
	return sum
}

// high is what High should be: all but the nodes whose values are all above x.
func (m model) high(x int) int {
	sum := m.total()
	for id, weight := range m.weights {
		if first, _ := m.ends(id); first > x {
			sum -= weight
		}
	}
	return sum
}

// slack is what Slack should be.
func (m model) slack() int {
	sum := 0
	for range m.c.L {
		sum += m.total() / m.c.K
	}
	return sum
}

// steps is what Steps should be: the last values of all nodes, each once.
func (m model) steps() []int {
	var l []int
	for id := range m.weights {
		_, last := m.ends(id)
		l = append(l, last)
	}
	slices.Sort(l)
	return slices.Compact(l)
}

// rank is the rank of x among all that was accepted.
func (m model) rank(x int) int {
	sum := 0
	for v, weight := range m.accepted {
		if v <= x {
			sum += weight
		}
	}
	return sum
}

// numbers are the numbers at which something may change, those beside them, and odd ones.
func (m model) numbers() []int {
	l := append(slices.Clone(odd), 0, 1, 2, 1<<m.c.L-2, 1<<m.c.L-1, 1<<m.c.L, 1<<m.c.L+1)
	for id := range m.weights {
		first, last := m.ends(id)
		middle := first + (last-first)/2
		l = append(l, first-1, first, first+1, middle, middle+1, last-1, last, last+1)
	}
	for x := range m.accepted {
		l = append(l, x-1, x, x+1)
	}
	slices.Sort(l)
	return slices.Compact(l)
}

// loaded is a digest of the nodes that the model has, each of which stands for its first, its last, or a value between, as seed says; nil, if there is none.
func loaded(c api.Conf, weights map[int]int, seed int) (*digest.Digest, model) {
	m := model{c, weights, map[int]int{}}
	for id, weight := range weights {
		for id < 1<<c.L {
			id = 2*id + (seed+bits.Len(uint(id)))%3/2
		}
		m.accepted[id-1<<c.L] += weight
	}
	d, _ := digest.Load(c, m.nodes())
	return d, m
}

// from is a model of a digest of which all is known that was accepted.
func from(d *digest.Digest, accepted map[int]int) model {
	m := model{d.Conf(), map[int]int{}, accepted}
	for _, n := range d.Nodes() {
		m.weights[n.Id] = n.Count
	}
	return m
}

// next is the number behind n in a row of numbers that looks mixed.
func next(n uint64) uint64 { return n*6364136223846793005 + 1442695040888963407 }

// mixed is a digest into which so many values were inserted, often of a few, seldom a heavy one; where there was no room, it was folded.
func mixed(t *testing.T, c api.Conf, many int, seed uint64) (*digest.Digest, model) {
	t.Helper()
	d, e := digest.New(c)
	if e != api.OK {
		t.Fatalf("there is no digest of %v: %d", c, e)
	}
	accepted := map[int]int{}
	for range many {
		seed = next(seed)
		x := int(seed>>15) % (1 << c.L)
		seed = next(seed)
		weight := 1 + int(seed>>33)%3
		switch seed >> 40 % 8 {
		case 0, 1, 2:
			x %= min(64, 1<<c.L)
		case 3:
			x = 1<<c.L - 1 - x%min(16, 1<<c.L)
		case 4:
			weight += int(seed>>20) % 100
		}
		if e := d.Insert(x, weight); e != api.OK {
			t.Fatalf("of %v, Insert of %d, %d is %d", c, x, weight, e)
		}
		accepted[x] += weight
	}
	return d, from(d, accepted)
}

// hold holds all that a digest and its table tell against the model, and the laws; the digest stays.
func hold(t *testing.T, d *digest.Digest, m model) {
	t.Helper()
	before := d.Clone()
	table := Of(d)
	stand(t, table, m)
	if got := Slack(d); got != m.slack() {
		t.Fatalf("Slack of %v with %v is %d, and should be %d", m.c, m.nodes(), got, m.slack())
	}
	lastLow, lastHigh := 0, 0
	for _, x := range m.numbers() {
		low, high, both := Low(d, x), High(d, x), table.Both(x)
		if low != both.Low || high != both.High {
			t.Fatalf("of %v with %v, Low(%d) is %d, High %d, and of the table %v", m.c, m.nodes(), x, low, high, both)
		}
		if low < lastLow || high < lastHigh || low > high || high > low+Slack(d) {
			t.Fatalf("of %v with %v, Low(%d) is %d, High %d, and ahead of that %d and %d", m.c, m.nodes(), x, low, high, lastLow, lastHigh)
		}
		if x < 0 && high != 0 || x >= 1<<m.c.L-1 && low != d.N() {
			t.Fatalf("of %v with %v, Low(%d) is %d, High %d", m.c, m.nodes(), x, low, high)
		}
		if rank := m.rank(x); low > rank || high < rank {
			t.Fatalf("of %v with %v, the rank of %d is %d, Low %d, High %d", m.c, m.nodes(), x, rank, low, high)
		}
		lastLow, lastHigh = low, high
	}
	if !digest.Same(d, before) || d.Conf() != before.Conf() {
		t.Fatalf("%v turns to %v", before.Nodes(), d.Nodes())
	}
}

// stand holds what a table tells against the model.
func stand(t *testing.T, table *Table, m model) {
	t.Helper()
	if table == nil {
		t.Fatalf("of %v with %v there is no table", m.c, m.nodes())
	}
	if table.N() != m.total() {
		t.Fatalf("N of %v with %v is %d", m.c, m.nodes(), table.N())
	}
	steps := m.steps()
	if got := table.Steps(); !slices.Equal(got, steps) {
		t.Fatalf("Steps of %v with %v is %v, and should be %v", m.c, m.nodes(), got, steps)
	}
	for _, x := range m.numbers() {
		want := api.Both{Low: m.low(x), High: m.high(x)}
		if low, high, both := table.Low(x), table.High(x), table.Both(x); low != want.Low || high != want.High || both != want {
			t.Fatalf("of %v with %v, Low(%d) of the table is %d, High %d, Both %v, and should be %v", m.c, m.nodes(), x, low, high, both, want)
		}
		_, is := slices.BinarySearch(steps, x)
		if rises := x > math.MinInt && table.Low(x) > table.Low(x-1); rises != is {
			t.Fatalf("of %v with %v, %d is held to be a step, %v, of %v", m.c, m.nodes(), x, is, steps)
		}
	}
}

// all calls f with a digest of each set of nodes of l bits that there is for a k up to the greatest one.
func all(kind, l, greatest int, f func(d *digest.Digest, m model)) {
	for set := range 1 << (2<<l - 1) {
		weights := map[int]int{}
		for id := 1; id < 2<<l; id++ {
			if set>>(id-1)&1 == 1 {
				weights[id] = 1 + (id+set)%3
			}
		}
		for k := 1; k <= greatest; k++ {
			if d, m := loaded(api.Conf{L: l, K: k, Kind: kind}, weights, set); d != nil {
				f(d, m)
			}
		}
	}
}

// sizes are numbers of values for some k: fewer than there is room for, just as many, and more.
func sizes(k int) []int { return []int{0, 1, k, 4 * k, 8 * k, 30 * k} }

// small is the digest of the chapter's example.
func small(t *testing.T, kind int) *digest.Digest {
	t.Helper()
	d, e := digest.Load(api.Conf{L: 2, K: 1, Kind: kind}, []api.Node{{Id: 1, Count: 1}, {Id: 4, Count: 2}, {Id: 7, Count: 3}})
	if e != api.OK {
		t.Fatal(e)
	}
	return d
}

// The chapter's example.

func TestExample(t *testing.T) {
	for _, kind := range kinds {
		d := small(t, kind)
		if Low(d, 0) != 2 || High(d, 0) != 3 || Low(d, 2) != 2 || Low(d, 3) != 6 {
			t.Error(Low(d, 0), High(d, 0), Low(d, 2), Low(d, 3))
		}
	}
}

// P16.1

func TestLowAndHigh(t *testing.T) {
	for _, kind := range kinds {
		for _, r := range []struct {
			l, k      int
			nodes     []api.Node
			x         int
			low, high int
		}{
			{2, 1, nil, 0, 0, 0}, {2, 1, nil, 3, 0, 0}, {16, 5, nil, math.MaxInt, 0, 0}, {1, 1, nil, math.MinInt, 0, 0},
			{2, 1, []api.Node{{Id: 1, Count: 1}, {Id: 4, Count: 2}, {Id: 7, Count: 3}}, -1, 0, 0},
			{2, 1, []api.Node{{Id: 1, Count: 1}, {Id: 4, Count: 2}, {Id: 7, Count: 3}}, 0, 2, 3},
			{2, 1, []api.Node{{Id: 1, Count: 1}, {Id: 4, Count: 2}, {Id: 7, Count: 3}}, 1, 2, 3},
			{2, 1, []api.Node{{Id: 1, Count: 1}, {Id: 4, Count: 2}, {Id: 7, Count: 3}}, 2, 2, 3},
			{2, 1, []api.Node{{Id: 1, Count: 1}, {Id: 4, Count: 2}, {Id: 7, Count: 3}}, 3, 6, 6},
			{2, 1, []api.Node{{Id: 1, Count: 1}, {Id: 4, Count: 2}, {Id: 7, Count: 3}}, 4, 6, 6},
			{2, 1, []api.Node{{Id: 1, Count: 1}, {Id: 4, Count: 2}, {Id: 7, Count: 3}}, math.MaxInt, 6, 6},
			{2, 1, []api.Node{{Id: 1, Count: 1}, {Id: 4, Count: 2}, {Id: 7, Count: 3}}, math.MinInt, 0, 0},
			{2, 1, []api.Node{{Id: 2, Count: 4}, {Id: 3, Count: 5}}, 0, 0, 4},
			{2, 1, []api.Node{{Id: 2, Count: 4}, {Id: 3, Count: 5}}, 1, 4, 4},
			{2, 1, []api.Node{{Id: 2, Count: 4}, {Id: 3, Count: 5}}, 2, 4, 9},
			{2, 1, []api.Node{{Id: 2, Count: 4}, {Id: 3, Count: 5}}, 3, 9, 9},
			{1, 1, []api.Node{{Id: 1, Count: api.Most}}, 0, 0, api.Most},
			{1, 1, []api.Node{{Id: 1, Count: api.Most}}, 1, api.Most, api.Most},
			{1, 1, []api.Node{{Id: 2, Count: api.Most - 1}, {Id: 3, Count: 1}}, 0, api.Most - 1, api.Most - 1},
			{16, 1, []api.Node{{Id: 1, Count: 8}, {Id: 2, Count: 4}, {Id: 5, Count: 2}, {Id: 1 << 16, Count: 1}}, 0, 1, 13},
			{16, 1, []api.Node{{Id: 1, Count: 8}, {Id: 2, Count: 4}, {Id: 5, Count: 2}, {Id: 1 << 16, Count: 1}}, 1<<14 - 1, 1, 13},
			{16, 1, []api.Node{{Id: 1, Count: 8}, {Id: 2, Count: 4}, {Id: 5, Count: 2}, {Id: 1 << 16, Count: 1}}, 1 << 14, 1, 15},
			{16, 1, []api.Node{{Id: 1, Count: 8}, {Id: 2, Count: 4}, {Id: 5, Count: 2}, {Id: 1 << 16, Count: 1}}, 1<<15 - 2, 1, 15},
			{16, 1, []api.Node{{Id: 1, Count: 8}, {Id: 2, Count: 4}, {Id: 5, Count: 2}, {Id: 1 << 16, Count: 1}}, 1<<15 - 1, 7, 15},
			{16, 1, []api.Node{{Id: 1, Count: 8}, {Id: 2, Count: 4}, {Id: 5, Count: 2}, {Id: 1 << 16, Count: 1}}, 1<<16 - 2, 7, 15},
			{16, 1, []api.Node{{Id: 1, Count: 8}, {Id: 2, Count: 4}, {Id: 5, Count: 2}, {Id: 1 << 16, Count: 1}}, 1<<16 - 1, 15, 15},
		} {
			c := api.Conf{L: r.l, K: r.k, Kind: kind}
			d, e := digest.Load(c, r.nodes)
			if e != api.OK {
				t.Fatalf("there is no digest of %v with %v", c, r.nodes)
			}
			if low, high := Low(d, r.x), High(d, r.x); low != r.low || high != r.high {
				t.Errorf("of %v with %v, Low(%d) is %d, High %d", c, r.nodes, r.x, low, high)
			}
			if both := Of(d).Both(r.x); both != (api.Both{Low: r.low, High: r.high}) {
				t.Errorf("of %v with %v, Both(%d) is %v", c, r.nodes, r.x, both)
			}
		}
	}
}

func TestWideUniverses(t *testing.T) {
	d, e := digest.Load(api.Conf{L: 48, K: 1, Kind: api.Hash}, []api.Node{{Id: 3, Count: 5}, {Id: 1 << 47, Count: 3}, {Id: 1 << 48, Count: 2}, {Id: 1<<49 - 1, Count: 7}})
	if e != api.OK {
		t.Fatal(e)
	}
	table := Of(d)
	for _, r := range [][3]int{{-1, 0, 0}, {0, 2, 5}, {1, 5, 5}, {2, 5, 5}, {1<<47 - 1, 5, 5}, {1 << 47, 5, 10}, {1<<48 - 2, 5, 10}, {1<<48 - 1, 17, 17}, {1 << 48, 17, 17}} {
		want := api.Both{Low: r[1], High: r[2]}
		if got := (api.Both{Low: Low(d, r[0]), High: High(d, r[0])}); got != want || table.Both(r[0]) != want {
			t.Errorf("of %d it is %v, and of the table %v", r[0], got, table.Both(r[0]))
		}
	}
	if steps := table.Steps(); !slices.Equal(steps, []int{0, 1, 1<<48 - 1}) {
		t.Error(steps)
	}
}

// P16.2

func TestSlack(t *testing.T) {
	for _, r := range []struct{ l, k, weight, want int }{
		{1, 1, 0, 0}, {1, 1, 1, 1}, {4, 1, 160, 640}, {4, 7, 160, 88}, {16, 3, 2, 0}, {16, 3, 3, 16}, {16, 3, 5, 16}, {16, 3, 6, 32},
		{1, 1, api.Most, api.Most}, {2, 1, api.Most, 2 * api.Most}, {16, 1, api.Most, 16 * api.Most}, {16, 2, api.Most, 16 * (api.Most / 2)},
		{48, 1, api.Most, 48 * api.Most}, {48, 2, api.Most, 48 * (api.Most / 2)}, {48, 3, api.Most, 48 * (api.Most / 3)},
		{48, api.MaxK, api.Most, 48 * (1<<36 - 1)}, {48, api.MaxK, api.MaxK, 48}, {48, api.MaxK, api.MaxK - 1, 0}, {48, api.MaxK - 1, api.MaxK, 48},
	} {
		for _, kind := range kinds {
			if kind == api.Dense && r.l > 16 {
				continue
			}
			d, e := digest.New(api.Conf{L: r.l, K: r.k, Kind: kind})
			if e != api.OK {
				t.Fatal(e)
			}
			if r.weight > 0 {
				d.Insert(1, r.weight)
			}
			if got := Slack(d); got != r.want {
				t.Errorf("Slack of %v with %d is %d, and should be %d", d.Conf(), r.weight, got, r.want)
			}
		}
	}
}

// P16.3

func TestTable(t *testing.T) {
	for _, kind := range kinds {
		table := Of(small(t, kind))
		if table.N() != 6 {
			t.Error(table.N())
		}
		for x, want := range []api.Both{{Low: 2, High: 3}, {Low: 2, High: 3}, {Low: 2, High: 3}, {Low: 6, High: 6}, {Low: 6, High: 6}} {
			if table.Low(x) != want.Low || table.High(x) != want.High || table.Both(x) != want {
				t.Errorf("of %d it is %d, %d, %v", x, table.Low(x), table.High(x), table.Both(x))
			}
		}
	}
}

func TestTableOfNoNodes(t *testing.T) {
	eachKind(func(kind, l int) {
		for _, k := range []int{1, 77, api.MaxK} {
			d, e := digest.New(api.Conf{L: l, K: k, Kind: kind})
			if e != api.OK {
				t.Fatal(e)
			}
			hold(t, d, from(d, nil))
			d.Insert(0, 3)
			d.Reset()
			hold(t, d, from(d, nil))
			if Slack(d) != 0 || len(Of(d).Steps()) != 0 {
				t.Error(Slack(d), Of(d).Steps())
			}
		}
	})
}

// A table tells of the digest as it was, whatever becomes of that one.
func TestTableIsOnItsOwn(t *testing.T) {
	eachKind(func(kind, l int) {
		d, m := mixed(t, api.Conf{L: l, K: 2, Kind: kind}, 20, uint64(l))
		table := Of(d)
		accepted := maps.Clone(m.accepted)
		for _, x := range []int{0, 1, 1<<l - 1, 0} {
			if e := d.Insert(x, 50); e != api.OK {
				t.Fatal(e)
			}
			accepted[x] += 50
			stand(t, table, m)
		}
		d.Compress()
		stand(t, table, m)
		n := from(d, accepted)
		other := Of(d)
		stand(t, other, n)
		d.Reset()
		stand(t, table, m)
		stand(t, other, n)
		hold(t, d, from(d, nil))
	})
}

// P16.4

func TestSteps(t *testing.T) {
	for _, kind := range kinds {
		for _, r := range []struct {
			l     int
			nodes []api.Node
			want  []int
		}{
			{1, nil, nil}, {16, nil, nil},
			{1, []api.Node{{Id: 2, Count: 1}}, []int{0}},
			{1, []api.Node{{Id: 3, Count: 1}}, []int{1}},
			{1, []api.Node{{Id: 1, Count: 1}}, []int{1}},
			{1, []api.Node{{Id: 1, Count: 1}, {Id: 2, Count: 1}, {Id: 3, Count: 1}}, []int{0, 1}},
			{2, []api.Node{{Id: 1, Count: 1}, {Id: 4, Count: 2}, {Id: 7, Count: 3}}, []int{0, 3}},
			{2, []api.Node{{Id: 1, Count: 1}, {Id: 2, Count: 1}, {Id: 3, Count: 1}, {Id: 5, Count: 1}, {Id: 7, Count: 1}}, []int{1, 3}},
			{3, []api.Node{{Id: 2, Count: 1}, {Id: 3, Count: 1}, {Id: 6, Count: 1}, {Id: 9, Count: 1}, {Id: 12, Count: 1}}, []int{1, 3, 4, 5, 7}},
			{16, []api.Node{{Id: 1, Count: 1}, {Id: 2, Count: 1}, {Id: 1 << 16, Count: 1}}, []int{0, 1<<15 - 1, 1<<16 - 1}},
		} {
			d, e := digest.Load(api.Conf{L: r.l, K: 1, Kind: kind}, r.nodes)
			if e != api.OK {
				t.Fatal(e)
			}
			if got := Of(d).Steps(); !slices.Equal(got, r.want) {
				t.Errorf("Steps of %d bits with %v is %v, and should be %v", r.l, r.nodes, got, r.want)
			}
		}
	}
}

// Steps are new memory each time, and what is behind them belongs to nobody.
func TestStepsShareNoMemory(t *testing.T) {
	for _, kind := range kinds {
		d, m := mixed(t, api.Conf{L: 10, K: 2, Kind: kind}, 15, 3)
		table := Of(d)
		one, other := table.Steps(), table.Steps()
		for at := range one {
			one[at] = -7
		}
		for at := range one[:cap(one)] {
			one[:cap(one)][at] = -7
		}
		_ = append(one[:1], -8, -9)
		if !slices.Equal(other, m.steps()) {
			t.Errorf("Steps turn to %v", other)
		}
		stand(t, table, m)
		hold(t, d, m)
	}
}

// Nil.

func TestNil(t *testing.T) {
	if table := Of(nil); table != nil {
		t.Errorf("Of nil is %v", table)
	}
	if n := Slack(nil); n != 0 {
		t.Errorf("Slack of nil is %d", n)
	}
	var none *Table
	if none.N() != 0 || len(none.Steps()) != 0 {
		t.Errorf("N of nil is %d, Steps %v", none.N(), none.Steps())
	}
	for _, x := range append([]int{0, 1, 2, 3, 65535, 65536}, odd...) {
		if low, high := Low(nil, x), High(nil, x); low != 0 || high != 0 {
			t.Errorf("Low(%d) of nil is %d, High %d", x, low, high)
		}
		if low, high, both := none.Low(x), none.High(x), none.Both(x); low != 0 || high != 0 || both != (api.Both{}) {
			t.Errorf("of %d, Low of a nil table is %d, High %d, Both %v", x, low, high, both)
		}
	}
}

// All calls.

func TestAllSetsOfNodes(t *testing.T) {
	for _, kind := range kinds {
		many := 0
		for l := 1; l <= 2; l++ {
			all(kind, l, 3, func(d *digest.Digest, m model) {
				many++
				hold(t, d, m)
			})
		}
		if many < 1<<7 {
			t.Errorf("there are %d digests", many)
		}
	}
	all(api.Hash, 3, 2, func(d *digest.Digest, m model) {
		table := Of(d)
		for x := -1; x <= 8; x++ {
			want := api.Both{Low: m.low(x), High: m.high(x)}
			if table.Both(x) != want || Low(d, x) != want.Low || High(d, x) != want.High {
				t.Fatalf("of %v with %v, of %d it is %v, and should be %v", m.c, m.nodes(), x, table.Both(x), want)
			}
		}
		if !slices.Equal(table.Steps(), m.steps()) {
			t.Fatalf("Steps of %v is %v", m.nodes(), table.Steps())
		}
	})
}

func TestMixedDigests(t *testing.T) {
	eachKind(func(kind, l int) {
		for _, k := range []int{1, 3} {
			for _, many := range sizes(k) {
				d, m := mixed(t, api.Conf{L: l, K: k, Kind: kind}, many, uint64(100*l+k+many))
				hold(t, d, m)
				d.Compress()
				hold(t, d, from(d, m.accepted))
			}
		}
	})
}

func TestHeavyDigests(t *testing.T) {
	eachKind(func(kind, l int) {
		for _, k := range []int{1, 2, 1000, api.MaxK} {
			for _, r := range [][4]int{{0, api.Most, 0, 0}, {1<<l - 1, api.Most, 0, 0}, {0, api.Most - 1, 1<<l - 1, 1}, {0, 1, 1<<l - 1, api.Most - 1}, {1, api.Most / 2, 0, api.Most/2 + 1}} {
				d, e := digest.New(api.Conf{L: l, K: k, Kind: kind})
				if e != api.OK {
					t.Fatal(e)
				}
				accepted := map[int]int{}
				for at := 0; at < 4; at += 2 {
					if d.Insert(r[at], r[at+1]) == api.OK {
						accepted[r[at]] += r[at+1]
					}
				}
				if d.N() != api.Most {
					t.Fatalf("N is %d", d.N())
				}
				hold(t, d, from(d, accepted))
				d.Compress()
				hold(t, d, from(d, accepted))
			}
		}
	})
}

func TestGreatestSlack(t *testing.T) {
	// All that weighs lies at nodes which hold both 0 and values above it: High and Low are as far apart as they may be.
	for l := 1; l <= 48; l++ {
		weights := map[int]int{}
		for depth := range l {
			weights[1<<depth] = 5
		}
		weights[1<<l] = 3
		d, m := loaded(api.Conf{L: l, K: l, Kind: api.Hash}, weights, 0)
		if d == nil {
			t.Fatalf("there is no digest of %d bits with %v", l, weights)
		}
		hold(t, d, m)
		if Low(d, 0) != 3 || High(d, 0) != 5*l+3 || Slack(d) != l*((5*l+3)/l) {
			t.Errorf("of %d bits, Low is %d, High %d, Slack %d", l, Low(d, 0), High(d, 0), Slack(d))
		}
	}
}

// P16.5, P16.6

// Each one's values, coarsened by some bits.
func coarsened(accepted map[int]int, by int) map[int]int {
	l := map[int]int{}
	for x, weight := range accepted {
		l[x>>by] += weight
	}
	return l
}

// together is all that two have.
func together(a, b map[int]int) map[int]int {
	l := maps.Clone(a)
	for x, weight := range b {
		l[x] += weight
	}
	return l
}

func TestRanksOfWhatIsMade(t *testing.T) {
	eachKind(func(kind, l int) {
		for _, k := range []int{1, 4} {
			a, m := mixed(t, api.Conf{L: l, K: k, Kind: kind}, 12*k, uint64(l+k))
			b, n := mixed(t, api.Conf{L: l, K: k + 1, Kind: api.Hash}, 30*k, uint64(7*l+k))
			both := together(m.accepted, n.accepted)
			merged, e := blend.Merge(a, b)
			if e != api.OK {
				t.Fatal(e)
			}
			hold(t, merged, from(merged, both))
			merged, e = blend.All(b, a, merged, b)
			if e != api.OK {
				t.Fatal(e)
			}
			both = together(together(both, both), n.accepted)
			hold(t, merged, from(merged, both))
			low, e := blend.Lower(b, 1)
			if e != api.OK {
				t.Fatal(e)
			}
			hold(t, low, from(low, n.accepted))
			big, e := recast.Grow(b, 48)
			if e != api.OK {
				t.Fatal(e)
			}
			hold(t, big, from(big, n.accepted))
			for _, by := range []int{0, 1, l / 2, l - 1} {
				if by >= l {
					continue
				}
				coarse, e := recast.Coarsen(merged, by)
				if e != api.OK {
					t.Fatal(e)
				}
				hold(t, coarse, from(coarse, coarsened(both, by)))
				coarse.Compress()
				hold(t, coarse, from(coarse, coarsened(both, by)))
			}
		}
	})
}

// Of leaves alone, both are the rank in a bag.
func TestLeavesTellTheRank(t *testing.T) {
	eachKind(func(kind, l int) {
		b, e := bag.New(l)
		if e != api.OK {
			t.Fatal(e)
		}
		d, e := digest.New(api.Conf{L: l, K: 5, Kind: kind})
		if e != api.OK {
			t.Fatal(e)
		}
		seed := uint64(l)
		for range 39 {
			seed = next(seed)
			x, weight := int(seed>>15)%(1<<l), 1+int(seed>>40)%9
			if d.Insert(x, weight) != api.OK || b.Add(x, weight) != api.OK {
				t.Fatalf("%d, %d isn't taken", x, weight)
			}
		}
		table := Of(d)
		var steps []int
		for _, r := range b.Items() {
			steps = append(steps, r.Value)
			for _, x := range []int{r.Value - 1, r.Value, r.Value + 1} {
				if rank := b.Rank(x); Low(d, x) != rank || High(d, x) != rank || table.Both(x) != (api.Both{Low: rank, High: rank}) {
					t.Errorf("of %d bits, the rank of %d is %d, and it is %v", l, x, rank, table.Both(x))
				}
			}
		}
		if !slices.Equal(table.Steps(), steps) {
			t.Errorf("Steps is %v, and should be %v", table.Steps(), steps)
		}
	})
}

func TestBothKindsTellTheSame(t *testing.T) {
	for l := 1; l <= 16; l++ {
		for many := range 40 {
			a, m := mixed(t, api.Conf{L: l, K: 3, Kind: api.Dense}, many, uint64(100*l+many))
			b, n := mixed(t, api.Conf{L: l, K: 3, Kind: api.Hash}, many, uint64(100*l+many))
			if !maps.Equal(m.weights, n.weights) || Slack(a) != Slack(b) {
				t.Fatalf("%v with Slack %d, and of the other kind %v with %d", m.nodes(), Slack(a), n.nodes(), Slack(b))
			}
			one, other := Of(a), Of(b)
			if one.N() != other.N() || !slices.Equal(one.Steps(), other.Steps()) {
				t.Fatalf("%v, and of the other kind %v", one.Steps(), other.Steps())
			}
			for _, x := range m.numbers() {
				if one.Both(x) != other.Both(x) || Low(a, x) != Low(b, x) || High(a, x) != High(b, x) {
					t.Fatalf("of %d it is %v, and of the other kind %v", x, one.Both(x), other.Both(x))
				}
			}
		}
	}
}

// A digest of a great many nodes.
func TestManyNodes(t *testing.T) {
	for _, c := range []api.Conf{{L: 48, K: 3000, Kind: api.Hash}, {L: 16, K: 3000, Kind: api.Dense}} {
		d, m := mixed(t, c, 60000, 1)
		table := Of(d)
		if !slices.Equal(table.Steps(), m.steps()) || table.N() != d.N() {
			t.Errorf("of %v, there are %d steps, and %d in all", c, len(table.Steps()), table.N())
		}
		seed := uint64(5)
		for range 300 {
			seed = next(seed)
			x := int(seed>>15) % (1 << c.L)
			if seed>>40%2 == 0 {
				x %= 100
			}
			want, rank := api.Both{Low: m.low(x), High: m.high(x)}, m.rank(x)
			if table.Both(x) != want || Low(d, x) != want.Low || High(d, x) != want.High {
				t.Fatalf("of %v, of %d it is %v, and should be %v", c, x, table.Both(x), want)
			}
			if rank < want.Low || rank > want.High || want.High > want.Low+Slack(d) {
				t.Fatalf("of %v, the rank of %d is %d, and it is %v, with Slack %d", c, x, rank, want, Slack(d))
			}
		}
	}
}
