package digest

import (
	"maps"
	"math"
	"math/bits"
	"reflect"
	"slices"
	"strconv"
	"testing"

	"dewpond/api"
	"dewpond/pool"
	"dewpond/press"
)

// kinds are the kinds of pools.
var kinds = []int{api.Dense, api.Hash}

// notKinds are numbers that are no kind.
var notKinds = []int{math.MinInt, -2, -1, 0, 3, 4, 1<<32 + 1, 1<<32 + 2, math.MaxInt}

// notBits are numbers of bits of which there is no universe.
var notBits = []int{math.MinInt, -3, -1, 0, 49, 50, 64, 65, 1<<32 + 3, math.MaxInt}

// notK are numbers that are no k.
var notK = []int{math.MinInt, -api.MaxK, -1, 0, api.MaxK + 1, api.MaxK + 2, 1<<32 + 1, math.MaxInt}

// model is what a digest should be: a map of nodes, and one of all values that were accepted.
type model struct {
	c        api.Conf
	weights  map[int]int
	accepted map[int]int
}

// each calls f with each kind and each number of bits for which there are pools.
func each(f func(kind, l int)) {
	for l := 1; l <= 48; l++ {
		if l <= 16 {
			f(api.Dense, l)
		}
		f(api.Hash, l)
	}
}

func (m model) total() int {
	sum := 0
	for _, weight := range m.weights {
		sum += weight
	}
	return sum
}

func (m model) nodes() []api.Node {
	var l []api.Node
	for _, id := range slices.Sorted(maps.Keys(m.weights)) {
		l = append(l, api.Node{Id: id, Count: m.weights[id]})
	}
	return l
}

func (m model) clone() model {
	return model{m.c, maps.Clone(m.weights), maps.Clone(m.accepted)}
}

// before tells whether a is folded ahead of b, of nodes as binary digits: the longer ones first, then those that come first.
func before(a, b int) bool {
	x, y := strconv.FormatInt(int64(a), 2), strconv.FormatInt(int64(b), 2)
	return len(x) > len(y) || len(x) == len(y) && x < y
}

// first is the first parent that is ready; 0, if none is.
func (m model) first() int {
	first, most := 0, m.total()/m.c.K
	for id := range m.weights {
		parent := id / 2
		if id > 1 && m.weights[2*parent]+m.weights[2*parent+1]+m.weights[parent] <= most && (first == 0 || before(parent, first)) {
			first = parent
		}
	}
	return first
}

// compress folds as far as it may be, and is how many folds there were: each time all parents are looked at anew.
func (m model) compress() int {
	folds := 0
	for parent := m.first(); parent != 0; parent = m.first() {
		m.weights[parent] += m.weights[2*parent] + m.weights[2*parent+1]
		delete(m.weights, 2*parent)
		delete(m.weights, 2*parent+1)
		folds++
	}
	return folds
}

// light tells whether nothing but leaves weighs more than the cap.
func (m model) light() bool {
	for id, weight := range m.weights {
		if id < 1<<m.c.L && weight > m.total()/m.c.K {
			return false
		}
	}
	return true
}

// insert is what Insert should do.
func (m model) insert(x, weight int) api.Errno {
	switch {
	case x < 0 || x > 1<<m.c.L-1:
		return api.ErrRange
	case weight < 1:
		return api.ErrZero
	case weight > 1<<56-1-m.total():
		return api.ErrFull
	}
	leaf := 1<<m.c.L + x
	if m.weights[leaf] == 0 && len(m.weights) == 8*m.c.K {
		m.compress()
	}
	m.weights[leaf] += weight
	m.accepted[x] += weight
	return api.OK
}

// empty is a digest without nodes.
func empty(t *testing.T, c api.Conf) (*Digest, model) {
	t.Helper()
	d, e := New(c)
	if e != api.OK || d == nil {
		t.Fatalf("there is no digest of %v: %d", c, e)
	}
	return d, model{c, map[int]int{}, map[int]int{}}
}

// loaded is a digest of nodes and their weights, one and the other in turn, which stand for the first values that they hold.
func loaded(t *testing.T, c api.Conf, numbers ...int) (*Digest, model) {
	t.Helper()
	m := model{c, map[int]int{}, map[int]int{}}
	for at := 0; at < len(numbers); at += 2 {
		m.weights[numbers[at]] += numbers[at+1]
		leaf := numbers[at]
		for leaf < 1<<c.L {
			leaf *= 2
		}
		m.accepted[leaf-1<<c.L] += numbers[at+1]
	}
	d, e := Load(c, m.nodes())
	if e != api.OK || d == nil {
		t.Fatalf("there is no digest of %v and %v: %d", c, numbers, e)
	}
	return d, m
}

// put inserts into both.
func put(t *testing.T, d *Digest, m model, x, weight int) {
	t.Helper()
	was := m.nodes()
	if got, want := d.Insert(x, weight), m.insert(x, weight); got != want {
		t.Fatalf("of %v with %v, Insert of %d, %d is %d, and should be %d", m.c, was, x, weight, got, want)
	}
}

// squeeze compresses both.
func squeeze(t *testing.T, d *Digest, m model) {
	t.Helper()
	was := m.nodes()
	if got, want := d.Compress(), m.compress(); got != want {
		t.Fatalf("of %v with %v, Compress is %d, and should be %d", m.c, was, got, want)
	}
}

// next is the number behind n in a row of numbers that looks mixed.
func next(n uint64) uint64 { return n*6364136223846793005 + 1442695040888963407 }

// drop is a value and its weight, often one of a few values, seldom a heavy one.
func drop(l int, seed *uint64) (x, weight int) {
	*seed = next(*seed)
	x = int(*seed>>15) % (1 << l)
	*seed = next(*seed)
	weight = 1 + int(*seed>>33)%3
	switch *seed >> 40 % 8 {
	case 0, 1, 2:
		x %= min(64, 1<<l)
	case 3:
		x = 1<<l - 1 - x%min(16, 1<<l)
	case 4:
		weight += int(*seed>>20) % 100
	}
	return x, weight
}

// hold holds all that a digest has against what it should.
func hold(t *testing.T, d *Digest, m model) {
	t.Helper()
	nodes, total := m.nodes(), m.total()
	if got := d.Nodes(); !slices.Equal(got, nodes) || d.Conf() != m.c {
		t.Fatalf("the digest is of %v and %v, and should be of %v and %v", d.Conf(), got, m.c, nodes)
	}
	if d.N() != total || d.Len() != len(nodes) || d.Cap() != total/m.c.K || d.Room() != 8*m.c.K {
		t.Fatalf("of %v with %v, N is %d, Len %d, Cap %d, Room %d", m.c, nodes, d.N(), d.Len(), d.Cap(), d.Room())
	}
	if d.Len() > d.Room() || !m.light() {
		t.Fatalf("%v with %v is too large, or not light", m.c, nodes)
	}
}

// stand holds what the nodes weigh against all that was accepted.
func stand(t *testing.T, d *Digest, m model) {
	t.Helper()
	holds, has, there := map[int]int{}, map[int]int{}, map[int]int{}
	for x, weight := range m.accepted {
		for id := 1<<m.c.L + x; id > 0; id /= 2 {
			holds[id] += weight
		}
	}
	for _, n := range d.Nodes() {
		there[n.Id] = n.Count
		for id := n.Id; id > 0; id /= 2 {
			has[id] += n.Count
			holds[id] += 0
		}
	}
	if d.N() != holds[1] {
		t.Fatalf("N is %d, and %d was accepted", d.N(), holds[1])
	}
	for id, weight := range holds {
		above := 0
		for up := id / 2; up > 0; up /= 2 {
			above += there[up]
		}
		if has[id] > weight || has[id]+above < weight {
			t.Fatalf("of %v, %d holds %d, and has %d, and %d above it", m.c, id, weight, has[id], above)
		}
	}
}

// tight holds a digest that was compressed against what is promised of it.
func tight(t *testing.T, d *Digest, m model) {
	t.Helper()
	p, e := pool.Load(m.c.Kind, m.c.L, d.Nodes())
	if e != api.OK || m.first() != 0 || !press.Tight(p, m.c.K) || !press.Light(p, m.c.K) || d.Len() > 4*m.c.K-1 {
		t.Fatalf("compressed, %v is %v", m.c, d.Nodes())
	}
	was := d.Clone()
	if n := d.Compress(); n != 0 || !Same(d, was) {
		t.Fatalf("compressed once more, there are %d folds, and %v is %v", n, was.Nodes(), d.Nodes())
	}
}

// The chapter's example.

func TestExample(t *testing.T) {
	for _, kind := range kinds {
		d, e := New(api.Conf{L: 3, K: 1, Kind: kind})
		if e != api.OK || d.Room() != 8 {
			t.Fatal(e)
		}
		for x := range 8 {
			if e := d.Insert(x, 1); e != api.OK {
				t.Fatal(x, e)
			}
		}
		if d.Len() != 8 || d.N() != 8 {
			t.Fatal(d.Nodes())
		}
		if e := d.Insert(0, 1); e != api.OK || d.N() != 9 || d.Len() != 8 {
			t.Fatal(e, d.Nodes())
		}
		if n := d.Compress(); n != 7 || !slices.Equal(d.Nodes(), []api.Node{{Id: 1, Count: 9}}) {
			t.Fatal(n, d.Nodes())
		}
	}
}

// P13.1

func TestNew(t *testing.T) {
	each(func(kind, l int) {
		for _, k := range []int{1, 2, 3, 100, api.MaxK - 1, api.MaxK} {
			d, m := empty(t, api.Conf{L: l, K: k, Kind: kind})
			hold(t, d, m)
			if n := d.Compress(); n != 0 {
				t.Errorf("without nodes, there are %d folds", n)
			}
			hold(t, d, m)
		}
	})
}

// wrongConfs are confs of which there is no digest.
func wrongConfs() []api.Conf {
	var wrong []api.Conf
	for _, k := range append([]int{1, api.MaxK}, notK...) {
		for _, l := range append([]int{1, 3, 16, 48}, notBits...) {
			for _, kind := range notKinds {
				wrong = append(wrong, api.Conf{L: l, K: k, Kind: kind})
			}
		}
		for _, kind := range kinds {
			for _, l := range notBits {
				wrong = append(wrong, api.Conf{L: l, K: k, Kind: kind})
			}
		}
		for l := 17; l <= 48; l++ {
			wrong = append(wrong, api.Conf{L: l, K: k, Kind: api.Dense})
		}
	}
	for _, k := range notK {
		each(func(kind, l int) { wrong = append(wrong, api.Conf{L: l, K: k, Kind: kind}) })
	}
	return wrong
}

func TestWrongConfs(t *testing.T) {
	for _, c := range wrongConfs() {
		if d, e := New(c); d != nil || e != api.ErrArg {
			t.Errorf("New of %v is %v, %d", c, d, e)
		}
		for _, r := range [][]api.Node{nil, {{Id: 1, Count: 1}}, {{Id: 0, Count: 1}}, make([]api.Node, 9)} {
			if d, e := Load(c, r); d != nil || e != api.ErrArg {
				t.Errorf("Load of %v, %v is %v, %d", c, r, d, e)
			}
		}
	}
}

func TestCapAndRoom(t *testing.T) {
	for _, kind := range kinds {
		for _, r := range []struct{ k, n, cap, room int }{
			{1, 0, 0, 8}, {1, 1, 1, 8}, {1, api.Most, api.Most, 8}, {2, 1, 0, 16}, {2, 2, 1, 16}, {2, 3, 1, 16}, {7, 20, 2, 56}, {7, 21, 3, 56}, {7, 22, 3, 56},
			{1600, api.Most, 45035996273704, 12800}, {api.MaxK, api.MaxK - 1, 0, 8388608}, {api.MaxK, api.MaxK, 1, 8388608}, {api.MaxK, api.Most, 1<<36 - 1, 8388608},
		} {
			d, m := empty(t, api.Conf{L: 5, K: r.k, Kind: kind})
			if r.n > 0 {
				put(t, d, m, 17, r.n)
			}
			if d.Cap() != r.cap || d.Room() != r.room || d.N() != r.n {
				t.Errorf("of the k %d with %d, Cap is %d, Room %d, N %d", r.k, r.n, d.Cap(), d.Room(), d.N())
			}
			hold(t, d, m)
		}
	}
}

// P13.2

func TestLoad(t *testing.T) {
	for _, kind := range kinds {
		for _, r := range []struct {
			l, k  int
			nodes []api.Node
			want  api.Errno
		}{
			{3, 1, nil, api.OK}, {3, 1, []api.Node{{Id: 1, Count: 5}}, api.OK}, {3, 2, []api.Node{{Id: 1, Count: 1}}, api.ErrCap}, {3, 2, []api.Node{{Id: 8, Count: 1}}, api.OK},
			// It need not be tight.
			{3, 1, []api.Node{{Id: 1, Count: 1}, {Id: 2, Count: 1}, {Id: 8, Count: 1}, {Id: 9, Count: 7}}, api.OK},
			// Leaves weigh what they will; what has children at most the cap.
			{3, 4, []api.Node{{Id: 8, Count: 1}, {Id: 15, Count: 1000}}, api.OK}, {3, 4, []api.Node{{Id: 7, Count: 2}, {Id: 8, Count: 6}}, api.OK}, {3, 4, []api.Node{{Id: 7, Count: 2}, {Id: 8, Count: 5}}, api.ErrCap},
			{3, 4, []api.Node{{Id: 1, Count: 3}, {Id: 8, Count: 9}}, api.OK}, {3, 4, []api.Node{{Id: 1, Count: 3}, {Id: 8, Count: 8}}, api.ErrCap}, {3, 4, []api.Node{{Id: 1, Count: 3}, {Id: 4, Count: 3}, {Id: 6, Count: 3}, {Id: 7, Count: 3}}, api.OK}, {3, 4, []api.Node{{Id: 1, Count: 3}, {Id: 4, Count: 3}, {Id: 6, Count: 4}, {Id: 7, Count: 3}}, api.ErrCap},
			{4, 4, []api.Node{{Id: 8, Count: 3}, {Id: 31, Count: 8}}, api.ErrCap}, {4, 4, []api.Node{{Id: 8, Count: 3}, {Id: 31, Count: 9}}, api.OK},
			{4, 4, []api.Node{{Id: 2, Count: 3}, {Id: 31, Count: 1}}, api.ErrCap},
			{3, api.MaxK, []api.Node{{Id: 7, Count: 1}, {Id: 8, Count: api.MaxK - 1}}, api.OK}, {3, api.MaxK, []api.Node{{Id: 7, Count: 1}, {Id: 8, Count: api.MaxK - 2}}, api.ErrCap},
			{3, 1, []api.Node{{Id: 1, Count: api.Most}}, api.OK}, {3, 1, []api.Node{{Id: 1, Count: 1}, {Id: 8, Count: api.Most - 1}}, api.OK},
			// These are no rolls.
			{3, 1, []api.Node{{Id: 1, Count: api.Most + 1}}, api.ErrForm}, {3, 1, []api.Node{{Id: 1, Count: 1}, {Id: 8, Count: api.Most}}, api.ErrForm}, {3, 1, []api.Node{{Id: 1, Count: math.MaxInt}, {Id: 2, Count: math.MaxInt}, {Id: 3, Count: 2}}, api.ErrForm},
			{3, 1, []api.Node{{Id: 0, Count: 1}}, api.ErrForm}, {3, 1, []api.Node{{Id: -1, Count: 1}}, api.ErrForm}, {3, 1, []api.Node{{Id: 16, Count: 1}}, api.ErrForm}, {3, 1, []api.Node{{Id: math.MinInt, Count: 1}}, api.ErrForm}, {3, 1, []api.Node{{Id: math.MaxInt, Count: 1}}, api.ErrForm},
			{3, 1, []api.Node{{Id: 2, Count: 0}}, api.ErrForm}, {3, 1, []api.Node{{Id: 2, Count: -1}}, api.ErrForm}, {3, 1, []api.Node{{Id: 2, Count: math.MinInt}}, api.ErrForm}, {3, 1, []api.Node{{}}, api.ErrForm},
			{3, 1, []api.Node{{Id: 9, Count: 1}, {Id: 8, Count: 1}}, api.ErrForm}, {3, 1, []api.Node{{Id: 8, Count: 1}, {Id: 8, Count: 1}}, api.ErrForm}, {3, 1, []api.Node{{Id: 8, Count: 1}, {Id: 9, Count: 1}, {Id: 1, Count: 1}}, api.ErrForm},
			// No roll that would not be light either.
			{3, 2, []api.Node{{Id: 1, Count: 9}, {Id: 1, Count: 9}}, api.ErrForm}, {3, 2, []api.Node{{Id: 1, Count: 9}, {Id: 16, Count: 1}}, api.ErrForm}, {3, 2, []api.Node{{Id: 1, Count: 9}, {Id: 2, Count: 0}}, api.ErrForm}, {3, 2, []api.Node{{Id: 1, Count: api.Most + 1}}, api.ErrForm},
		} {
			c := api.Conf{L: r.l, K: r.k, Kind: kind}
			given := slices.Clone(r.nodes)
			d, e := Load(c, given)
			if e != r.want || (d == nil) != (e != api.OK) || !slices.Equal(given, r.nodes) {
				t.Errorf("Load of %v, %v is %d, and should be %d", c, r.nodes, e, r.want)
			}
			if d == nil {
				continue
			}
			m := model{c: c, weights: map[int]int{}}
			for _, n := range r.nodes {
				m.weights[n.Id] = n.Count
			}
			hold(t, d, m)
		}
	}
}

func TestLoadOfAllSetsOfNodes(t *testing.T) {
	for _, kind := range kinds {
		for set := range 1 << 15 {
			m := model{api.Conf{L: 3, K: 1 + set%3, Kind: kind}, map[int]int{}, map[int]int{}}
			for id := 1; id <= 15; id++ {
				if set>>(id-1)&1 == 1 {
					m.weights[id] = 1 + (id+set)%3
				}
			}
			want := api.OK
			if len(m.weights) > 8*m.c.K || !m.light() {
				want = api.ErrCap
			}
			d, e := Load(m.c, m.nodes())
			if e != want || (d == nil) != (e != api.OK) {
				t.Fatalf("Load of %v, %v is %d, and should be %d", m.c, m.nodes(), e, want)
			}
			if d == nil {
				continue
			}
			hold(t, d, m)
			squeeze(t, d, m)
			hold(t, d, m)
			tight(t, d, m)
		}
	}
}

// leaves is a roll of so many leaves.
func leaves(l, many int) []api.Node {
	var r []api.Node
	for x := range many {
		r = append(r, api.Node{Id: 1<<l + x, Count: 1 + x%2})
	}
	return r
}

func TestLoadOfManyNodes(t *testing.T) {
	for _, kind := range kinds {
		for _, k := range []int{1, 2, 3, 10, 100, 1000, 8000} {
			c := api.Conf{L: 16, K: k, Kind: kind}
			d, e := Load(c, leaves(16, 8*k))
			if e != api.OK || d.Len() != 8*k || !slices.Equal(d.Nodes(), leaves(16, 8*k)) {
				t.Fatalf("Load of %v is %d", c, e)
			}
			for _, many := range []int{8*k + 1, 8*k + 2, 9 * k, 65536} {
				if many <= 8*k || many > 65536 {
					continue
				}
				if d, e := Load(c, leaves(16, many)); d != nil || e != api.ErrCap {
					t.Fatalf("Load of %v, %d nodes is %d", c, many, e)
				}
				if d, e := Load(c, append(leaves(16, many), api.Node{Id: 1, Count: 1})); d != nil || e != api.ErrForm {
					t.Fatalf("Load of %v, %d nodes that don't rise is %d", c, many, e)
				}
			}
		}
	}
}

// A node is a leaf in one universe, and has children in another one.
func TestLoadHangsOnTheUniverse(t *testing.T) {
	each(func(kind, l int) {
		c := api.Conf{L: l, K: 5, Kind: kind}
		for _, id := range []int{1 << l, 2<<l - 1} {
			if _, e := Load(c, []api.Node{{Id: id, Count: 1}}); e != api.OK {
				t.Errorf("Load of %v, %d is %d", c, id, e)
			}
		}
		for _, id := range []int{1, 1 << (l - 1), 1<<l - 1} {
			if _, e := Load(c, []api.Node{{Id: id, Count: 1}}); e != api.ErrCap {
				t.Errorf("Load of %v, %d is %d", c, id, e)
			}
		}
		if _, e := Load(c, []api.Node{{Id: 2 << l, Count: 1}}); e != api.ErrForm {
			t.Errorf("Load of %v, %d is %d", c, 2<<l, e)
		}
	})
}

func TestLoadKeepsNoList(t *testing.T) {
	for _, kind := range kinds {
		row := []api.Node{{Id: 8, Count: 1}, {Id: 9, Count: 2}, {Id: 9, Count: -1}}
		d, e := Load(api.Conf{L: 3, K: 1, Kind: kind}, row[:2])
		if e != api.OK || !slices.Equal(row, []api.Node{{Id: 8, Count: 1}, {Id: 9, Count: 2}, {Id: 9, Count: -1}}) {
			t.Fatalf("Load is %d, and leaves %v", e, row)
		}
		row[0], row[1] = api.Node{Id: 1, Count: 7}, api.Node{}
		if got := d.Nodes(); !slices.Equal(got, []api.Node{{Id: 8, Count: 1}, {Id: 9, Count: 2}}) {
			t.Errorf("the digest has %v", got)
		}
	}
}

func TestNodesAreOnTheirOwn(t *testing.T) {
	for _, kind := range kinds {
		d, m := loaded(t, api.Conf{L: 3, K: 1, Kind: kind}, 1, 2, 8, 1, 12, 1)
		a := d.Nodes()
		for at := range a {
			a[at] = api.Node{Id: -1, Count: -1}
		}
		if cap(a) > len(a) {
			_ = append(a, api.Node{Id: -1, Count: -1})
		}
		hold(t, d, m)
		b := d.Nodes()
		put(t, d, m, 0, 5)
		if b[1] != (api.Node{Id: 8, Count: 1}) {
			t.Errorf("an answer turns to %v", b)
		}
	}
}

// P13.3

func TestInsertAtEdges(t *testing.T) {
	each(func(kind, l int) {
		for _, k := range []int{1, 2, api.MaxK} {
			d, m := empty(t, api.Conf{L: l, K: k, Kind: kind})
			for _, x := range []int{math.MinInt, -1 << l, -2, -1, 0, 1, 1<<(l-1) - 1, 1 << (l - 1), 1<<l - 2, 1<<l - 1, 1 << l, 1<<l + 1, 2<<l - 1, 2 << l, 1 << 48, 1 << 62, math.MaxInt} {
				for _, weight := range []int{math.MinInt, -1, 0, 1, 2, api.Most - 1000, api.Most, api.Most + 1, math.MaxInt - 1, math.MaxInt} {
					put(t, d, m, x, weight)
					hold(t, d, m)
				}
			}
			stand(t, d, m)
		}
	})
}

func TestErrorsOfInsertInTheirOrder(t *testing.T) {
	for _, kind := range kinds {
		d, m := loaded(t, api.Conf{L: 3, K: 1, Kind: kind}, 9, api.Most)
		for _, r := range []struct {
			x, weight int
			want      api.Errno
		}{
			{8, 0, api.ErrRange}, {8, 1, api.ErrRange}, {-1, -1, api.ErrRange}, {-1, math.MaxInt, api.ErrRange}, {7, 0, api.ErrZero}, {1, 0, api.ErrZero}, {1, -1, api.ErrZero}, {1, math.MinInt, api.ErrZero}, {1, 1, api.ErrFull}, {0, 1, api.ErrFull}, {0, math.MaxInt, api.ErrFull}, {0, 1 << 56, api.ErrFull},
		} {
			if e := d.Insert(r.x, r.weight); e != r.want {
				t.Errorf("Insert of %d, %d is %d, and should be %d", r.x, r.weight, e, r.want)
			}
			hold(t, d, m)
		}
	}
}

func TestAllThatThereMayBe(t *testing.T) {
	each(func(kind, l int) {
		d, m := empty(t, api.Conf{L: l, K: 3, Kind: kind})
		put(t, d, m, 1, api.Most-5)
		for _, r := range []struct {
			weight int
			want   api.Errno
		}{{6, api.ErrFull}, {3, api.OK}, {3, api.ErrFull}, {2, api.OK}, {1, api.ErrFull}} {
			if e := d.Insert(0, r.weight); e != r.want || e != m.insert(0, r.weight) {
				t.Errorf("Insert of %d into %v is %d", r.weight, d.Nodes(), e)
			}
			hold(t, d, m)
		}
		squeeze(t, d, m)
		hold(t, d, m)
		tight(t, d, m)
	})
}

// With as many nodes as there is room for, what is refused folds nothing, nor does a leaf that is there.
func TestInsertWhereThereIsNoRoom(t *testing.T) {
	for _, kind := range kinds {
		for _, k := range []int{1, 2, 5} {
			c := api.Conf{L: 6, K: k, Kind: kind}
			d, m := empty(t, c)
			for x := range 8*k - 1 {
				put(t, d, m, x, 1)
			}
			if d.Len() != 8*k-1 {
				t.Fatal(d.Nodes())
			}
			// One more has room still.
			put(t, d, m, 63, 1)
			full := d.Nodes()
			if len(full) != 8*k {
				t.Fatal(full)
			}
			for _, r := range []struct {
				x, weight int
				want      api.Errno
			}{{62, api.Most, api.ErrFull}, {62, api.Most - 8*k + 1, api.ErrFull}, {62, math.MaxInt, api.ErrFull}, {62, 0, api.ErrZero}, {62, -1, api.ErrZero}, {64, 1, api.ErrRange}, {-1, 1, api.ErrRange}, {63, api.Most, api.ErrFull}} {
				if e := d.Insert(r.x, r.weight); e != r.want || !slices.Equal(d.Nodes(), full) {
					t.Errorf("Insert of %d, %d is %d, and leaves %v", r.x, r.weight, e, d.Nodes())
				}
			}
			for _, x := range []int{0, 63, 0} {
				put(t, d, m, x, 1)
				if d.Len() != 8*k {
					t.Errorf("Insert of %d leaves %v", x, d.Nodes())
				}
				hold(t, d, m)
			}
			put(t, d, m, 62, 1)
			hold(t, d, m)
			if d.Len() > 4*k || m.weights[1<<6+62] != 1 {
				t.Errorf("Insert of a value that has no room leaves %v", d.Nodes())
			}
			stand(t, d, m)
		}
	}
}

// It is folded for N as it was: for the cap 8, and not for the one that it has with what comes.
func TestCompressedAheadOfInserting(t *testing.T) {
	for _, kind := range kinds {
		d, m := empty(t, api.Conf{L: 5, K: 2, Kind: kind})
		for x := range 16 {
			put(t, d, m, x, 1)
		}
		put(t, d, m, 16, 100)
		if got := d.Nodes(); !slices.Equal(got, []api.Node{{Id: 4, Count: 8}, {Id: 5, Count: 8}, {Id: 48, Count: 100}}) {
			t.Errorf("it has %v", got)
		}
		hold(t, d, m)
		// Nor is the leaf that comes folded, though it weighs little.
		d, m = empty(t, api.Conf{L: 5, K: 1, Kind: kind})
		for x := range 9 {
			put(t, d, m, x, 1)
		}
		if got := d.Nodes(); !slices.Equal(got, []api.Node{{Id: 1, Count: 8}, {Id: 40, Count: 1}}) {
			t.Errorf("it has %v", got)
		}
		hold(t, d, m)
		// All that there may be is reached behind the folds.
		d, m = empty(t, api.Conf{L: 5, K: 1, Kind: kind})
		for x := range 8 {
			put(t, d, m, x, 1)
		}
		put(t, d, m, 8, api.Most-8)
		if got := d.Nodes(); !slices.Equal(got, []api.Node{{Id: 1, Count: 8}, {Id: 40, Count: api.Most - 8}}) {
			t.Errorf("it has %v", got)
		}
		hold(t, d, m)
	}
}

// With less in all than k the cap is 0, so nothing is folded, and there is room all the time.
func TestLessThanK(t *testing.T) {
	for _, kind := range kinds {
		d, m := empty(t, api.Conf{L: 10, K: 1025, Kind: kind})
		for x := range 1024 {
			put(t, d, m, x, 1)
		}
		if n := d.Compress(); n != 0 || d.Len() != 1024 {
			t.Errorf("there are %d folds, and %d nodes are left", n, d.Len())
		}
		hold(t, d, m)
		put(t, d, m, 5, 1)
		if n := d.Compress(); n != 0 || d.Cap() != 1 || d.Len() != 1024 {
			t.Errorf("with the cap 1, there are %d folds, and %d nodes are left", n, d.Len())
		}
	}
}

// From each digest of 3 bits that has 7 or 8 nodes each value is inserted.
func TestInsertIntoAllSetsOfNodes(t *testing.T) {
	for _, kind := range kinds {
		for set := range 1 << 15 {
			if n := bits.OnesCount(uint(set)); n != 7 && n != 8 {
				continue
			}
			var numbers []int
			for id := 1; id <= 15; id++ {
				if set>>(id-1)&1 == 1 {
					numbers = append(numbers, id, 1+(id+set)%3)
				}
			}
			full, was := loaded(t, api.Conf{L: 3, K: 1, Kind: kind}, numbers...)
			for x := range 8 {
				d, m := full.Clone(), was.clone()
				put(t, d, m, x, 2)
				hold(t, d, m)
			}
			hold(t, full, was)
		}
	}
}

// P13.4

func TestCompress(t *testing.T) {
	for _, kind := range kinds {
		for _, r := range []struct {
			l, k  int
			nodes []int
			folds int
			left  []api.Node
		}{
			{3, 1, nil, 0, nil},
			{3, 1, []int{1, 5}, 0, []api.Node{{Id: 1, Count: 5}}},
			{3, 1, []int{13, 5}, 3, []api.Node{{Id: 1, Count: 5}}},
			{3, 2, []int{13, 5}, 0, []api.Node{{Id: 13, Count: 5}}},
			{2, 1, []int{4, 1, 5, 2, 2, 1}, 2, []api.Node{{Id: 1, Count: 4}}},
			{2, 2, []int{4, 1, 5, 2, 2, 1}, 1, []api.Node{{Id: 1, Count: 1}, {Id: 4, Count: 1}, {Id: 5, Count: 2}}},
			{3, 2, []int{15, 1, 13, 1, 10, 1, 8, 1}, 6, []api.Node{{Id: 2, Count: 2}, {Id: 3, Count: 2}}},
			{3, 3, []int{4, 3, 8, 1, 9, 1, 15, 7}, 4, []api.Node{{Id: 1, Count: 3}, {Id: 2, Count: 2}, {Id: 15, Count: 7}}},
			{3, api.MaxK, []int{8, 1, 9, 1}, 0, []api.Node{{Id: 8, Count: 1}, {Id: 9, Count: 1}}},
		} {
			d, m := loaded(t, api.Conf{L: r.l, K: r.k, Kind: kind}, r.nodes...)
			if n := d.Compress(); n != r.folds || n != m.compress() || !slices.Equal(d.Nodes(), r.left) {
				t.Errorf("Compress of %v for %d is %d, and leaves %v", r.nodes, r.k, n, d.Nodes())
			}
			hold(t, d, m)
			tight(t, d, m)
			stand(t, d, m)
		}
	}
}

func TestReset(t *testing.T) {
	each(func(kind, l int) {
		c := api.Conf{L: l, K: 2, Kind: kind}
		d, m := empty(t, c)
		fresh := d.Clone()
		d.Reset()
		hold(t, d, m)
		seed := uint64(l)
		for range 40 {
			x, weight := drop(l, &seed)
			put(t, d, m, x, weight)
		}
		put(t, d, m, 0, api.Most-m.total())
		clone, was := d.Clone(), m.clone()
		for range 2 {
			d.Reset()
			if d.N() != 0 || d.Len() != 0 || d.Cap() != 0 || d.Room() != 16 || len(d.Nodes()) != 0 || d.Conf() != c || !Same(d, fresh) || d.Compress() != 0 {
				t.Fatalf("of %v, Reset leaves %v with %v", c, d.Conf(), d.Nodes())
			}
		}
		hold(t, clone, was)
		// There is as much room, and as much may come as at the beginning.
		_, m = empty(t, c)
		for range 40 {
			x, weight := drop(l, &seed)
			put(t, d, m, x, weight)
			hold(t, d, m)
		}
		put(t, d, m, 0, api.Most-m.total())
		hold(t, d, m)
		hold(t, clone, was)
		hold(t, fresh, model{c: c})
	})
}

// P13.5

func TestClone(t *testing.T) {
	each(func(kind, l int) {
		for _, k := range []int{1, 3} {
			a, m := empty(t, api.Conf{L: l, K: k, Kind: kind})
			seed := uint64(100*l + k)
			for range 9 * k {
				x, weight := drop(l, &seed)
				put(t, a, m, x, weight)
			}
			b, other := a.Clone(), m.clone()
			if !Same(a, b) {
				t.Fatalf("the clone of %v is %v", a.Nodes(), b.Nodes())
			}
			hold(t, b, other)
			// Each goes its own way.
			for range 9 * k {
				x, weight := drop(l, &seed)
				put(t, a, m, x, weight)
				hold(t, a, m)
				hold(t, b, other)
				x, weight = drop(l, &seed)
				put(t, b, other, x, weight)
				hold(t, a, m)
				hold(t, b, other)
			}
			squeeze(t, a, m)
			hold(t, a, m)
			hold(t, b, other)
			squeeze(t, b, other)
			hold(t, a, m)
			hold(t, b, other)
			a.Reset()
			hold(t, b, other)
		}
	})
}

func TestSame(t *testing.T) {
	confs := []api.Conf{{L: 3, K: 1, Kind: api.Dense}, {L: 3, K: 1, Kind: api.Hash}, {L: 3, K: 2, Kind: api.Dense}, {L: 3, K: 2, Kind: api.Hash}, {L: 4, K: 1, Kind: api.Dense}, {L: 4, K: 1, Kind: api.Hash}, {L: 4, K: 2, Kind: api.Hash}, {L: 20, K: 1, Kind: api.Hash}}
	rows := [][]int{nil, {8, 1}, {8, 2}, {9, 1}, {8, 1, 9, 1}, {8, 2, 9, 1}, {8, 1, 9, 2}, {8, 1, 10, 1}, {1, 1, 8, 1}, {1, 1, 9, 1}}
	type made struct {
		d   *Digest
		c   api.Conf
		row int
	}
	var all []made
	for _, c := range confs {
		for at, row := range rows {
			m := model{c: c, weights: map[int]int{}}
			for i := 0; i < len(row); i += 2 {
				m.weights[row[i]] = row[i+1]
			}
			if d, e := Load(c, m.nodes()); e == api.OK {
				all = append(all, made{d, c, at})
			}
		}
	}
	if len(all) < 60 {
		t.Fatalf("there are just %d", len(all))
	}
	for _, a := range all {
		for _, b := range all {
			want := a.c.L == b.c.L && a.c.K == b.c.K && a.row == b.row
			if got := Same(a.d, b.d); got != want {
				t.Errorf("of %v with %v and %v with %v, Same is %v", a.c, rows[a.row], b.c, rows[b.row], got)
			}
		}
		if Same(a.d, nil) || Same(nil, a.d) || !Same(a.d, a.d.Clone()) {
			t.Errorf("%v with %v is the same as nil, or not as its clone", a.c, rows[a.row])
		}
	}
	if !Same(nil, nil) {
		t.Error("nil is not the same as nil")
	}
}

// How they came to be is of no matter.
func TestSameAfterOtherWays(t *testing.T) {
	a, _ := empty(t, api.Conf{L: 5, K: 1, Kind: api.Dense})
	b, _ := loaded(t, api.Conf{L: 5, K: 1, Kind: api.Hash}, 1, 40)
	for x := range 20 {
		a.Insert(x, 2)
	}
	if Same(a, b) {
		t.Errorf("%v is the same as %v", a.Nodes(), b.Nodes())
	}
	a.Compress()
	if !Same(a, b) || !Same(b, a) || a.Conf() == b.Conf() {
		t.Errorf("%v is not the same as %v", a.Nodes(), b.Nodes())
	}
}

func TestNil(t *testing.T) {
	var d *Digest
	if d.Conf() != (api.Conf{}) || d.N() != 0 || d.Len() != 0 || d.Cap() != 0 || d.Room() != 0 || len(d.Nodes()) != 0 || d.Compress() != 0 || d.Clone() != nil {
		t.Errorf("nil is %v, %d, %d, %d, %d, %v, %v", d.Conf(), d.N(), d.Len(), d.Cap(), d.Room(), d.Nodes(), d.Clone())
	}
	for _, x := range []int{math.MinInt, -1, 0, 1, math.MaxInt} {
		for _, weight := range []int{math.MinInt, -1, 0, 1, api.Most, math.MaxInt} {
			if e := d.Insert(x, weight); e != api.ErrNone {
				t.Errorf("Insert of %d, %d into nil is %d", x, weight, e)
			}
		}
	}
	d.Reset()
}

// What a digest embeds is reached by nobody else: no one puts nodes into its pool behind its back.
func TestNothingElseIsReached(t *testing.T) {
	var names []string
	for at := range reflect.TypeFor[*Digest]().NumMethod() {
		names = append(names, reflect.TypeFor[*Digest]().Method(at).Name)
	}
	if want := []string{"Cap", "Clone", "Compress", "Conf", "Insert", "Len", "N", "Nodes", "Reset", "Room"}; !slices.Equal(names, want) {
		t.Errorf("a digest has %v, and should have %v", names, want)
	}
	for _, f := range reflect.VisibleFields(reflect.TypeFor[Digest]()) {
		if f.IsExported() {
			t.Errorf("a digest has the field %s", f.Name)
		}
	}
}

// P13.6, P13.7

func TestLaws(t *testing.T) {
	each(func(kind, l int) {
		for _, k := range []int{1, 2, 3} {
			d, m := empty(t, api.Conf{L: l, K: k, Kind: kind})
			seed := uint64(1000*l + k)
			for round := range 60 {
				x, weight := drop(l, &seed)
				put(t, d, m, x, weight)
				hold(t, d, m)
				stand(t, d, m)
				if round%17 == 16 {
					squeeze(t, d, m)
					hold(t, d, m)
					tight(t, d, m)
					stand(t, d, m)
				}
			}
		}
	})
}

// All that is done of 2 bits in four steps: each value, of the weights 1 and 3, or folds.
func TestAllWaysOfFewSteps(t *testing.T) {
	for _, kind := range kinds {
		for _, k := range []int{1, 2, 3} {
			var goOn func(d *Digest, m model, steps int)
			goOn = func(d *Digest, m model, steps int) {
				hold(t, d, m)
				stand(t, d, m)
				if steps == 0 {
					squeeze(t, d, m)
					tight(t, d, m)
					stand(t, d, m)
					return
				}
				for step := range 9 {
					d, m := d.Clone(), m.clone()
					if step == 8 {
						squeeze(t, d, m)
					} else {
						put(t, d, m, step/2, 1+step%2*2)
					}
					goOn(d, m, steps-1)
				}
			}
			d, m := empty(t, api.Conf{L: 2, K: k, Kind: kind})
			goOn(d, m, 4)
		}
	}
}

func TestLawsOfManyValues(t *testing.T) {
	for _, c := range []api.Conf{
		{L: 16, K: 1, Kind: api.Dense}, {L: 16, K: 40, Kind: api.Dense}, {L: 12, K: 400, Kind: api.Dense}, {L: 16, K: 1000, Kind: api.Dense}, {L: 16, K: 1000, Kind: api.Hash}, {L: 30, K: 300, Kind: api.Hash}, {L: 48, K: 1, Kind: api.Hash}, {L: 48, K: 100, Kind: api.Hash},
	} {
		d, m := empty(t, c)
		seed := uint64(c.L*c.K + 7)
		for round := range 30*c.K + 100 {
			x, weight := drop(c.L, &seed)
			if e := d.Insert(x, weight); e != api.OK {
				t.Fatal(e)
			}
			m.accepted[x] += weight
			if d.Len() > d.Room() {
				t.Fatalf("of %v, there are %d nodes", c, d.Len())
			}
			if round%(10*c.K) == 0 {
				many(t, d, m)
			}
		}
		d.Compress()
		many(t, d, m)
		if d.Len() > 4*c.K-1 {
			t.Fatalf("of %v, compressed, there are %d nodes", c, d.Len())
		}
	}
}

// many holds a digest of many nodes against the laws.
func many(t *testing.T, d *Digest, m model) {
	t.Helper()
	p, e := pool.Load(m.c.Kind, m.c.L, d.Nodes())
	if e != api.OK || !press.Light(p, m.c.K) || p.Total() != d.N() || p.Len() != d.Len() {
		t.Fatalf("of %v, the nodes are no roll, or not light: %d", m.c, e)
	}
	stand(t, d, m)
}

func TestBothKindsTellTheSame(t *testing.T) {
	for l := 1; l <= 16; l++ {
		for _, k := range []int{1, 2, 5, 30} {
			a, _ := empty(t, api.Conf{L: l, K: k, Kind: api.Dense})
			b, _ := empty(t, api.Conf{L: l, K: k, Kind: api.Hash})
			seed := uint64(500*l + k)
			for range 20 * k {
				x, weight := drop(l, &seed)
				if e := a.Insert(x, weight); e != api.OK || e != b.Insert(x, weight) || !Same(a, b) || a.Cap() != b.Cap() {
					t.Fatalf("of %d bits, %v and %v", l, a.Nodes(), b.Nodes())
				}
			}
			if n := a.Compress(); n != b.Compress() || !Same(a, b) || !slices.Equal(a.Nodes(), b.Nodes()) {
				t.Fatalf("of %d bits, compressed, %v and %v", l, a.Nodes(), b.Nodes())
			}
		}
	}
}

// What is loaded goes on like what it was taken from.
func TestLoadedGoesOn(t *testing.T) {
	each(func(kind, l int) {
		a, m := empty(t, api.Conf{L: l, K: 2, Kind: kind})
		seed := uint64(l + 9)
		for round := range 50 {
			x, weight := drop(l, &seed)
			put(t, a, m, x, weight)
			if round%5 == 0 {
				b, e := Load(m.c, a.Nodes())
				if e != api.OK || !Same(a, b) {
					t.Fatalf("Load of %v, %v is %d", m.c, a.Nodes(), e)
				}
				hold(t, b, m)
				other := m.clone()
				x, weight = drop(l, &seed)
				put(t, b, other, x, weight)
				squeeze(t, b, other)
				hold(t, b, other)
			}
		}
		hold(t, a, m)
	})
}
