package blend

import (
	"maps"
	"math"
	"math/bits"
	"slices"
	"testing"

	"dewpond/api"
	"dewpond/digest"
	"dewpond/pool"
	"dewpond/press"
)

// kinds are the kinds of digests.
var kinds = []int{api.Dense, api.Hash}

// notAK are numbers that are below each k, or above each.
var notAK = []int{math.MinInt, math.MinInt + 1, -1 << 32, -api.MaxK, -2, -1, 0, api.MaxK + 1, api.MaxK + 2, 1 << 32, 1<<32 + 1, math.MaxInt - 1, math.MaxInt}

// model is what a digest should be: a map of nodes, and one of all values that were accepted.
type model struct {
	c        api.Conf
	weights  map[int]int
	accepted map[int]int
}

// each calls f with each kind and each number of bits for which there are digests.
func each(f func(kind, l int)) {
	for l := 1; l <= 48; l++ {
		if l <= 16 {
			f(api.Dense, l)
		}
		f(api.Hash, l)
	}
}

func (m model) total() int {
	sum := 0
	for _, weight := range m.weights {
		sum += weight
	}
	return sum
}

func (m model) nodes() []api.Node {
	var l []api.Node
	for _, id := range slices.Sorted(maps.Keys(m.weights)) {
		l = append(l, api.Node{Id: id, Count: m.weights[id]})
	}
	return l
}

// before tells whether a is folded ahead of b: the deeper one first, then the one on the left.
func before(a, b int) bool {
	deep, other := bits.Len(uint(a)), bits.Len(uint(b))
	return deep > other || deep == other && a < b
}

// first is the first parent that is ready for most; 0, if none is.
func (m model) first(most int) int {
	first := 0
	for id := range m.weights {
		parent := id / 2
		if id > 1 && m.weights[2*parent]+m.weights[2*parent+1]+m.weights[parent] <= most && (first == 0 || before(parent, first)) {
			first = parent
		}
	}
	return first
}

// light tells whether nothing but leaves weighs more than the cap.
func (m model) light() bool {
	most := m.total() / m.c.K
	for id, weight := range m.weights {
		if id < 1<<m.c.L && weight > most {
			return false
		}
	}
	return true
}

// lower is what Lower should make: each time all parents are looked at anew.
func (m model) lower(k int) model {
	low := model{m.c, maps.Clone(m.weights), m.accepted}
	low.c.K = k
	most := m.total() / k
	for parent := low.first(most); parent != 0; parent = low.first(most) {
		low.weights[parent] += low.weights[2*parent] + low.weights[2*parent+1]
		delete(low.weights, 2*parent)
		delete(low.weights, 2*parent+1)
	}
	return low
}

// merge is what Merge should make.
func (m model) merge(other model) model {
	k := min(m.c.K, other.c.K)
	both := m.lower(k)
	both.accepted = maps.Clone(m.accepted)
	for id, weight := range other.lower(k).weights {
		both.weights[id] += weight
	}
	for x, weight := range other.accepted {
		both.accepted[x] += weight
	}
	return both
}

// made is a digest of values and their weights, one and the other in turn, with room for all of them.
func made(t *testing.T, c api.Conf, numbers ...int) (*digest.Digest, model) {
	t.Helper()
	d, e := digest.New(c)
	if e != api.OK {
		t.Fatalf("there is no digest of %v: %d", c, e)
	}
	m := model{c, map[int]int{}, map[int]int{}}
	for at := 0; at < len(numbers); at += 2 {
		x, weight := numbers[at], numbers[at+1]
		if e := d.Insert(x, weight); e != api.OK {
			t.Fatalf("of %v, Insert of %d, %d is %d", c, x, weight, e)
		}
		m.weights[1<<c.L+x] += weight
		m.accepted[x] += weight
	}
	hold(t, d, m)
	return d, m
}

// loaded is a digest of the nodes that the model has, each of which stands for the first value that it holds; nil, if there is none.
func loaded(c api.Conf, weights map[int]int) (*digest.Digest, model) {
	m := model{c, weights, map[int]int{}}
	for id, weight := range weights {
		for id < 1<<c.L {
			id *= 2
		}
		m.accepted[id-1<<c.L] += weight
	}
	d, _ := digest.Load(c, m.nodes())
	return d, m
}

// next is the number behind n in a row of numbers that looks mixed.
func next(n uint64) uint64 { return n*6364136223846793005 + 1442695040888963407 }

// mixed is a digest into which so many values were inserted, often of a few, seldom a heavy one; where there was no room, it was folded.
func mixed(t *testing.T, c api.Conf, many int, seed uint64) (*digest.Digest, model) {
	t.Helper()
	d, e := digest.New(c)
	if e != api.OK {
		t.Fatalf("there is no digest of %v: %d", c, e)
	}
	accepted := map[int]int{}
	for range many {
		seed = next(seed)
		x := int(seed>>15) % (1 << c.L)
		seed = next(seed)
		weight := 1 + int(seed>>33)%3
		switch seed >> 40 % 8 {
		case 0, 1, 2:
			x %= min(64, 1<<c.L)
		case 3:
			x = 1<<c.L - 1 - x%min(16, 1<<c.L)
		case 4:
			weight += int(seed>>20) % 100
		}
		if e := d.Insert(x, weight); e != api.OK {
			t.Fatalf("of %v, Insert of %d, %d is %d", c, x, weight, e)
		}
		accepted[x] += weight
	}
	m := model{c, map[int]int{}, accepted}
	for _, n := range d.Nodes() {
		m.weights[n.Id] = n.Count
	}
	return d, m
}

// hold holds all that a digest has against what it should.
func hold(t *testing.T, d *digest.Digest, m model) {
	t.Helper()
	nodes := m.nodes()
	if d == nil {
		t.Fatalf("there is none, and it should be of %v and %v", m.c, nodes)
	}
	if got := d.Nodes(); !slices.Equal(got, nodes) || d.Conf() != m.c {
		t.Fatalf("the digest is of %v and %v, and should be of %v and %v", d.Conf(), got, m.c, nodes)
	}
	if d.N() != m.total() || d.Len() != len(nodes) || d.Cap() != m.total()/m.c.K || d.Room() != 8*m.c.K {
		t.Fatalf("of %v with %v, N is %d, Len %d, Cap %d, Room %d", m.c, nodes, d.N(), d.Len(), d.Cap(), d.Room())
	}
	if d.Len() > d.Room() || !m.light() {
		t.Fatalf("%v with %v is too large, or not light", m.c, nodes)
	}
}

// stand holds what the nodes weigh against all that was accepted.
func stand(t *testing.T, d *digest.Digest, m model) {
	t.Helper()
	holds, has, there := map[int]int{}, map[int]int{}, map[int]int{}
	for x, weight := range m.accepted {
		for id := 1<<m.c.L + x; id > 0; id /= 2 {
			holds[id] += weight
		}
	}
	for _, n := range d.Nodes() {
		there[n.Id] = n.Count
		for id := n.Id; id > 0; id /= 2 {
			has[id] += n.Count
			holds[id] += 0
		}
	}
	if d.N() != holds[1] {
		t.Fatalf("N is %d, and %d was accepted", d.N(), holds[1])
	}
	for id, weight := range holds {
		above := 0
		for up := id / 2; up > 0; up /= 2 {
			above += there[up]
		}
		if has[id] > weight || has[id]+above < weight {
			t.Fatalf("of %v, %d holds %d, and has %d, and %d above it", m.c, id, weight, has[id], above)
		}
	}
}

// lowered is Lower, held against the model; the digest that is handed in stays.
func lowered(t *testing.T, d *digest.Digest, m model, k int) (*digest.Digest, model) {
	t.Helper()
	low, e := Lower(d, k)
	if e != api.OK {
		t.Fatalf("Lower of %v with %v to %d is %d", m.c, m.nodes(), k, e)
	}
	want := m.lower(k)
	hold(t, low, want)
	hold(t, d, m)
	p, e := pool.Load(want.c.Kind, want.c.L, low.Nodes())
	if e != api.OK || !press.Tight(p, k) || low.Len() > 4*k-1 {
		t.Fatalf("Lower of %v with %v to %d is %v", m.c, m.nodes(), k, low.Nodes())
	}
	return low, want
}

// merged is Merge, held against the model, with its laws; both that are handed in stay.
func merged(t *testing.T, a, b *digest.Digest, m, n model) (*digest.Digest, model) {
	t.Helper()
	d, e := Merge(a, b)
	if e != api.OK {
		t.Fatalf("Merge of %v with %v and of %v with %v is %d", m.c, m.nodes(), n.c, n.nodes(), e)
	}
	want := m.merge(n)
	hold(t, d, want)
	hold(t, a, m)
	hold(t, b, n)
	if d.N() != a.N()+b.N() || d.Len() > 8*want.c.K-2 {
		t.Fatalf("Merge of %v with %v and of %v with %v is %v", m.c, m.nodes(), n.c, n.nodes(), d.Nodes())
	}
	stand(t, d, want)
	turned, e := Merge(b, a)
	if e != api.OK || turned.Conf() != (api.Conf{L: n.c.L, K: want.c.K, Kind: n.c.Kind}) || !slices.Equal(turned.Nodes(), d.Nodes()) {
		t.Fatalf("Merge of %v with %v and of %v with %v is %v, and the other way round %v", m.c, m.nodes(), n.c, n.nodes(), d.Nodes(), turned.Nodes())
	}
	return d, want
}

// pairs calls f with each two kinds.
func pairs(f func(kind, other int)) {
	for _, kind := range kinds {
		for _, other := range kinds {
			f(kind, other)
		}
	}
}

// The chapter's example.

func TestExample(t *testing.T) {
	pairs(func(kind, other int) {
		a, m := made(t, api.Conf{L: 2, K: 1, Kind: kind}, 0, 1)
		b, n := made(t, api.Conf{L: 2, K: 2, Kind: other}, 3, 2)
		x, e := Lower(a, 1)
		y, f := Lower(b, 1)
		if e != api.OK || f != api.OK || x.Cap() != 1 || y.Cap() != 2 {
			t.Fatal(e, f)
		}
		d, e := Merge(a, b)
		if e != api.OK || d.Conf() != (api.Conf{L: 2, K: 1, Kind: kind}) || d.Cap() != 3 || !slices.Equal(d.Nodes(), []api.Node{{Id: 1, Count: 3}}) {
			t.Fatal(e, d.Conf(), d.Nodes())
		}
		merged(t, a, b, m, n)
	})
}

// P14.1

func TestLower(t *testing.T) {
	for _, kind := range kinds {
		for _, r := range []struct {
			l, k    int
			numbers []int
			low     int
			want    []api.Node
		}{
			{3, 4, nil, 4, nil}, {3, 4, nil, 1, nil}, {3, 1, nil, 1, nil},
			{3, 1, []int{5, 7}, 1, []api.Node{{Id: 1, Count: 7}}},
			{3, 2, []int{5, 7}, 2, []api.Node{{Id: 13, Count: 7}}}, {3, 2, []int{5, 7}, 1, []api.Node{{Id: 1, Count: 7}}},
			// The cap goes from 1, for which nothing is folded, to 2, 4 and 8.
			{3, 8, []int{0, 1, 1, 1, 2, 1, 3, 1, 4, 1, 5, 1, 6, 1, 7, 1}, 8, []api.Node{{Id: 8, Count: 1}, {Id: 9, Count: 1}, {Id: 10, Count: 1}, {Id: 11, Count: 1}, {Id: 12, Count: 1}, {Id: 13, Count: 1}, {Id: 14, Count: 1}, {Id: 15, Count: 1}}},
			{3, 8, []int{0, 1, 1, 1, 2, 1, 3, 1, 4, 1, 5, 1, 6, 1, 7, 1}, 4, []api.Node{{Id: 4, Count: 2}, {Id: 5, Count: 2}, {Id: 6, Count: 2}, {Id: 7, Count: 2}}},
			{3, 8, []int{0, 1, 1, 1, 2, 1, 3, 1, 4, 1, 5, 1, 6, 1, 7, 1}, 3, []api.Node{{Id: 4, Count: 2}, {Id: 5, Count: 2}, {Id: 6, Count: 2}, {Id: 7, Count: 2}}},
			{3, 8, []int{0, 1, 1, 1, 2, 1, 3, 1, 4, 1, 5, 1, 6, 1, 7, 1}, 2, []api.Node{{Id: 2, Count: 4}, {Id: 3, Count: 4}}},
			{3, 8, []int{0, 1, 1, 1, 2, 1, 3, 1, 4, 1, 5, 1, 6, 1, 7, 1}, 1, []api.Node{{Id: 1, Count: 8}}},
			// With less in all than k nothing is folded; with the cap 1 what has nothing beside it goes up.
			{3, 9, []int{0, 1, 2, 1}, 3, []api.Node{{Id: 8, Count: 1}, {Id: 10, Count: 1}}},
			{3, 9, []int{0, 1, 2, 1}, 2, []api.Node{{Id: 4, Count: 1}, {Id: 5, Count: 1}}},
			{3, 9, []int{0, 1, 1, 1}, 2, []api.Node{{Id: 8, Count: 1}, {Id: 9, Count: 1}}},
			{3, 5, []int{0, 3, 1, 1, 7, 5}, 4, []api.Node{{Id: 8, Count: 3}, {Id: 9, Count: 1}, {Id: 15, Count: 5}}},
			{3, 5, []int{0, 3, 1, 1, 7, 5}, 2, []api.Node{{Id: 1, Count: 4}, {Id: 15, Count: 5}}},
			{2, api.MaxK, []int{0, 1, 1, 1, 3, api.MaxK}, api.MaxK - 1, []api.Node{{Id: 4, Count: 1}, {Id: 5, Count: 1}, {Id: 7, Count: api.MaxK}}},
			{2, api.MaxK, []int{0, 1, 3, api.MaxK}, api.MaxK, []api.Node{{Id: 1, Count: 1}, {Id: 7, Count: api.MaxK}}},
			{2, 1, []int{0, 1, 3, api.Most - 1}, 1, []api.Node{{Id: 1, Count: api.Most}}},
		} {
			d, m := made(t, api.Conf{L: r.l, K: r.k, Kind: kind}, r.numbers...)
			low, e := Lower(d, r.low)
			if e != api.OK || !slices.Equal(low.Nodes(), r.want) {
				t.Errorf("Lower of %v with %v to %d is %v, and should be %v", d.Conf(), r.numbers, r.low, low.Nodes(), r.want)
			}
			lowered(t, d, m, r.low)
		}
	}
}

// all calls f with a digest of each set of nodes of l bits that there is for a k up to the greatest one.
func all(kind, l, greatest int, f func(d *digest.Digest, m model)) {
	for set := range 1 << (2<<l - 1) {
		weights := map[int]int{}
		for id := 1; id < 2<<l; id++ {
			if set>>(id-1)&1 == 1 {
				weights[id] = 1 + (id+set)%3
			}
		}
		for k := 1; k <= greatest; k++ {
			if d, m := loaded(api.Conf{L: l, K: k, Kind: kind}, weights); d != nil {
				f(d, m)
			}
		}
	}
}

func TestLowerOfAllSetsOfNodes(t *testing.T) {
	for _, kind := range kinds {
		many := 0
		all(kind, 3, 3, func(d *digest.Digest, m model) {
			many++
			for k := 1; k <= m.c.K; k++ {
				low, n := lowered(t, d, m, k)
				stand(t, low, n)
			}
		})
		if many < 1<<13 {
			t.Errorf("there are %d digests", many)
		}
	}
}

// sizes are numbers of values for some k: fewer than there is room for, just as many, and more.
func sizes(k int) []int { return []int{0, k - 1, k, 4 * k, 8 * k, 30 * k} }

func TestLowerOfMixedDigests(t *testing.T) {
	each(func(kind, l int) {
		for _, k := range []int{1, 2, 5} {
			for _, many := range sizes(k) {
				d, m := mixed(t, api.Conf{L: l, K: k, Kind: kind}, many, uint64(100*l+k+many))
				for low := 1; low <= k; low++ {
					x, n := lowered(t, d, m, low)
					stand(t, x, n)
				}
			}
		}
	})
}

// To its own K it is what compressing would make of it; lowered once more, nothing is folded.
func TestLowerToItsOwnK(t *testing.T) {
	each(func(kind, l int) {
		for _, k := range []int{1, 3, 7} {
			d, m := mixed(t, api.Conf{L: l, K: k, Kind: kind}, 8*k, uint64(l+k))
			low, n := lowered(t, d, m, k)
			pressed := d.Clone()
			pressed.Compress()
			if !digest.Same(low, pressed) {
				t.Errorf("Lower of %v is %v, and compressed it is %v", d.Nodes(), low.Nodes(), pressed.Nodes())
			}
			again, _ := lowered(t, low, n, k)
			if !digest.Same(again, low) {
				t.Errorf("Lower of %v, which has been lowered, is %v", low.Nodes(), again.Nodes())
			}
		}
	})
}

func TestWrongOfLower(t *testing.T) {
	for _, k := range append([]int{1, 2, api.MaxK}, notAK...) {
		if d, e := Lower(nil, k); d != nil || e != api.ErrNone {
			t.Errorf("Lower of nil to %d is %v, %d", k, d, e)
		}
	}
	each(func(kind, l int) {
		for _, own := range []int{1, 2, 3, 1600, api.MaxK - 1, api.MaxK} {
			d, m := made(t, api.Conf{L: l, K: own, Kind: kind}, 0, 1, 1, 5)
			for _, k := range append([]int{own + 1, own + 2, 2 * own, own + api.MaxK, own + 1<<32}, notAK...) {
				if low, e := Lower(d, k); low != nil || e != api.ErrArg {
					t.Errorf("Lower of %v to %d is %v, %d", d.Conf(), k, low, e)
				}
			}
			hold(t, d, m)
			for _, k := range []int{1, own} {
				lowered(t, d, m, k)
			}
			empty, n := made(t, api.Conf{L: l, K: own, Kind: kind})
			if low, e := Lower(empty, own+1); low != nil || e != api.ErrArg {
				t.Errorf("Lower of %v to %d is %v, %d", empty.Conf(), own+1, low, e)
			}
			lowered(t, empty, n, own)
		}
	})
}

// ownWays lets a digest go on, which no other one may tell.
func ownWays(t *testing.T, d *digest.Digest, others ...*digest.Digest) {
	t.Helper()
	var were []*digest.Digest
	for _, other := range others {
		were = append(were, other.Clone())
	}
	for _, step := range []func(){func() { d.Insert(1, 3) }, func() { d.Insert(0, 7) }, func() { d.Compress() }, d.Reset} {
		step()
		for at, other := range others {
			if !digest.Same(other, were[at]) {
				t.Fatalf("%v turns to %v", were[at].Nodes(), other.Nodes())
			}
		}
	}
}

func TestLowerIsOnItsOwn(t *testing.T) {
	each(func(kind, l int) {
		for _, k := range []int{1, 2, 8} {
			d, m := made(t, api.Conf{L: l, K: 8, Kind: kind}, 0, 1, 1, 5)
			low, _ := lowered(t, d, m, k)
			again, _ := lowered(t, d, m, k)
			ownWays(t, low, d, again)
			ownWays(t, d, again)
		}
	})
}

// P14.2

func TestMerge(t *testing.T) {
	pairs(func(kind, other int) {
		for _, r := range []struct {
			l, k, j  int
			one, two []int
			want     []api.Node
		}{
			{3, 2, 3, nil, nil, nil},
			{3, 2, 3, []int{5, 7}, nil, []api.Node{{Id: 13, Count: 7}}}, {3, 2, 3, nil, []int{5, 7}, []api.Node{{Id: 13, Count: 7}}},
			{3, 2, 2, []int{5, 7}, []int{5, 1}, []api.Node{{Id: 13, Count: 8}}}, {3, 2, 2, []int{5, 7}, []int{4, 1}, []api.Node{{Id: 12, Count: 1}, {Id: 13, Count: 7}}},
			// Of 0, 1, 2, 3 the pairs go up for 2; what is made of both isn't folded any more.
			{3, 2, 5, []int{0, 1, 1, 1, 2, 1, 3, 1}, []int{4, 1, 5, 1, 6, 1, 7, 1}, []api.Node{{Id: 4, Count: 2}, {Id: 5, Count: 2}, {Id: 6, Count: 2}, {Id: 7, Count: 2}}},
			{3, 5, 2, []int{0, 1, 1, 1, 2, 1, 3, 1}, []int{0, 1, 1, 1, 2, 1, 3, 1}, []api.Node{{Id: 4, Count: 4}, {Id: 5, Count: 4}}},
			{3, 4, 4, []int{0, 1, 1, 1, 2, 1, 3, 1}, []int{0, 1, 1, 1}, []api.Node{{Id: 8, Count: 2}, {Id: 9, Count: 2}, {Id: 10, Count: 1}, {Id: 11, Count: 1}}},
			// Each is lowered with its own cap, and not with that of both: 4 and 5 stay.
			{2, 2, 2, []int{0, 1, 1, 1}, []int{3, 100}, []api.Node{{Id: 4, Count: 1}, {Id: 5, Count: 1}, {Id: 7, Count: 100}}},
			// One goes up to the node that the other one has its leaves below.
			{2, 1, 3, []int{3, 5}, []int{0, 1}, []api.Node{{Id: 1, Count: 6}}}, {2, 4, 4, []int{0, 1, 3, 7}, []int{0, 1, 1, 1}, []api.Node{{Id: 1, Count: 1}, {Id: 4, Count: 1}, {Id: 5, Count: 1}, {Id: 7, Count: 7}}},
		} {
			a, m := made(t, api.Conf{L: r.l, K: r.k, Kind: kind}, r.one...)
			b, n := made(t, api.Conf{L: r.l, K: r.j, Kind: other}, r.two...)
			d, e := Merge(a, b)
			if e != api.OK || d.Conf() != (api.Conf{L: r.l, K: min(r.k, r.j), Kind: kind}) || !slices.Equal(d.Nodes(), r.want) {
				t.Errorf("Merge of %v with %v and of %v with %v is %v, %v, and should be %v", a.Conf(), r.one, b.Conf(), r.two, e, d.Nodes(), r.want)
			}
			merged(t, a, b, m, n)
		}
	})
}

func TestMergeOfAllSetsOfNodes(t *testing.T) {
	for at, kind := range kinds {
		all(kind, 2, 2, func(a *digest.Digest, m model) {
			all(kinds[1-at], 2, 3, func(b *digest.Digest, n model) {
				merged(t, a, b, m, n)
			})
		})
	}
}

func TestMergeOfMixedDigests(t *testing.T) {
	each(func(kind, l int) {
		other := api.Hash
		if l <= 16 {
			other = kinds[l%2]
		}
		for _, k := range []int{1, 2, 7} {
			for _, j := range []int{1, 3, 7} {
				for at, many := range sizes(k) {
					a, m := mixed(t, api.Conf{L: l, K: k, Kind: kind}, many, uint64(1000*l+many))
					b, n := mixed(t, api.Conf{L: l, K: j, Kind: other}, sizes(j)[len(sizes(j))-1-at], uint64(l+j))
					merged(t, a, b, m, n)
				}
			}
		}
	})
}

// What is merged is merged on, in any shape.
func TestMergeOfWhatWasMerged(t *testing.T) {
	each(func(kind, l int) {
		row := []*digest.Digest{}
		models := []model{}
		for at := range 8 {
			d, m := mixed(t, api.Conf{L: l, K: 3 + at%4, Kind: kind}, 60, uint64(10*l+at))
			row, models = append(row, d), append(models, m)
		}
		seed := uint64(l)
		for len(row) > 1 {
			seed = next(seed)
			at := int(seed>>33) % len(row)
			d, m := row[at], models[at]
			row, models = slices.Delete(row, at, at+1), slices.Delete(models, at, at+1)
			seed = next(seed)
			at = int(seed>>33) % len(row)
			row[at], models[at] = merged(t, row[at], d, models[at], m)
		}
		if row[0].Conf().K != 3 {
			t.Errorf("of %d bits, K is %d", l, row[0].Conf().K)
		}
	})
}

func TestMergeWithItself(t *testing.T) {
	each(func(kind, l int) {
		for _, k := range []int{1, 2, 5} {
			for _, many := range sizes(k) {
				d, m := mixed(t, api.Conf{L: l, K: k, Kind: kind}, many, uint64(l+k))
				twice, n := merged(t, d, d, m, m)
				if twice.N() != 2*d.N() || twice.Conf() != d.Conf() {
					t.Errorf("%v with itself is %v", d.Nodes(), twice.Nodes())
				}
				merged(t, twice, d, n, m)
			}
		}
	})
}

func TestMergeOfAllThatThereMayBe(t *testing.T) {
	pairs(func(kind, other int) {
		for _, r := range []struct {
			one, two int
			want     api.Errno
		}{
			{1, api.Most - 1, api.OK}, {api.Most - 1, 1, api.OK}, {api.Most / 2, api.Most/2 + 1, api.OK}, {api.Most - 1000, 1000, api.OK},
			{1, api.Most, api.ErrFull}, {api.Most, 1, api.ErrFull}, {2, api.Most - 1, api.ErrFull}, {api.Most/2 + 1, api.Most/2 + 1, api.ErrFull}, {api.Most, api.Most, api.ErrFull}, {api.Most - 1000, 1001, api.ErrFull},
		} {
			for _, k := range []int{1, 2, 3, api.MaxK} {
				for x := range 4 {
					a, m := made(t, api.Conf{L: 2, K: k, Kind: kind}, 0, r.one)
					b, n := made(t, api.Conf{L: 2, K: 2, Kind: other}, x, r.two)
					if r.want == api.OK {
						merged(t, a, b, m, n)
						continue
					}
					if d, e := Merge(a, b); d != nil || e != r.want {
						t.Errorf("Merge of %d and %d is %v, %d", r.one, r.two, d, e)
					}
					hold(t, a, m)
					hold(t, b, n)
				}
			}
		}
	})
	// Nothing comes to all that there may be.
	for _, kind := range kinds {
		a, m := made(t, api.Conf{L: 5, K: 2, Kind: kind}, 7, 5, 8, api.Most-5)
		b, n := made(t, api.Conf{L: 5, K: 2, Kind: kind})
		merged(t, a, b, m, n)
		if d, e := Merge(a, a); d != nil || e != api.ErrFull {
			t.Errorf("Merge of all that there may be with itself is %v, %d", d, e)
		}
	}
}

func TestWrongOfMerge(t *testing.T) {
	each(func(kind, l int) {
		full, m := made(t, api.Conf{L: l, K: 2, Kind: kind}, 1, api.Most)
		each(func(other, j int) {
			d, n := made(t, api.Conf{L: j, K: 3, Kind: other}, 0, api.Most)
			want := api.ErrShape
			if j == l {
				want = api.ErrFull
			}
			for _, pair := range [][2]*digest.Digest{{full, d}, {d, full}} {
				if x, e := Merge(pair[0], pair[1]); x != nil || e != want {
					t.Errorf("Merge of %v and %v is %v, %d", pair[0].Conf(), pair[1].Conf(), x, e)
				}
			}
			hold(t, d, n)
		})
		for _, pair := range [][2]*digest.Digest{{nil, nil}, {full, nil}, {nil, full}} {
			if x, e := Merge(pair[0], pair[1]); x != nil || e != api.ErrNone {
				t.Errorf("Merge with nil is %v, %d", x, e)
			}
		}
		hold(t, full, m)
	})
	// No weight at all makes no other universe fit.
	for _, kind := range kinds {
		a, _ := made(t, api.Conf{L: 3, K: 2, Kind: kind})
		b, _ := made(t, api.Conf{L: 4, K: 2, Kind: kind})
		if d, e := Merge(a, b); d != nil || e != api.ErrShape {
			t.Errorf("Merge of two universes is %v, %d", d, e)
		}
	}
}

func TestMergeIsOnItsOwn(t *testing.T) {
	pairs(func(kind, other int) {
		for _, r := range [][2][]int{{{0, 1, 1, 5}, {2, 3}}, {{0, 1, 1, 5}, nil}, {nil, {0, 1, 1, 5}}, {nil, nil}} {
			a, m := made(t, api.Conf{L: 3, K: 4, Kind: kind}, r[0]...)
			b, n := made(t, api.Conf{L: 3, K: 5, Kind: other}, r[1]...)
			c, _ := merged(t, a, b, m, n)
			d, _ := merged(t, a, b, m, n)
			ownWays(t, c, a, b, d)
			ownWays(t, a, b, d)
			ownWays(t, b, d)
		}
	})
}

// P14.3

func TestAll(t *testing.T) {
	each(func(kind, l int) {
		other := api.Hash
		if l <= 16 {
			other = kinds[l%2]
		}
		var row []*digest.Digest
		var models []model
		var want model
		for at := range 9 {
			c := api.Conf{L: l, K: []int{7, 9, 6, 6, 12, 4, 5, 2, 8}[at], Kind: kind}
			if at > 0 {
				c.Kind = other
			}
			d, m := mixed(t, c, 5+at*17%60, uint64(100*l+at))
			row, models = append(row, d), append(models, m)
			if at == 0 {
				want = m.lower(c.K)
			} else {
				// The first one that is merged is the first one as it is.
				first := want
				if at == 1 {
					first = models[0]
				}
				want = first.merge(m)
			}
			given := slices.Clone(row)
			got, e := All(row...)
			if e != api.OK {
				t.Fatalf("All of %d digests of %d bits is %d", len(row), l, e)
			}
			hold(t, got, want)
			stand(t, got, want)
			if !slices.Equal(row, given) {
				t.Fatalf("All has turned its list")
			}
			for at, d := range row {
				hold(t, d, models[at])
			}
		}
	})
}

func TestAllOfOne(t *testing.T) {
	each(func(kind, l int) {
		for _, k := range []int{1, 2, 6, api.MaxK} {
			for _, many := range []int{0, 1, 2, 5, 8} {
				d, m := mixed(t, api.Conf{L: l, K: k, Kind: kind}, many, uint64(l+many))
				got, e := All(d)
				if e != api.OK || got == d {
					t.Fatalf("All of one digest is %d", e)
				}
				hold(t, got, m.lower(k))
				hold(t, d, m)
				ownWays(t, got, d)
			}
		}
	})
}

func TestAllOfManyTimesTheSame(t *testing.T) {
	for _, kind := range kinds {
		d, m := made(t, api.Conf{L: 4, K: 3, Kind: kind}, 0, 1, 5, 2, 6, 2, 15, 9)
		row, want := []*digest.Digest{d}, m.lower(3)
		for many := 2; many <= 50; many++ {
			row = append(row, d)
			want = want.merge(m)
			got, e := All(row...)
			if e != api.OK || got.N() != many*d.N() {
				t.Fatalf("All of %d times the same one is %d", many, e)
			}
			hold(t, got, want)
			stand(t, got, want)
		}
		hold(t, d, m)
	}
}

// They are merged from the first one on: the caps of those that are merged first are less than those of all that comes behind them.
func TestAllFromTheFirstOneOn(t *testing.T) {
	for _, kind := range kinds {
		light, _ := made(t, api.Conf{L: 2, K: 2, Kind: kind}, 0, 1, 1, 1)
		heavy, _ := made(t, api.Conf{L: 2, K: 2, Kind: kind}, 3, 100)
		other, _ := made(t, api.Conf{L: 2, K: 2, Kind: kind}, 2, 1)
		for _, r := range []struct {
			row  []*digest.Digest
			want []api.Node
		}{
			{[]*digest.Digest{light, heavy, other}, []api.Node{{Id: 1, Count: 2}, {Id: 6, Count: 1}, {Id: 7, Count: 100}}},
			{[]*digest.Digest{light, other, heavy}, []api.Node{{Id: 1, Count: 1}, {Id: 4, Count: 1}, {Id: 5, Count: 1}, {Id: 7, Count: 100}}},
			{[]*digest.Digest{heavy, other, light}, []api.Node{{Id: 4, Count: 1}, {Id: 5, Count: 1}, {Id: 6, Count: 1}, {Id: 7, Count: 100}}},
		} {
			if d, e := All(r.row...); e != api.OK || !slices.Equal(d.Nodes(), r.want) {
				t.Errorf("All is %v, %d, and should be %v", d.Nodes(), e, r.want)
			}
		}
	}
}

func TestWrongOfAll(t *testing.T) {
	for _, row := range [][]*digest.Digest{nil, {}, make([]*digest.Digest, 0, 3)} {
		if d, e := All(row...); d != nil || e != api.ErrEmpty {
			t.Errorf("All of none is %v, %d", d, e)
		}
	}
	if d, e := All(); d != nil || e != api.ErrEmpty {
		t.Errorf("All of none is %v, %d", d, e)
	}
	pairs(func(kind, other int) {
		a, m := made(t, api.Conf{L: 3, K: 4, Kind: kind}, 1, 5)
		b, n := made(t, api.Conf{L: 4, K: 4, Kind: other}, 1, 5)
		full, o := made(t, api.Conf{L: 3, K: 4, Kind: other}, 1, api.Most)
		for _, r := range []struct {
			row  []*digest.Digest
			want api.Errno
		}{
			{[]*digest.Digest{nil}, api.ErrNone}, {[]*digest.Digest{nil, nil}, api.ErrNone}, {[]*digest.Digest{a, nil}, api.ErrNone}, {[]*digest.Digest{nil, a}, api.ErrNone}, {[]*digest.Digest{a, a, nil}, api.ErrNone}, {[]*digest.Digest{a, nil, a}, api.ErrNone}, {[]*digest.Digest{nil, a, a}, api.ErrNone},
			{[]*digest.Digest{a, b}, api.ErrShape}, {[]*digest.Digest{a, a, b}, api.ErrShape}, {[]*digest.Digest{a, b, a}, api.ErrShape}, {[]*digest.Digest{b, a, a}, api.ErrShape},
			{[]*digest.Digest{a, full}, api.ErrFull}, {[]*digest.Digest{full, a}, api.ErrFull}, {[]*digest.Digest{a, a, full, a}, api.ErrFull},
			// The first error is told, whatever comes behind it.
			{[]*digest.Digest{a, nil, b, full}, api.ErrNone}, {[]*digest.Digest{a, b, nil, full}, api.ErrShape}, {[]*digest.Digest{a, b, full, nil}, api.ErrShape}, {[]*digest.Digest{a, full, b, nil}, api.ErrFull}, {[]*digest.Digest{a, full, nil, b}, api.ErrFull}, {[]*digest.Digest{a, a, b, b, b}, api.ErrShape}, {[]*digest.Digest{full, full, full}, api.ErrFull}, {[]*digest.Digest{nil, b, full}, api.ErrNone},
		} {
			given := slices.Clone(r.row)
			if d, e := All(r.row...); d != nil || e != r.want || !slices.Equal(r.row, given) {
				t.Errorf("All is %v, %d, and should be %d", d, e, r.want)
			}
			hold(t, a, m)
			hold(t, b, n)
			hold(t, full, o)
		}
	})
}

// What lies behind a list's length is neither read nor written.
func TestAllReadsNoFurther(t *testing.T) {
	for _, kind := range kinds {
		a, m := made(t, api.Conf{L: 3, K: 4, Kind: kind}, 1, 5)
		b, n := made(t, api.Conf{L: 4, K: 4, Kind: kind}, 1, 5)
		row := []*digest.Digest{a, a, b, nil}
		got, e := All(row[:2]...)
		if e != api.OK || !slices.Equal(row, []*digest.Digest{a, a, b, nil}) {
			t.Fatalf("All is %d, and leaves %v", e, row)
		}
		hold(t, got, m.merge(m))
		hold(t, b, n)
		ownWays(t, got, a, b)
	}
}

// P14.4

// leaves is values and their weights, one and the other in turn, of which the first one is given.
func leaves(from, many int) []int {
	var numbers []int
	for x := range many {
		numbers = append(numbers, from+x, 1+x%2)
	}
	return numbers
}

func TestManyNodes(t *testing.T) {
	pairs(func(kind, other int) {
		for _, k := range []int{1, 2, 3, 10, 30} {
			a, m := made(t, api.Conf{L: 12, K: k, Kind: kind}, leaves(0, 8*k)...)
			b, n := made(t, api.Conf{L: 12, K: k + 1, Kind: other}, leaves(4000-8*k, 8*k)...)
			merged(t, a, b, m, n)
			// Less in all than k: all of both are there.
			a, m = made(t, api.Conf{L: 12, K: 30 * k, Kind: kind}, leaves(0, 8*k)...)
			b, n = made(t, api.Conf{L: 12, K: 31 * k, Kind: other}, leaves(4000-8*k, 8*k)...)
			if d, _ := merged(t, a, b, m, n); d.Len() != 16*k {
				t.Errorf("%d nodes are left of %d", d.Len(), 16*k)
			}
		}
	})
}

// Whatever is merged in whatever shape, all weighs what was accepted, and lies where it should.
func TestManyInserts(t *testing.T) {
	for _, r := range [][2]int{{api.Dense, 16}, {api.Hash, 16}, {api.Hash, 48}} {
		var row []*digest.Digest
		whole := model{c: api.Conf{L: r[1], K: 20, Kind: r[0]}, accepted: map[int]int{}}
		for at := range 30 {
			d, m := mixed(t, api.Conf{L: r[1], K: 20 + at%3, Kind: r[0]}, 300, uint64(at))
			row = append(row, d)
			for x, weight := range m.accepted {
				whole.accepted[x] += weight
			}
		}
		d, e := All(row...)
		if e != api.OK || d.Conf() != whole.c || d.Len() > 8*20-2 {
			t.Fatalf("All is %d", e)
		}
		stand(t, d, whole)
		for len(row) > 1 {
			var half []*digest.Digest
			for at := 0; at+1 < len(row); at += 2 {
				both, e := Merge(row[at], row[at+1])
				if e != api.OK {
					t.Fatalf("Merge is %d", e)
				}
				half = append(half, both)
			}
			if len(row)%2 == 1 {
				half = append(half, row[len(row)-1])
			}
			row = half
		}
		stand(t, row[0], whole)
		d.Compress()
		stand(t, d, whole)
	}
}

func TestBothKindsTellTheSame(t *testing.T) {
	for l := 1; l <= 16; l++ {
		for at := range 20 {
			var made [2][]*digest.Digest
			for side, kind := range kinds {
				for j := range 4 {
					d, _ := mixed(t, api.Conf{L: l, K: 1 + (at+3*j)%5, Kind: kind}, 30, uint64(at+100*j+l))
					made[side] = append(made[side], d)
				}
			}
			a, e := All(made[0]...)
			b, f := All(made[1]...)
			if e != api.OK || f != api.OK || !digest.Same(a, b) || a.Conf().Kind != api.Dense || b.Conf().Kind != api.Hash {
				t.Fatalf("of %d bits, All is %v, and of the other kind %v", l, a.Nodes(), b.Nodes())
			}
		}
	}
}
