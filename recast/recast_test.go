package recast

import (
	"maps"
	"math"
	"math/bits"
	"slices"
	"testing"

	"dewpond/api"
	"dewpond/digest"
)

// kinds are the kinds of digests.
var kinds = []int{api.Dense, api.Hash}

// odd are numbers that are bits of no universe, nor a kind.
var odd = []int{math.MinInt, math.MinInt + 1, math.MinInt + 48, -1 << 32, -1<<32 + 1, -64, -49, -48, -47, -16, -2, -1, 49, 50, 62, 63, 64, 65, 96, 128, 256, 257, 1 << 16, 1<<16 + 1, 1 << 32, 1<<32 + 1, 1<<32 + 2, math.MaxInt - 48, math.MaxInt - 1, math.MaxInt}

// model is what a digest should be: a map of nodes, and one of all values that were accepted.
type model struct {
	c        api.Conf
	weights  map[int]int
	accepted map[int]int
}

// each calls f with each kind and each number of bits for which there are digests.
func each(f func(kind, l int)) {
	for l := 1; l <= 48; l++ {
		if l <= 16 {
			f(api.Dense, l)
		}
		f(api.Hash, l)
	}
}

// most is how many bits there are at most for a kind.
func most(kind int) int {
	if kind == api.Dense {
		return 16
	}
	return 48
}

func (m model) total() int {
	sum := 0
	for _, weight := range m.weights {
		sum += weight
	}
	return sum
}

func (m model) nodes() []api.Node {
	var l []api.Node
	for _, id := range slices.Sorted(maps.Keys(m.weights)) {
		l = append(l, api.Node{Id: id, Count: m.weights[id]})
	}
	return l
}

// light tells whether nothing but leaves weighs more than the cap.
func (m model) light() bool {
	most := m.total() / m.c.K
	for id, weight := range m.weights {
		if id < 1<<m.c.L && weight > most {
			return false
		}
	}
	return true
}

// depth is how many steps a node is below the root.
func depth(id int) int { return bits.Len(uint(id)) - 1 }

// grow is what Grow should make: of each depth a node keeps its number there.
func (m model) grow(l int) model {
	big := model{m.c, map[int]int{}, m.accepted}
	big.c.L = l
	for id, weight := range m.weights {
		number := id - 1<<depth(id)
		big.weights[1<<(depth(id)+l-m.c.L)+number] = weight
	}
	return big
}

// coarsen is what Coarsen should make: what is too deep goes up step by step.
func (m model) coarsen(by int) model {
	small := model{m.c, map[int]int{}, map[int]int{}}
	small.c.L = m.c.L - by
	for id, weight := range m.weights {
		for depth(id) > small.c.L {
			id /= 2
		}
		small.weights[id] += weight
	}
	for x, weight := range m.accepted {
		small.accepted[x>>by] += weight
	}
	return small
}

// turn is what Turn should make.
func (m model) turn(kind int) model {
	m.c.Kind = kind
	return m
}

// made is a digest of values and their weights, one and the other in turn, with room for all of them.
func made(t *testing.T, c api.Conf, numbers ...int) (*digest.Digest, model) {
	t.Helper()
	d, e := digest.New(c)
	if e != api.OK {
		t.Fatalf("there is no digest of %v: %d", c, e)
	}
	m := model{c, map[int]int{}, map[int]int{}}
	for at := 0; at < len(numbers); at += 2 {
		x, weight := numbers[at], numbers[at+1]
		if e := d.Insert(x, weight); e != api.OK {
			t.Fatalf("of %v, Insert of %d, %d is %d", c, x, weight, e)
		}
		m.weights[1<<c.L+x] += weight
		m.accepted[x] += weight
	}
	hold(t, d, m)
	return d, m
}

// loaded is a digest of the nodes that the model has, each of which stands for the last value that it holds; nil, if there is none.
func loaded(c api.Conf, weights map[int]int) (*digest.Digest, model) {
	m := model{c, weights, map[int]int{}}
	for id, weight := range weights {
		for id < 1<<c.L {
			id = 2*id + 1
		}
		m.accepted[id-1<<c.L] += weight
	}
	d, _ := digest.Load(c, m.nodes())
	return d, m
}

// next is the number behind n in a row of numbers that looks mixed.
func next(n uint64) uint64 { return n*6364136223846793005 + 1442695040888963407 }

// mixed is a digest into which so many values were inserted, often of a few, seldom a heavy one; where there was no room, it was folded.
func mixed(t *testing.T, c api.Conf, many int, seed uint64) (*digest.Digest, model) {
	t.Helper()
	d, e := digest.New(c)
	if e != api.OK {
		t.Fatalf("there is no digest of %v: %d", c, e)
	}
	accepted := map[int]int{}
	for range many {
		seed = next(seed)
		x := int(seed>>15) % (1 << c.L)
		seed = next(seed)
		weight := 1 + int(seed>>33)%3
		switch seed >> 40 % 8 {
		case 0, 1, 2:
			x %= min(64, 1<<c.L)
		case 3:
			x = 1<<c.L - 1 - x%min(16, 1<<c.L)
		case 4:
			weight += int(seed>>20) % 100
		}
		if e := d.Insert(x, weight); e != api.OK {
			t.Fatalf("of %v, Insert of %d, %d is %d", c, x, weight, e)
		}
		accepted[x] += weight
	}
	m := model{c, map[int]int{}, accepted}
	for _, n := range d.Nodes() {
		m.weights[n.Id] = n.Count
	}
	return d, m
}

// hold holds all that a digest has against what it should.
func hold(t *testing.T, d *digest.Digest, m model) {
	t.Helper()
	nodes := m.nodes()
	if d == nil {
		t.Fatalf("there is none, and it should be of %v and %v", m.c, nodes)
	}
	if got := d.Nodes(); !slices.Equal(got, nodes) || d.Conf() != m.c {
		t.Fatalf("the digest is of %v and %v, and should be of %v and %v", d.Conf(), got, m.c, nodes)
	}
	if d.N() != m.total() || d.Len() != len(nodes) || d.Cap() != m.total()/m.c.K || d.Room() != 8*m.c.K {
		t.Fatalf("of %v with %v, N is %d, Len %d, Cap %d, Room %d", m.c, nodes, d.N(), d.Len(), d.Cap(), d.Room())
	}
	if d.Len() > d.Room() || !m.light() {
		t.Fatalf("%v with %v is too large, or not light", m.c, nodes)
	}
}

// stand holds what the nodes weigh against all that was accepted.
func stand(t *testing.T, d *digest.Digest, m model) {
	t.Helper()
	holds, has, there := map[int]int{}, map[int]int{}, map[int]int{}
	for x, weight := range m.accepted {
		for id := 1<<m.c.L + x; id > 0; id /= 2 {
			holds[id] += weight
		}
	}
	for _, n := range d.Nodes() {
		there[n.Id] = n.Count
		for id := n.Id; id > 0; id /= 2 {
			has[id] += n.Count
			holds[id] += 0
		}
	}
	if d.N() != holds[1] {
		t.Fatalf("N is %d, and %d was accepted", d.N(), holds[1])
	}
	for id, weight := range holds {
		above := 0
		for up := id / 2; up > 0; up /= 2 {
			above += there[up]
		}
		if has[id] > weight || has[id]+above < weight {
			t.Fatalf("of %v, %d holds %d, and has %d, and %d above it", m.c, id, weight, has[id], above)
		}
	}
}

// right holds what a call made of a digest against the model, with the laws; what was handed in stays.
func right(t *testing.T, d, made *digest.Digest, e api.Errno, m, want model) {
	t.Helper()
	if e != api.OK {
		t.Fatalf("of %v with %v to %v it is %d", m.c, m.nodes(), want.c, e)
	}
	hold(t, made, want)
	hold(t, d, m)
	stand(t, made, want)
	if made == d || made.N() != d.N() || made.Len() > d.Len() || made.Conf().K != d.Conf().K || made.Cap() != d.Cap() {
		t.Fatalf("of %v with %v it is %v with %v", m.c, m.nodes(), made.Conf(), made.Nodes())
	}
}

// grown is Grow, held against the model.
func grown(t *testing.T, d *digest.Digest, m model, l int) (*digest.Digest, model) {
	t.Helper()
	big, e := Grow(d, l)
	want := m.grow(l)
	right(t, d, big, e, m, want)
	if big.Len() != d.Len() {
		t.Fatalf("Grow of %v with %v to %d is %v", m.c, m.nodes(), l, big.Nodes())
	}
	return big, want
}

// coarse is Coarsen, held against the model.
func coarse(t *testing.T, d *digest.Digest, m model, by int) (*digest.Digest, model) {
	t.Helper()
	small, e := Coarsen(d, by)
	want := m.coarsen(by)
	right(t, d, small, e, m, want)
	return small, want
}

// turned is Turn, held against the model.
func turned(t *testing.T, d *digest.Digest, m model, kind int) (*digest.Digest, model) {
	t.Helper()
	other, e := Turn(d, kind)
	want := m.turn(kind)
	right(t, d, other, e, m, want)
	if !digest.Same(other, d) {
		t.Fatalf("Turn of %v with %v to %d is %v", m.c, m.nodes(), kind, other.Nodes())
	}
	return other, want
}

// everywhere holds all that a digest can be made to against the model.
func everywhere(t *testing.T, d *digest.Digest, m model) {
	t.Helper()
	for l := m.c.L; l <= most(m.c.Kind); l++ {
		grown(t, d, m, l)
	}
	for by := range m.c.L {
		coarse(t, d, m, by)
	}
	for _, kind := range kinds {
		if m.c.L <= most(kind) {
			turned(t, d, m, kind)
		}
	}
}

// all calls f with a digest of each set of nodes of l bits that there is for a k up to the greatest one.
func all(kind, l, greatest int, f func(d *digest.Digest, m model)) {
	for set := range 1 << (2<<l - 1) {
		weights := map[int]int{}
		for id := 1; id < 2<<l; id++ {
			if set>>(id-1)&1 == 1 {
				weights[id] = 1 + (id+set)%3
			}
		}
		for k := 1; k <= greatest; k++ {
			if d, m := loaded(api.Conf{L: l, K: k, Kind: kind}, weights); d != nil {
				f(d, m)
			}
		}
	}
}

// sizes are numbers of values for some k: fewer than there is room for, just as many, and more.
func sizes(k int) []int { return []int{0, 1, k, 4 * k, 8 * k, 30 * k} }

// The chapter's example.

func TestExample(t *testing.T) {
	for _, kind := range kinds {
		d, e := digest.Load(api.Conf{L: 2, K: 1, Kind: kind}, []api.Node{{Id: 5, Count: 3}})
		if e != api.OK {
			t.Fatal(e)
		}
		big, e := Grow(d, 4)
		if e != api.OK || big.Conf() != (api.Conf{L: 4, K: 1, Kind: kind}) || !slices.Equal(big.Nodes(), []api.Node{{Id: 17, Count: 3}}) {
			t.Error(e, big.Nodes())
		}
		small, e := Coarsen(d, 1)
		if e != api.OK || small.Conf() != (api.Conf{L: 1, K: 1, Kind: kind}) || !slices.Equal(small.Nodes(), []api.Node{{Id: 2, Count: 3}}) {
			t.Error(e, small.Nodes())
		}
	}
}

// P15.1

func TestGrow(t *testing.T) {
	for _, kind := range kinds {
		for _, r := range []struct {
			l, k  int
			nodes []api.Node
			big   int
			want  []api.Node
		}{
			{2, 3, nil, 2, nil}, {2, 3, nil, 3, nil}, {1, 1, nil, 16, nil},
			{1, 1, []api.Node{{Id: 1, Count: 2}, {Id: 2, Count: 1}, {Id: 3, Count: 5}}, 1, []api.Node{{Id: 1, Count: 2}, {Id: 2, Count: 1}, {Id: 3, Count: 5}}},
			{1, 1, []api.Node{{Id: 1, Count: 2}, {Id: 2, Count: 1}, {Id: 3, Count: 5}}, 2, []api.Node{{Id: 2, Count: 2}, {Id: 4, Count: 1}, {Id: 5, Count: 5}}},
			{1, 1, []api.Node{{Id: 1, Count: 2}, {Id: 2, Count: 1}, {Id: 3, Count: 5}}, 16, []api.Node{{Id: 1 << 15, Count: 2}, {Id: 1 << 16, Count: 1}, {Id: 1<<16 + 1, Count: 5}}},
			{3, 1, []api.Node{{Id: 1, Count: 1}, {Id: 3, Count: 4}, {Id: 4, Count: 2}, {Id: 5, Count: 1}, {Id: 7, Count: 9}, {Id: 8, Count: 1}, {Id: 13, Count: 2}, {Id: 15, Count: 3}}, 5, []api.Node{{Id: 4, Count: 1}, {Id: 9, Count: 4}, {Id: 16, Count: 2}, {Id: 17, Count: 1}, {Id: 19, Count: 9}, {Id: 32, Count: 1}, {Id: 37, Count: 2}, {Id: 39, Count: 3}}},
			{2, 1, []api.Node{{Id: 1, Count: api.Most - 1}, {Id: 7, Count: 1}}, 3, []api.Node{{Id: 2, Count: api.Most - 1}, {Id: 11, Count: 1}}},
			{15, 2, []api.Node{{Id: 1 << 15, Count: 3}, {Id: 1<<16 - 1, Count: 4}}, 16, []api.Node{{Id: 1 << 16, Count: 3}, {Id: 1<<16 + 1<<15 - 1, Count: 4}}},
		} {
			c := api.Conf{L: r.l, K: r.k, Kind: kind}
			d, e := digest.Load(c, r.nodes)
			if e != api.OK {
				t.Fatalf("there is no digest of %v with %v", c, r.nodes)
			}
			big, e := Grow(d, r.big)
			if e != api.OK || big.Conf() != (api.Conf{L: r.big, K: r.k, Kind: kind}) || !slices.Equal(big.Nodes(), r.want) {
				t.Errorf("Grow of %v with %v to %d is %v, %d, and should be %v", c, r.nodes, r.big, big.Nodes(), e, r.want)
			}
		}
	}
	for _, r := range [][4]int{{1, 48, 3, 1<<48 + 1}, {47, 48, 1<<48 - 1, 1<<48 + 1<<47 - 1}, {48, 48, 1<<49 - 1, 1<<49 - 1}, {48, 48, 1, 1}, {17, 48, 1, 1 << 31}, {16, 17, 1<<17 - 1, 1<<17 + 1<<16 - 1}} {
		d, e := digest.Load(api.Conf{L: r[0], K: 1, Kind: api.Hash}, []api.Node{{Id: r[2], Count: 7}})
		if e != api.OK {
			t.Fatal(e)
		}
		if big, e := Grow(d, r[1]); e != api.OK || !slices.Equal(big.Nodes(), []api.Node{{Id: r[3], Count: 7}}) {
			t.Errorf("Grow of %d of %d bits to %d is %v, %d", r[2], r[0], r[1], big.Nodes(), e)
		}
	}
}

func TestWrongOfGrow(t *testing.T) {
	for _, l := range append([]int{0, 1, 2, 16, 17, 48}, odd...) {
		if d, e := Grow(nil, l); d != nil || e != api.ErrNone {
			t.Errorf("Grow of nil to %d is %v, %d", l, d, e)
		}
	}
	each(func(kind, l int) {
		for _, numbers := range [][]int{nil, {0, 1, 1, 5}, {1, api.Most}} {
			d, m := made(t, api.Conf{L: l, K: 2, Kind: kind}, numbers...)
			wrong := slices.Clone(odd)
			for below := range l {
				wrong = append(wrong, below)
			}
			for above := most(kind) + 1; above <= 64; above++ {
				wrong = append(wrong, above)
			}
			for _, to := range wrong {
				if big, e := Grow(d, to); big != nil || e != api.ErrArg {
					t.Errorf("Grow of %v with %v to %d is %v, %d", d.Conf(), numbers, to, big, e)
				}
			}
			hold(t, d, m)
			grown(t, d, m, l)
			grown(t, d, m, most(kind))
		}
	})
}

// P15.2

func TestCoarsen(t *testing.T) {
	for _, kind := range kinds {
		for _, r := range []struct {
			l, k  int
			nodes []api.Node
			by    int
			want  []api.Node
		}{
			{1, 3, nil, 0, nil}, {2, 3, nil, 1, nil}, {16, 1, nil, 15, nil},
			{2, 1, []api.Node{{Id: 1, Count: 2}, {Id: 2, Count: 1}, {Id: 4, Count: 1}, {Id: 5, Count: 3}, {Id: 7, Count: 5}}, 0, []api.Node{{Id: 1, Count: 2}, {Id: 2, Count: 1}, {Id: 4, Count: 1}, {Id: 5, Count: 3}, {Id: 7, Count: 5}}},
			{2, 1, []api.Node{{Id: 1, Count: 2}, {Id: 2, Count: 1}, {Id: 4, Count: 1}, {Id: 5, Count: 3}, {Id: 7, Count: 5}}, 1, []api.Node{{Id: 1, Count: 2}, {Id: 2, Count: 5}, {Id: 3, Count: 5}}},
			{3, 1, []api.Node{{Id: 1, Count: 1}, {Id: 3, Count: 4}, {Id: 4, Count: 2}, {Id: 5, Count: 1}, {Id: 7, Count: 9}, {Id: 8, Count: 1}, {Id: 13, Count: 2}, {Id: 15, Count: 3}}, 1, []api.Node{{Id: 1, Count: 1}, {Id: 3, Count: 4}, {Id: 4, Count: 3}, {Id: 5, Count: 1}, {Id: 6, Count: 2}, {Id: 7, Count: 12}}},
			{3, 1, []api.Node{{Id: 1, Count: 1}, {Id: 3, Count: 4}, {Id: 4, Count: 2}, {Id: 5, Count: 1}, {Id: 7, Count: 9}, {Id: 8, Count: 1}, {Id: 13, Count: 2}, {Id: 15, Count: 3}}, 2, []api.Node{{Id: 1, Count: 1}, {Id: 2, Count: 4}, {Id: 3, Count: 18}}},
			// What was no leaf is one, and weighs more than the cap, which is 2.
			{3, 4, []api.Node{{Id: 4, Count: 2}, {Id: 8, Count: 1}, {Id: 9, Count: 5}}, 1, []api.Node{{Id: 4, Count: 8}}},
			{2, 1, []api.Node{{Id: 2, Count: 1}, {Id: 4, Count: api.Most - 2}, {Id: 5, Count: 1}}, 1, []api.Node{{Id: 2, Count: api.Most}}},
			{16, 2, []api.Node{{Id: 1 << 16, Count: 3}, {Id: 1<<17 - 1, Count: 4}}, 15, []api.Node{{Id: 2, Count: 3}, {Id: 3, Count: 4}}},
			// What could be folded isn't.
			{3, 1, []api.Node{{Id: 8, Count: 1}, {Id: 9, Count: 1}, {Id: 10, Count: 1}, {Id: 15, Count: 1}}, 1, []api.Node{{Id: 4, Count: 2}, {Id: 5, Count: 1}, {Id: 7, Count: 1}}},
		} {
			c := api.Conf{L: r.l, K: r.k, Kind: kind}
			d, e := digest.Load(c, r.nodes)
			if e != api.OK {
				t.Fatalf("there is no digest of %v with %v", c, r.nodes)
			}
			small, e := Coarsen(d, r.by)
			if e != api.OK || small.Conf() != (api.Conf{L: r.l - r.by, K: r.k, Kind: kind}) || !slices.Equal(small.Nodes(), r.want) {
				t.Errorf("Coarsen of %v with %v by %d is %v, %d, and should be %v", c, r.nodes, r.by, small.Nodes(), e, r.want)
			}
		}
	}
	for _, r := range [][4]int{{48, 47, 1<<49 - 1, 3}, {48, 47, 1 << 48, 2}, {48, 1, 1<<49 - 1, 1<<48 - 1}, {48, 31, 1<<49 - 2, 1<<18 - 1}, {48, 0, 1<<49 - 2, 1<<49 - 2}, {17, 1, 1 << 16, 1 << 16}, {17, 2, 1 << 16, 1 << 15}} {
		d, e := digest.Load(api.Conf{L: r[0], K: 1, Kind: api.Hash}, []api.Node{{Id: r[2], Count: 7}})
		if e != api.OK {
			t.Fatal(e)
		}
		if small, e := Coarsen(d, r[1]); e != api.OK || !slices.Equal(small.Nodes(), []api.Node{{Id: r[3], Count: 7}}) {
			t.Errorf("Coarsen of %d of %d bits by %d is %v, %d", r[2], r[0], r[1], small.Nodes(), e)
		}
	}
}

func TestWrongOfCoarsen(t *testing.T) {
	for _, by := range append([]int{0, 1, 2, 47, 48}, odd...) {
		if d, e := Coarsen(nil, by); d != nil || e != api.ErrNone {
			t.Errorf("Coarsen of nil by %d is %v, %d", by, d, e)
		}
	}
	each(func(kind, l int) {
		for _, numbers := range [][]int{nil, {0, 1, 1, 5}, {1, api.Most}} {
			d, m := made(t, api.Conf{L: l, K: 2, Kind: kind}, numbers...)
			wrong := slices.Clone(odd)
			for by := l; by <= 64; by++ {
				wrong = append(wrong, by)
			}
			for _, by := range append(wrong, l-64, -l, 1-l, math.MinInt+l, math.MaxInt-l) {
				if by >= 0 && by < l {
					continue
				}
				if small, e := Coarsen(d, by); small != nil || e != api.ErrArg {
					t.Errorf("Coarsen of %v with %v by %d is %v, %d", d.Conf(), numbers, by, small, e)
				}
			}
			hold(t, d, m)
			coarse(t, d, m, 0)
			coarse(t, d, m, l-1)
		}
	})
}

// P15.3

func TestTurn(t *testing.T) {
	nodes := []api.Node{{Id: 1, Count: 1}, {Id: 2, Count: 4}, {Id: 3, Count: 2}, {Id: 4, Count: 9}, {Id: 6, Count: 1}, {Id: 7, Count: api.Most - 17}}
	for _, kind := range kinds {
		for _, to := range kinds {
			d, e := digest.Load(api.Conf{L: 2, K: 3, Kind: kind}, nodes)
			if e != api.OK {
				t.Fatal(e)
			}
			other, e := Turn(d, to)
			if e != api.OK || other.Conf() != (api.Conf{L: 2, K: 3, Kind: to}) || !slices.Equal(other.Nodes(), nodes) || other.N() != api.Most {
				t.Errorf("Turn from %d to %d is %v, %d", kind, to, other.Nodes(), e)
			}
			back, e := Turn(other, kind)
			if e != api.OK || back.Conf() != d.Conf() || !slices.Equal(back.Nodes(), nodes) {
				t.Errorf("Turn from %d to %d and back is %v, %d", kind, to, back.Nodes(), e)
			}
		}
	}
}

func TestWrongOfTurn(t *testing.T) {
	for _, kind := range append([]int{0, 1, 2, 3}, odd...) {
		if d, e := Turn(nil, kind); d != nil || e != api.ErrNone {
			t.Errorf("Turn of nil to %d is %v, %d", kind, d, e)
		}
	}
	each(func(kind, l int) {
		for _, numbers := range [][]int{nil, {0, 1, 1, 5}, {1, api.Most}} {
			d, m := made(t, api.Conf{L: l, K: 2, Kind: kind}, numbers...)
			wrong := append([]int{0, 3, 4, l + 2, 16, 17, 48}, odd...)
			if l > 16 {
				wrong = append(wrong, api.Dense)
			}
			for _, to := range wrong {
				if other, e := Turn(d, to); other != nil || e != api.ErrArg {
					t.Errorf("Turn of %v with %v to %d is %v, %d", d.Conf(), numbers, to, other, e)
				}
			}
			hold(t, d, m)
			turned(t, d, m, kind)
			turned(t, d, m, api.Hash)
		}
	})
}

// All calls.

func TestAllSetsOfNodes(t *testing.T) {
	for _, kind := range kinds {
		many := 0
		all(kind, 2, 3, func(d *digest.Digest, m model) {
			many++
			everywhere(t, d, m)
		})
		if many < 1<<6 {
			t.Errorf("there are %d digests", many)
		}
	}
	all(api.Hash, 3, 3, func(d *digest.Digest, m model) {
		grown(t, d, m, 4)
		coarse(t, d, m, 1)
		coarse(t, d, m, 2)
		turned(t, d, m, api.Dense)
	})
}

func TestMixedDigests(t *testing.T) {
	each(func(kind, l int) {
		for _, k := range []int{1, 3} {
			for _, many := range sizes(k) {
				d, m := mixed(t, api.Conf{L: l, K: k, Kind: kind}, many, uint64(100*l+k+many))
				everywhere(t, d, m)
			}
		}
	})
}

// With as many nodes as there is room for, as many are made; a digest is not folded, be it tight or not.
func TestNothingIsFolded(t *testing.T) {
	each(func(kind, l int) {
		if l < 5 {
			return
		}
		for _, k := range []int{1, 2, 4} {
			var numbers []int
			for x := range 8 * k {
				numbers = append(numbers, x<<(l-5), 1)
			}
			d, m := made(t, api.Conf{L: l, K: k, Kind: kind}, numbers...)
			if d.Len() != d.Room() {
				t.Fatalf("%d nodes of %d", d.Len(), d.Room())
			}
			grown(t, d, m, most(kind))
			small, _ := coarse(t, d, m, l-5)
			turned(t, d, m, api.Hash)
			if small.Len() != d.Len() {
				t.Errorf("Coarsen of %d nodes has %d", d.Len(), small.Len())
			}
		}
	})
}

// ownWays lets a digest go on, which no other one may tell.
func ownWays(t *testing.T, d *digest.Digest, others ...*digest.Digest) {
	t.Helper()
	var were []*digest.Digest
	for _, other := range others {
		were = append(were, other.Clone())
	}
	for _, step := range []func(){func() { d.Insert(1, 3) }, func() { d.Insert(0, 7) }, func() { d.Compress() }, d.Reset, func() { d.Insert(1, 4) }} {
		step()
		for at, other := range others {
			if !digest.Same(other, were[at]) {
				t.Fatalf("%v turns to %v", were[at].Nodes(), other.Nodes())
			}
		}
	}
}

// What is made goes its own way, also where nothing moves.
func TestEachIsOnItsOwn(t *testing.T) {
	each(func(kind, l int) {
		d, m := made(t, api.Conf{L: l, K: 8, Kind: kind}, 0, 1, 1, 5)
		makers := []func() (*digest.Digest, model){
			func() (*digest.Digest, model) { return grown(t, d, m, l) },
			func() (*digest.Digest, model) { return grown(t, d, m, most(kind)) },
			func() (*digest.Digest, model) { return coarse(t, d, m, 0) },
			func() (*digest.Digest, model) { return coarse(t, d, m, l-1) },
			func() (*digest.Digest, model) { return turned(t, d, m, kind) },
			func() (*digest.Digest, model) { return turned(t, d, m, api.Hash) },
		}
		for _, maker := range makers {
			one, _ := maker()
			other, _ := maker()
			ownWays(t, one, d, other)
			ownWays(t, d.Clone(), d, other)
		}
		last, _ := turned(t, d, m, kind)
		ownWays(t, d, last)
	})
}

// What was grown takes the values of its own universe, and folds above its own leaves; so does what was coarsened.
func TestInsertGoesOn(t *testing.T) {
	each(func(kind, l int) {
		for _, k := range []int{1, 5} {
			d, m := mixed(t, api.Conf{L: l, K: k, Kind: kind}, 10*k, uint64(l+k))
			big, n := grown(t, d, m, min(l+3, most(kind)))
			small, o := coarse(t, d, m, l/2)
			for at, x := range []*digest.Digest{big, small} {
				its := []model{n, o}[at]
				accepted := maps.Clone(its.accepted)
				seed := uint64(l)
				for range 20 * k {
					seed = next(seed)
					v := int(seed>>15) % (1 << its.c.L)
					if e := x.Insert(v, 2); e != api.OK {
						t.Fatalf("of %v, Insert of %d is %d", its.c, v, e)
					}
					accepted[v] += 2
				}
				if e := x.Insert(1<<its.c.L-1, 1); e != api.OK {
					t.Fatalf("of %v, Insert of the last value is %d", its.c, e)
				}
				accepted[1<<its.c.L-1]++
				if e := x.Insert(1<<its.c.L, 1); e != api.ErrRange {
					t.Fatalf("of %v, Insert behind the last value is %d", its.c, e)
				}
				stand(t, x, model{its.c, nil, accepted})
				x.Compress()
				stand(t, x, model{its.c, nil, accepted})
			}
		}
	})
}

// P15.4

func TestTwoStepsAreAsOne(t *testing.T) {
	each(func(kind, l int) {
		for _, many := range []int{0, 5, 60} {
			d, m := mixed(t, api.Conf{L: l, K: 4, Kind: kind}, many, uint64(l+many))
			for _, far := range []int{l, l + 1, l + 5, most(kind)} {
				if far > most(kind) {
					continue
				}
				at, _ := grown(t, d, m, far)
				for half := l; half <= far; half++ {
					way, n := grown(t, d, m, half)
					end, _ := grown(t, way, n, far)
					if !digest.Same(end, at) || end.Conf() != at.Conf() {
						t.Errorf("Grow of %v to %d and %d is %v, and at once %v", d.Nodes(), half, far, end.Nodes(), at.Nodes())
					}
				}
			}
			for _, by := range []int{0, 1, l / 2, l - 1} {
				if by >= l {
					continue
				}
				at, _ := coarse(t, d, m, by)
				for half := 0; half <= by; half++ {
					way, n := coarse(t, d, m, half)
					end, _ := coarse(t, way, n, by-half)
					if !digest.Same(end, at) || end.Conf() != at.Conf() {
						t.Errorf("Coarsen of %v by %d and %d is %v, and at once %v", d.Nodes(), half, by-half, end.Nodes(), at.Nodes())
					}
				}
			}
		}
	})
}

func TestBothKindsTellTheSame(t *testing.T) {
	for l := 1; l <= 16; l++ {
		for many := range 40 {
			var made [2]*digest.Digest
			for side, kind := range kinds {
				made[side], _ = mixed(t, api.Conf{L: l, K: 3, Kind: kind}, many, uint64(100*l+many))
			}
			for to := 1; to <= 16; to++ {
				var both [2]*digest.Digest
				var errors [2]api.Errno
				for side, d := range made {
					if to >= l {
						both[side], errors[side] = Grow(d, to)
					} else {
						both[side], errors[side] = Coarsen(d, l-to)
					}
				}
				if errors != [2]api.Errno{} || !digest.Same(both[0], both[1]) || both[0].Conf().Kind != api.Dense || both[1].Conf().Kind != api.Hash {
					t.Fatalf("from %d bits to %d it is %v, and of the other kind %v", l, to, both[0].Nodes(), both[1].Nodes())
				}
				x, e := Turn(both[0], api.Hash)
				y, f := Turn(both[1], api.Dense)
				if e != api.OK || f != api.OK || !digest.Same(x, y) || x.Conf() != both[1].Conf() || y.Conf() != both[0].Conf() {
					t.Fatalf("Turn is %v, and the other way round %v", x.Nodes(), y.Nodes())
				}
			}
		}
	}
}

// A table is grown beyond what an array is made for; what was coarsened enough is turned to an array.
func TestWaysFromOneKindToTheOther(t *testing.T) {
	for l := 1; l <= 16; l++ {
		d, m := mixed(t, api.Conf{L: l, K: 5, Kind: api.Dense}, 70, uint64(l))
		table, n := turned(t, d, m, api.Hash)
		big, o := grown(t, table, n, 48)
		if x, e := Turn(big, api.Dense); x != nil || e != api.ErrArg {
			t.Errorf("Turn of 48 bits to an array is %v, %d", x, e)
		}
		for by := 32; by < 48; by++ {
			small, p := coarse(t, big, o, by)
			turned(t, small, p, api.Dense)
		}
		small, p := coarse(t, big, o, 31)
		if x, e := Turn(small, api.Dense); x != nil || e != api.ErrArg {
			t.Errorf("Turn of 17 bits to an array is %v, %d", x, e)
		}
		hold(t, small, p)
	}
}

func TestGreatestK(t *testing.T) {
	for _, k := range []int{api.MaxK - 1, api.MaxK} {
		for _, kind := range kinds {
			d, m := made(t, api.Conf{L: 7, K: k, Kind: kind}, 0, 1, 1, 5, 77, api.MaxK, 127, 3)
			everywhere(t, d, m)
		}
	}
}

// A digest of a great many nodes.
func TestManyNodes(t *testing.T) {
	d, m := mixed(t, api.Conf{L: 48, K: 3000, Kind: api.Hash}, 40000, 1)
	for _, by := range []int{1, 20, 32} {
		coarse(t, d, m, by)
	}
	small, n := coarse(t, d, m, 34)
	turned(t, small, n, api.Dense)
	grown(t, small, n, 40)
}
