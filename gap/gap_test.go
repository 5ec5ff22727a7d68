package gap

import (
	"maps"
	"math"
	"math/big"
	"math/bits"
	"slices"
	"testing"

	"dewpond/api"
	"dewpond/bag"
	"dewpond/blend"
	"dewpond/digest"
	"dewpond/recast"
)

// kinds are the kinds of digests.
var kinds = []int{api.Dense, api.Hash}

// odd are numbers far from all values, those of universes' ends, and some ordinary ones, rising.
var odd = []int{math.MinInt, math.MinInt + 1, -1 << 62, -1 << 48, -1<<32 - 1, -65536, -2, -1, 0, 1, 2, 3, 255, 256, 65535, 65536, 1 << 32, 1<<47 - 1, 1 << 47, 1<<48 - 2, 1<<48 - 1, 1 << 48, 1<<48 + 1, 1<<56 - 1, 1 << 56, 1 << 62, math.MaxInt - 1, math.MaxInt}

// load is a digest of these nodes.
func load(t *testing.T, c api.Conf, nodes ...api.Node) *digest.Digest {
	t.Helper()
	d, e := digest.Load(c, nodes)
	if e != api.OK {
		t.Fatalf("there is no digest of %v with %v: %d", c, nodes, e)
	}
	return d
}

// eachKind calls f with each kind and each number of bits for which there are digests.
func eachKind(f func(kind, l int)) {
	for l := 1; l <= 48; l++ {
		if l <= 16 {
			f(api.Dense, l)
		}
		f(api.Hash, l)
	}
}

// next is the number behind n in a row of numbers that looks mixed.
func next(n uint64) uint64 { return n*6364136223846793005 + 1442695040888963407 }

// pair is a digest, and a bag of all that it stands for.
type pair struct {
	d *digest.Digest
	b *bag.Bag
}

// empty is a pair without values.
func empty(t *testing.T, c api.Conf) pair {
	t.Helper()
	b, e := bag.New(c.L)
	if e != api.OK {
		t.Fatalf("there is no bag of %d bits: %d", c.L, e)
	}
	return pair{load(t, c), b}
}

// put inserts a value into both.
func (p pair) put(t *testing.T, x, weight int) {
	t.Helper()
	if one, other := p.d.Insert(x, weight), p.b.Add(x, weight); one != api.OK || other != api.OK {
		t.Fatalf("of %v, %d, %d isn't taken: %d, %d", p.d.Conf(), x, weight, one, other)
	}
}

// mixed is a pair into which so many values were put, often of a few, seldom a heavy one.
func mixed(t *testing.T, c api.Conf, many int, seed uint64) pair {
	t.Helper()
	p := empty(t, c)
	for range many {
		seed = next(seed)
		x := int(seed>>15) % (1 << c.L)
		seed = next(seed)
		weight := 1 + int(seed>>33)%3
		switch seed >> 40 % 8 {
		case 0, 1, 2:
			x %= min(64, 1<<c.L)
		case 3:
			x = 1<<c.L - 1 - x%min(16, 1<<c.L)
		case 4:
			weight += int(seed>>20) % 100
		}
		p.put(t, x, weight)
	}
	return p
}

// whole is n as a number of any size, and product all of these together so.
func whole(n int) *big.Int { return big.NewInt(int64(n)) }

func product(l ...int) *big.Int {
	p := whole(1)
	for _, n := range l {
		p.Mul(p, whole(n))
	}
	return p
}

// endsOf is the first and the last value of a node.
func endsOf(l, id int) (first, last int) {
	below := l + 1 - bits.Len(uint(id))
	first = id<<below - 1<<l
	return first, first + 1<<below - 1
}

// dens are numbers of parts that may be, few some of them, and wrong those that may not.
var (
	dens  = []int{1, 2, 3, 7, 10, 100, 1000, 1<<20 + 1, 1 << 48, math.MaxInt - 1, math.MaxInt}
	few   = []int{1, 7, 1000, math.MaxInt}
	wrong = []int{0, -1, -2, -100, -1 << 48, math.MinInt + 1, math.MinInt}
)

// seen is the bounds of the rank of a number in a digest, and what all weighs.
type seen struct{ low, high, n int }

// see counts what weighs up to x of these nodes.
func see(l int, nodes []api.Node, x int) seen {
	var s seen
	for _, n := range nodes {
		first, last := endsOf(l, n.Id)
		s.n += n.Count
		if first <= x {
			s.high += n.Count
		}
		if last <= x {
			s.low += n.Count
		}
	}
	return s
}

// row is what is seen at some values, rising: at all of a universe, or at just those at which something changes, and its first and last one.
type row struct {
	values []int
	seen   [][2]seen
}

// all is the row of all values of the universe.
func all(a, b *digest.Digest) row {
	var r row
	l, ofA, ofB := a.Conf().L, a.Nodes(), b.Nodes()
	for x := range 1 << l {
		r.values = append(r.values, x)
		r.seen = append(r.seen, [2]seen{see(l, ofA, x), see(l, ofB, x)})
	}
	return r
}

// walk is the row of the values at which something changes, gone along with sums.
func walk(a, b *digest.Digest) row {
	change := map[int][2]seen{0: {}, 1<<a.Conf().L - 1: {}}
	var now [2]seen
	for at, d := range []*digest.Digest{a, b} {
		for _, n := range d.Nodes() {
			first, last := endsOf(d.Conf().L, n.Id)
			c := change[first]
			c[at].high += n.Count
			change[first] = c
			c = change[last]
			c[at].low += n.Count
			change[last] = c
			now[at].n += n.Count
		}
	}
	var r row
	for _, x := range slices.Sorted(maps.Keys(change)) {
		for at := range now {
			now[at].low += change[x][at].low
			now[at].high += change[x][at].high
		}
		r.values = append(r.values, x)
		r.seen = append(r.seen, now)
	}
	return r
}

// sideOfSeen is what Side should be.
func sideOfSeen(s [2]seen) int {
	switch {
	case less(s[1].high, s[0].n, s[0].low, s[1].n):
		return 1
	case less(s[0].high, s[1].n, s[1].low, s[0].n):
		return -1
	}
	return 0
}

// less tells whether a times b is less than c times d; all are counts.
func less(a, b, c, d int) bool {
	high, low := bits.Mul64(uint64(a), uint64(b))
	other, ofOther := bits.Mul64(uint64(c), uint64(d))
	return high < other || high == other && low < ofOther
}

// apart is what Apart should be.
func (r row) apart() (x, side int) {
	for at, s := range r.seen {
		if side := sideOfSeen(s); side != 0 {
			return r.values[at], side
		}
	}
	return 0, 0
}

// parts is how many of den parts of n the bounds are, one rounded down, the other up.
func (s seen) parts(den int) (down, up int) {
	n := uint64(s.n)
	high, low := bits.Mul64(uint64(s.low), uint64(den))
	often, _ := bits.Div64(high, low, n)
	high, low = bits.Mul64(uint64(s.high), uint64(den))
	upOften, rest := bits.Div64(high, low, n)
	if rest > 0 {
		upOften++
	}
	return int(often), int(upOften)
}

// most is what Most should be: High is taken of the differences alone, and not of 0.
func (r row) most(den int) api.Both {
	m := api.Both{Low: 0, High: math.MinInt}
	for _, s := range r.seen {
		aDown, aUp := s[0].parts(den)
		bDown, bUp := s[1].parts(den)
		m.Low = max(m.Low, aDown-bUp, bDown-aUp)
		m.High = max(m.High, aUp-bDown, bUp-aDown)
	}
	return m
}

// hold holds all calls of two digests, both ways about, against such a row, the laws, and Side against what is counted at these values; the digests stay.
func hold(t *testing.T, a, b *digest.Digest, r row, parts []int, values ...int) {
	t.Helper()
	oneBefore, otherBefore := a.Clone(), b.Clone()
	l, ofA, ofB := a.Conf().L, a.Nodes(), b.Nodes()
	wantX, wantSide := r.apart()
	most := map[int]api.Both{}
	for _, den := range parts {
		most[den] = r.most(den)
	}
	for _, way := range []struct {
		a, b *digest.Digest
		sign int
	}{{a, b, 1}, {b, a, -1}} {
		if x, side, e := Apart(way.a, way.b); x != wantX || side != way.sign*wantSide || e != api.OK {
			t.Fatalf("of %v and %v, Apart is %d, %d, %d, and should be %d, %d", way.a.Nodes(), way.b.Nodes(), x, side, e, wantX, way.sign*wantSide)
		}
		for den, want := range most {
			if m, e := Most(way.a, way.b, den); m != want || e != api.OK {
				t.Fatalf("of %v and %v, Most of %d is %v, %d, and should be %v", way.a.Nodes(), way.b.Nodes(), den, m, e, want)
			}
			if want.Low < 0 || want.Low > want.High || want.High > den {
				t.Fatalf("of %v and %v, Most of %d is %v", way.a.Nodes(), way.b.Nodes(), den, want)
			}
		}
		for _, x := range values {
			want := way.sign * sideOfSeen([2]seen{see(l, ofA, x), see(l, ofB, x)})
			if side, e := Side(way.a, way.b, x); side != want || e != api.OK {
				t.Fatalf("of %v and %v, Side of %d is %d, %d, and should be %d", way.a.Nodes(), way.b.Nodes(), x, side, e, want)
			}
			if x >= 0 && x < 1<<l && want != 0 && (wantSide == 0 || x < wantX) {
				t.Fatalf("of %v and %v, Side of %d is %d, and Apart %d, %d", way.a.Nodes(), way.b.Nodes(), x, want, wantX, wantSide)
			}
		}
	}
	if wantSide == 0 && r.most(1000).Low > 0 {
		t.Fatalf("%v and %v are nowhere apart, and Most is %v", a.Nodes(), b.Nodes(), r.most(1000))
	}
	if !digest.Same(a, oneBefore) || a.Conf() != oneBefore.Conf() || !digest.Same(b, otherBefore) || b.Conf() != otherBefore.Conf() {
		t.Fatalf("%v and %v turn to %v and %v", oneBefore.Nodes(), otherBefore.Nodes(), a.Nodes(), b.Nodes())
	}
}

// near is at most some values of a row, each with those beside it, and odd numbers.
func (r row) near(most int) []int {
	values := []int{math.MinInt, -1, math.MaxInt}
	step := 1 + len(r.values)/most
	for at := 0; at < len(r.values); at += step {
		values = append(values, r.values[at]-1, r.values[at], r.values[at]+1)
	}
	return values
}

// holdBoth holds what is told of two digests against the values at which something changes.
func holdBoth(t *testing.T, a, b *digest.Digest) {
	t.Helper()
	r := walk(a, b)
	hold(t, a, b, r, few, r.near(8)...)
}

// holdAll holds what is told of two digests of few bits against all values of the universe.
func holdAll(t *testing.T, a, b *digest.Digest, parts ...int) {
	t.Helper()
	r := all(a, b)
	hold(t, a, b, r, parts, append([]int{math.MinInt, -1, math.MaxInt, 1 << a.Conf().L}, r.values...)...)
}

// ranks is of each of these values, which rise, what all up to it weighs.
func ranks(b *bag.Bag, values []int) []int {
	var sums []int
	items, sum := b.Items(), 0
	for _, x := range values {
		for len(items) > 0 && items[0].Value <= x {
			sum += items[0].Weight
			items = items[1:]
		}
		sums = append(sums, sum)
	}
	return sums
}

// accepted is all values that one of both bags has, rising.
func accepted(a, b *bag.Bag) []int {
	var values []int
	for _, i := range append(a.Items(), b.Items()...) {
		values = append(values, i.Value)
	}
	slices.Sort(values)
	return slices.Compact(values)
}

// within holds what is told of two digests against all that was accepted.
func within(t *testing.T, a, b pair) {
	t.Helper()
	if a.d.N() != a.b.Total() || b.d.N() != b.b.Total() {
		t.Fatalf("N is %d and %d, and %d and %d was accepted", a.d.N(), b.d.N(), a.b.Total(), b.b.Total())
	}
	holdBoth(t, a.d, b.d)
	most := map[int]api.Both{}
	for _, den := range few {
		m, e := Most(a.d, b.d, den)
		if e != api.OK {
			t.Fatalf("Most of %d tells %d", den, e)
		}
		most[den] = m
	}
	farthest := whole(0)
	values := accepted(a.b, b.b)
	ofA, ofB := ranks(a.b, values), ranks(b.b, values)
	x, apart, _ := Apart(a.d, b.d)
	step := 1 + len(values)/20
	for at, value := range values {
		by := product(ofA[at], b.d.N())
		side := by.Sub(by, product(ofB[at], a.d.N())).Sign()
		by.Abs(by)
		if by.Cmp(farthest) > 0 {
			farthest = by
		}
		for den, m := range most {
			if new(big.Int).Mul(by, whole(den)).Cmp(product(m.High, a.d.N(), b.d.N())) > 0 {
				t.Fatalf("of %v and %v, at %d the shares differ by more than %d parts of %d", a.d.Nodes(), b.d.Nodes(), value, m.High, den)
			}
		}
		if at%step != 0 {
			continue
		}
		if told, e := Side(a.d, b.d, value); e != api.OK || told != 0 && told != side {
			t.Fatalf("of %v and %v, at %d Side is %d, %d, and was %d", a.d.Nodes(), b.d.Nodes(), value, told, e, side)
		}
	}
	for den, m := range most {
		if new(big.Int).Mul(farthest, whole(den)).Cmp(product(m.Low, a.d.N(), b.d.N())) < 0 {
			t.Fatalf("of %v and %v, nowhere the shares differ by %d parts of %d", a.d.Nodes(), b.d.Nodes(), m.Low, den)
		}
	}
	if was := product(a.b.Rank(x), b.d.N()).Cmp(product(b.b.Rank(x), a.d.N())); apart != 0 && apart != was {
		t.Fatalf("of %v and %v, Apart is %d, %d, and it was %d", a.d.Nodes(), b.d.Nodes(), x, apart, was)
	}
}

// together holds that two digests, that stand for the same shares, are nowhere apart, and that they surely differ by nothing.
func together(t *testing.T, a, b *digest.Digest) {
	t.Helper()
	holdBoth(t, a, b)
	if x, side, e := Apart(a, b); x != 0 || side != 0 || e != api.OK {
		t.Fatalf("of %v and %v, Apart is %d, %d, %d", a.Nodes(), b.Nodes(), x, side, e)
	}
	for _, den := range few {
		if m, e := Most(a, b, den); m.Low != 0 || e != api.OK {
			t.Fatalf("of %v and %v, Most of %d is %v, %d", a.Nodes(), b.Nodes(), den, m, e)
		}
	}
}

// The chapter's example.

func TestExample(t *testing.T) {
	for _, kind := range kinds {
		for _, other := range kinds {
			a := load(t, api.Conf{L: 1, K: 1, Kind: kind}, api.Node{Id: 2, Count: 1}, api.Node{Id: 3, Count: 1})
			b := load(t, api.Conf{L: 1, K: 4, Kind: other}, api.Node{Id: 3, Count: 5})
			if side, e := Side(a, b, 0); side != 1 || e != api.OK {
				t.Errorf("Side is %d, %d", side, e)
			}
			if x, side, e := Apart(a, b); x != 0 || side != 1 || e != api.OK {
				t.Errorf("Apart is %d, %d, %d", x, side, e)
			}
			if m, e := Most(a, b, 100); m != (api.Both{Low: 50, High: 50}) || e != api.OK {
				t.Errorf("Most is %v, %d", m, e)
			}
		}
	}
}

// P21.1 to P21.3

// nodesOf is nodes of which each stands as two numbers.
func nodesOf(l [][2]int) []api.Node {
	var nodes []api.Node
	for _, n := range l {
		nodes = append(nodes, api.Node{Id: n[0], Count: n[1]})
	}
	return nodes
}

func TestWhatIsTold(t *testing.T) {
	type nodes [][2]int
	for _, r := range []struct {
		a, b  nodes
		sides [8]int // of all values of 3 bits
		den   int
		most  api.Both
	}{
		// Leaves alone: the same, of the same shares, of others.
		{nodes{{8, 5}}, nodes{{8, 5}}, [8]int{}, 10, api.Both{}},
		{nodes{{8, 1}, {15, 2}}, nodes{{8, 3}, {15, 6}}, [8]int{}, 9, api.Both{}},
		{nodes{{8, 1}, {15, 2}}, nodes{{8, 3}, {15, 6}}, [8]int{}, 10, api.Both{Low: 0, High: 1}},
		{nodes{{8, 1}}, nodes{{15, 9}}, [8]int{1, 1, 1, 1, 1, 1, 1, 0}, 10, api.Both{Low: 10, High: 10}},
		{nodes{{15, 1}}, nodes{{11, 9}}, [8]int{0, 0, 0, -1, -1, -1, -1, 0}, 10, api.Both{Low: 10, High: 10}},
		{nodes{{9, 1}, {15, 1}}, nodes{{10, 3}}, [8]int{0, 1, -1, -1, -1, -1, -1, 0}, 10, api.Both{Low: 5, High: 5}},
		{nodes{{9, 1}, {15, 2}}, nodes{{10, 3}}, [8]int{0, 1, -1, -1, -1, -1, -1, 0}, 10, api.Both{Low: 6, High: 7}},
		{nodes{{9, 1}, {15, 2}}, nodes{{10, 3}}, [8]int{0, 1, -1, -1, -1, -1, -1, 0}, 1, api.Both{Low: 0, High: 1}},
		// The shares are just the same at one value, and apart on both its sides.
		{nodes{{8, 1}, {11, 1}, {15, 2}}, nodes{{9, 4}, {14, 4}}, [8]int{1, -1, -1, 0, 0, 0, -1, 0}, 100, api.Both{Low: 50, High: 50}},
		{nodes{{8, 2}, {12, 1}, {13, 1}}, nodes{{9, 4}, {13, 4}}, [8]int{1, 0, 0, 0, 1, 0, 0, 0}, 100, api.Both{Low: 50, High: 50}},
		// The root alone: nothing is sure ahead of the last value.
		{nodes{{1, 3}}, nodes{{8, 1}}, [8]int{}, 10, api.Both{Low: 0, High: 10}},
		{nodes{{1, 3}}, nodes{{15, 1}}, [8]int{}, 10, api.Both{Low: 0, High: 10}},
		{nodes{{1, 3}}, nodes{{1, 2}}, [8]int{}, 10, api.Both{Low: 0, High: 10}},
		// Nodes above leaves: side by side, within one another, at one value alone apart.
		{nodes{{2, 1}}, nodes{{3, 1}}, [8]int{0, 0, 0, 1, 0, 0, 0, 0}, 10, api.Both{Low: 10, High: 10}},
		{nodes{{3, 1}}, nodes{{2, 1}}, [8]int{0, 0, 0, -1, 0, 0, 0, 0}, 10, api.Both{Low: 10, High: 10}},
		{nodes{{2, 1}, {15, 3}}, nodes{{3, 8}}, [8]int{0, 0, 0, 1, 0, 0, 0, 0}, 100, api.Both{Low: 25, High: 75}},
		{nodes{{4, 1}, {7, 1}}, nodes{{5, 1}}, [8]int{0, 1, 0, -1, -1, -1, 0, 0}, 10, api.Both{Low: 5, High: 5}},
		{nodes{{2, 1}, {5, 2}}, nodes{{13, 1}}, [8]int{0, 0, 0, 1, 1, 0, 0, 0}, 10, api.Both{Low: 10, High: 10}},
		// A Low just as great as a High is not above it.
		{nodes{{8, 1}, {15, 1}}, nodes{{1, 2}, {15, 2}}, [8]int{}, 10, api.Both{Low: 0, High: 5}},
		{nodes{{8, 2}, {15, 1}}, nodes{{1, 2}, {15, 2}}, [8]int{1, 1, 1, 1, 1, 1, 1, 0}, 12, api.Both{Low: 2, High: 8}},
		{nodes{{8, 1}, {15, 2}}, nodes{{4, 1}, {8, 1}, {15, 1}}, [8]int{0, -1, -1, -1, -1, -1, -1, 0}, 3, api.Both{Low: 1, High: 1}},
	} {
		for _, kind := range kinds {
			a := load(t, api.Conf{L: 3, K: 1, Kind: kind}, nodesOf(r.a)...)
			b := load(t, api.Conf{L: 3, K: 1, Kind: api.Hash}, nodesOf(r.b)...)
			first := -1
			for x, want := range r.sides {
				if side, e := Side(a, b, x); side != want || e != api.OK {
					t.Errorf("of %v and %v, Side of %d is %d, %d, and should be %d", r.a, r.b, x, side, e, want)
				}
				if first < 0 && want != 0 {
					first = x
				}
			}
			x, side, e := Apart(a, b)
			if first < 0 && (x != 0 || side != 0) || first >= 0 && (x != first || side != r.sides[first]) || e != api.OK {
				t.Errorf("of %v and %v, Apart is %d, %d, %d", r.a, r.b, x, side, e)
			}
			if m, e := Most(a, b, r.den); m != r.most || e != api.OK {
				t.Errorf("of %v and %v, Most of %d is %v, %d, and should be %v", r.a, r.b, r.den, m, e, r.most)
			}
			holdAll(t, a, b, r.den)
		}
	}
}

// refuse holds that of these two digests, both ways about, all calls tell that error.
func refuse(t *testing.T, a, b *digest.Digest, want api.Errno) {
	t.Helper()
	for _, way := range [][2]*digest.Digest{{a, b}, {b, a}} {
		for _, n := range odd {
			if side, e := Side(way[0], way[1], n); side != 0 || e != want {
				t.Fatalf("Side of %d is %d, %d, and the error should be %d", n, side, e, want)
			}
			if m, e := Most(way[0], way[1], n); m != (api.Both{}) || e != want {
				t.Fatalf("Most of %d is %v, %d, and the error should be %d", n, m, e, want)
			}
		}
		if x, side, e := Apart(way[0], way[1]); x != 0 || side != 0 || e != want {
			t.Fatalf("Apart is %d, %d, %d, and the error should be %d", x, side, e, want)
		}
	}
}

// Nil is told ahead of another universe, this ahead of nothing in it, and that ahead of parts that may not be.
func TestErrors(t *testing.T) {
	refuse(t, nil, nil, api.ErrNone)
	eachKind(func(kind, l int) {
		c := api.Conf{L: l, K: 1, Kind: kind}
		none, one := load(t, c), load(t, c, api.Node{Id: 1, Count: 1})
		refuse(t, none, nil, api.ErrNone)
		refuse(t, one, nil, api.ErrNone)
		refuse(t, none, none, api.ErrEmpty)
		refuse(t, none, one, api.ErrEmpty)
		other := api.Conf{L: 1 + l%48, K: 1, Kind: api.Hash}
		refuse(t, one, load(t, other, api.Node{Id: 1, Count: 1}), api.ErrShape)
		refuse(t, one, load(t, other), api.ErrShape)
		refuse(t, none, load(t, other, api.Node{Id: 1, Count: 1}), api.ErrShape)
		refuse(t, none, load(t, other), api.ErrShape)
		for _, den := range wrong {
			if m, e := Most(one, one, den); m != (api.Both{}) || e != api.ErrArg {
				t.Errorf("Most of %d is %v, %d", den, m, e)
			}
		}
		holdBoth(t, one, one)
		one.Reset()
		refuse(t, one, one, api.ErrEmpty)
	})
}

// Digests of different k, and of both kinds, are of one shape; with one leaf each nothing is unsure.
func TestLeaves(t *testing.T) {
	eachKind(func(kind, l int) {
		last := 1<<l - 1
		for _, r := range [][2]int{{0, 0}, {0, 1}, {0, last}, {last, last}, {last - 1, last}, {last / 2, last/2 + 1}, {last / 3, last}} {
			a, b := load(t, api.Conf{L: l, K: 1, Kind: kind}), load(t, api.Conf{L: l, K: api.MaxK, Kind: api.Hash})
			a.Insert(r[0], 3)
			b.Insert(r[1], api.Most)
			holdBoth(t, a, b)
			want := 0
			if r[0] < r[1] {
				want = 1
			}
			if x, side, e := Apart(a, b); x != r[0]*want || side != want || e != api.OK {
				t.Errorf("of %v, Apart is %d, %d, %d", r, x, side, e)
			}
			for _, x := range []int{math.MinInt, -1, r[0] - 1, r[0], r[1] - 1, r[1], last, last + 1, math.MaxInt} {
				at := 0
				if x >= r[0] && x < r[1] {
					at = 1
				}
				if side, e := Side(a, b, x); side != at || e != api.OK {
					t.Errorf("of %v, Side of %d is %d, %d", r, x, side, e)
				}
				if side, e := Side(b, a, x); side != -at || e != api.OK {
					t.Errorf("of %v, turned about, Side of %d is %d, %d", r, x, side, e)
				}
			}
			for _, den := range dens {
				if m, e := Most(a, b, den); m != (api.Both{Low: want * den, High: want * den}) || e != api.OK {
					t.Errorf("of %v, Most of %d is %v, %d", r, den, m, e)
				}
			}
		}
	})
}

// All calls.

// setsOf is a digest of each set of nodes of l bits that there is for this k; the weights hang on a number.
func setsOf(kind, l, k, number int) []*digest.Digest {
	var sets []*digest.Digest
	for set := 1; set < 1<<(2<<l-1); set++ {
		var nodes []api.Node
		for id := 1; id < 2<<l; id++ {
			if set>>(id-1)%2 == 1 {
				nodes = append(nodes, api.Node{Id: id, Count: 1 + (id*number+set)%3})
			}
		}
		if d, e := digest.Load(api.Conf{L: l, K: k, Kind: kind}, nodes); e == api.OK {
			sets = append(sets, d)
		}
	}
	return sets
}

// Of 1 and 2 bits each set of nodes beside each one.
func TestAllSetsOfNodes(t *testing.T) {
	for l := 1; l <= 2; l++ {
		for k := 1; k <= 3; k++ {
			ones, others := setsOf(api.Dense, l, k, 1), setsOf(api.Hash, l, 1, 2)
			for _, a := range ones {
				for _, b := range others {
					holdAll(t, a, b, 1, 3, 100)
				}
			}
		}
	}
}

// Of 3 bits each set of nodes beside a few of them.
func TestSetsOfThreeBits(t *testing.T) {
	ones, others := setsOf(api.Hash, 3, 1, 1), setsOf(api.Dense, 3, 2, 2)
	for at, a := range ones {
		if at%7 == 0 {
			holdAll(t, a, others[at*7919%len(others)], 10)
		}
	}
}

// Each node beside each one, of all universes up to 4 bits.
func TestAllNodes(t *testing.T) {
	for l := 1; l <= 4; l++ {
		for one := 1; one < 2<<l; one++ {
			for other := 1; other < 2<<l; other++ {
				a := load(t, api.Conf{L: l, K: 1, Kind: api.Dense}, api.Node{Id: one, Count: 7})
				b := load(t, api.Conf{L: l, K: 1, Kind: api.Hash}, api.Node{Id: other, Count: 3})
				holdAll(t, a, b, 10)
			}
		}
	}
}

// P21.4

func TestMixedDigests(t *testing.T) {
	eachKind(func(kind, l int) {
		for _, k := range []int{1, 10} {
			for _, many := range []int{1, 7 * k, 30 * k} {
				a := mixed(t, api.Conf{L: l, K: k, Kind: kind}, many, uint64(100*l+k+many))
				b := mixed(t, api.Conf{L: l, K: k + 2, Kind: api.Hash}, 2*many+1, uint64(7*l+k+many))
				within(t, a, b)
				a.d.Compress()
				within(t, a, a)
				b.d.Compress()
				within(t, a, b)
				if l <= 4 {
					holdAll(t, a.d, b.d, 100)
				}
			}
		}
	})
}

// What stands for the same, or for the same any number of times, is nowhere apart, however it came about.
func TestTheSameIsNowhereApart(t *testing.T) {
	eachKind(func(kind, l int) {
		for _, k := range []int{4} {
			p := mixed(t, api.Conf{L: l, K: k, Kind: kind}, 50*k, uint64(l+k))
			together(t, p.d, p.d)
			together(t, p.d, p.d.Clone())
			tight := p.d.Clone()
			tight.Compress()
			together(t, p.d, tight)
			lower, e := blend.Lower(p.d, 1)
			if e != api.OK {
				t.Fatal(e)
			}
			together(t, p.d, lower)
			fine := mixed(t, api.Conf{L: l, K: 1000, Kind: api.Hash}, 50*k, uint64(l+k))
			together(t, fine.d, p.d)
			together(t, lower, fine.d)
			tripled, e := blend.All(p.d, p.d, p.d)
			if e != api.OK {
				t.Fatal(e)
			}
			together(t, tripled, p.d)
			together(t, fine.d, tripled)
		}
	})
}

func TestWhatIsMade(t *testing.T) {
	eachKind(func(kind, l int) {
		for _, k := range []int{1, 4} {
			a := mixed(t, api.Conf{L: l, K: k, Kind: kind}, 12*k, uint64(l+k))
			b := mixed(t, api.Conf{L: l, K: k + 1, Kind: api.Hash}, 30*k, uint64(7*l+k))
			merged, e := blend.All(b.d, a.d, b.d)
			both, e2 := bag.New(l)
			if e != api.OK || e2 != api.OK || both.Pour(a.b) != api.OK || both.Pour(b.b) != api.OK || both.Pour(b.b) != api.OK {
				t.Fatalf("they aren't merged: %d", e)
			}
			within(t, pair{merged, both}, a)
			within(t, b, pair{merged, both})
			greater := 48
			if kind == api.Dense {
				greater = 16
			}
			grown, e := recast.Grow(b.d, greater)
			wider, e2 := b.b.Wider(greater)
			grownToo, e3 := recast.Grow(a.d, greater)
			widerToo, e4 := a.b.Wider(greater)
			if e != api.OK || e2 != api.OK || e3 != api.OK || e4 != api.OK {
				t.Fatal(e, e2, e3, e4)
			}
			within(t, pair{grown, wider}, pair{grownToo, widerToo})
			for _, by := range []int{0, l / 2, l - 1} {
				coarse, e := recast.Coarsen(merged, by)
				image, e2 := both.Image(by)
				coarseToo, e3 := recast.Coarsen(a.d, by)
				imageToo, e4 := a.b.Image(by)
				if e != api.OK || e2 != api.OK || e3 != api.OK || e4 != api.OK {
					t.Fatal(e, e2, e3, e4)
				}
				within(t, pair{coarse, image}, pair{coarseToo, imageToo})
			}
		}
	})
}

// All that may weigh, in few values and in many: what is compared has more than 64 bits.
func TestHeavyDigests(t *testing.T) {
	eachKind(func(kind, l int) {
		var pairs []pair
		for at, k := range []int{1, 2, 5, api.MaxK} {
			many := min(10*k, 40)
			p := empty(t, api.Conf{L: l, K: k, Kind: kind})
			for place := range many {
				p.put(t, (place+at)*7919%(1<<l), api.Most/many-at)
			}
			p.put(t, 1<<l-1, api.Most-p.d.N())
			if p.d.N() != api.Most {
				t.Fatalf("N is %d", p.d.N())
			}
			pairs = append(pairs, p)
		}
		light := mixed(t, api.Conf{L: l, K: 3, Kind: api.Hash}, 20, uint64(l))
		for at, p := range pairs {
			within(t, p, light)
			within(t, p, pairs[(at+1)%len(pairs)])
			p.d.Compress()
			within(t, light, p)
		}
	})
}

// Of all that may weigh, the shares differ by the least that there can be: by one of Most times Most and 1 less.
func TestJustApart(t *testing.T) {
	const most = api.Most
	eachKind(func(kind, l int) {
		c := api.Conf{L: l, K: 1, Kind: kind}
		zero, last := 1<<l, 2<<l-1
		a := load(t, c, api.Node{Id: zero, Count: most / 2}, api.Node{Id: last, Count: most - most/2})
		b := load(t, c, api.Node{Id: zero, Count: most / 2}, api.Node{Id: last, Count: most - most/2 - 1})
		holdBoth(t, a, b)
		if x, side, e := Apart(a, b); x != 0 || side != -1 || e != api.OK {
			t.Errorf("Apart is %d, %d, %d", x, side, e)
		}
		if x, side, e := Apart(b, a); x != 0 || side != 1 || e != api.OK {
			t.Errorf("turned about, Apart is %d, %d, %d", x, side, e)
		}
		// At 1<<l - 2 they are still apart, at the last value no more.
		for _, r := range [][2]int{{1<<l - 2, -1}, {1<<l - 1, 0}} {
			if side, e := Side(a, b, r[0]); side != r[1] || e != api.OK {
				t.Errorf("Side of %d is %d, %d", r[0], side, e)
			}
		}
		if m, e := Most(a, b, 2); m != (api.Both{Low: 0, High: 1}) || e != api.OK {
			t.Errorf("Most of 2 is %v, %d", m, e)
		}
	})
}

func TestBothKindsTellTheSame(t *testing.T) {
	for l := 1; l <= 16; l++ {
		for many := 1; many < 60; many += 9 {
			var told [4][]int
			for at := range told {
				a := mixed(t, api.Conf{L: l, K: 3, Kind: 1 + at%2}, many, uint64(100*l+many)).d
				b := mixed(t, api.Conf{L: l, K: 2, Kind: 1 + at/2}, 2*many, uint64(31*l+many)).d
				x, side, _ := Apart(a, b)
				told[at] = append(told[at], x, side)
				for _, n := range odd {
					side, _ := Side(a, b, n)
					m, e := Most(a, b, n)
					told[at] = append(told[at], side, m.Low, m.High, int(e))
				}
			}
			for at := range told {
				if !slices.Equal(told[at], told[0]) {
					t.Fatalf("it is told %v, and of other kinds %v", told[0], told[at])
				}
			}
		}
	}
}

// A great many nodes.
func TestManyNodes(t *testing.T) {
	for _, c := range []api.Conf{{L: 48, K: 1500, Kind: api.Hash}, {L: 16, K: 1500, Kind: api.Dense}, {L: 10, K: 30, Kind: api.Dense}} {
		a, b := mixed(t, c, 30000, 1), mixed(t, c, 25000, 2)
		within(t, a, b)
		a.d.Compress()
		within(t, b, a)
		together(t, a.d, a.d)
	}
	c := api.Conf{L: 10, K: 30, Kind: api.Hash}
	holdAll(t, mixed(t, c, 20000, 2).d, mixed(t, c, 20000, 3).d, 1000)
}

// Where something changes is found out once for all, and no value is asked behind the first that is apart.
func TestChanges(t *testing.T) {
	a := load(t, api.Conf{L: 3, K: 1, Kind: api.Dense}, api.Node{Id: 2, Count: 1}, api.Node{Id: 9, Count: 1})
	b := load(t, api.Conf{L: 3, K: 1, Kind: api.Hash}, api.Node{Id: 3, Count: 1}, api.Node{Id: 15, Count: 1})
	var values []int
	for x := range changes(a, b) {
		values = append(values, x)
	}
	if want := []int{0, 1, 3, 4, 7}; !slices.Equal(values, want) {
		t.Errorf("they are %v, and should be %v", values, want)
	}
	values = nil
	for x := range changes(a, b) {
		values = append(values, x)
		if x == 3 {
			break
		}
	}
	if want := []int{0, 1, 3}; !slices.Equal(values, want) {
		t.Errorf("till 3 they are %v, and should be %v", values, want)
	}
}
