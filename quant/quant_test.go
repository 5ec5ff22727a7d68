package quant

import (
	"math"
	"math/big"
	"math/bits"
	"slices"
	"testing"

	"dewpond/api"
	"dewpond/bag"
	"dewpond/blend"
	"dewpond/digest"
	"dewpond/rank"
	"dewpond/recast"
	"dewpond/span"
)

// kinds are the kinds of digests.
var kinds = []int{api.Dense, api.Hash}

// never are numbers that are ranks in no digest.
var never = []int{math.MinInt, math.MinInt + 1, -1 << 62, -1<<56 - 1, -1 << 56, -1 << 48, -1<<32 - 1, -1 << 32, -1<<32 + 1, -65536, -2, -1, 0, 1 << 56, 1<<56 + 1, 1 << 62, math.MaxInt - 1, math.MaxInt}

// few is the nodes of the chapter's example.
var few = []api.Node{{Id: 1, Count: 1}, {Id: 4, Count: 2}, {Id: 7, Count: 3}}

// load is a digest of these nodes.
func load(t *testing.T, c api.Conf, nodes ...api.Node) *digest.Digest {
	t.Helper()
	d, e := digest.Load(c, nodes)
	if e != api.OK {
		t.Fatalf("there is no digest of %v with %v: %d", c, nodes, e)
	}
	return d
}

// eachKind calls f with each kind and each number of bits for which there are digests.
func eachKind(f func(kind, l int)) {
	for l := 1; l <= 48; l++ {
		if l <= 16 {
			f(api.Dense, l)
		}
		f(api.Hash, l)
	}
}

// next is the number behind n in a row of numbers that looks mixed.
func next(n uint64) uint64 { return n*6364136223846793005 + 1442695040888963407 }

// pair is a digest, and a bag of all that it stands for.
type pair struct {
	d *digest.Digest
	b *bag.Bag
}

// empty is a pair without values.
func empty(t *testing.T, c api.Conf) pair {
	t.Helper()
	b, e := bag.New(c.L)
	if e != api.OK {
		t.Fatalf("there is no bag of %d bits: %d", c.L, e)
	}
	return pair{load(t, c), b}
}

// put inserts a value into both.
func (p pair) put(t *testing.T, x, weight int) {
	t.Helper()
	if one, other := p.d.Insert(x, weight), p.b.Add(x, weight); one != api.OK || other != api.OK {
		t.Fatalf("of %v, %d, %d isn't taken: %d, %d", p.d.Conf(), x, weight, one, other)
	}
}

// mixed is a pair into which so many values were put, often of a few, seldom a heavy one.
func mixed(t *testing.T, c api.Conf, many int, seed uint64) pair {
	t.Helper()
	p := empty(t, c)
	for range many {
		seed = next(seed)
		x := int(seed>>15) % (1 << c.L)
		seed = next(seed)
		weight := 1 + int(seed>>33)%3
		switch seed >> 40 % 8 {
		case 0, 1, 2:
			x %= min(64, 1<<c.L)
		case 3:
			x = 1<<c.L - 1 - x%min(16, 1<<c.L)
		case 4:
			weight += int(seed>>20) % 100
		}
		p.put(t, x, weight)
	}
	return p
}

// ends is the first and the last value of a node.
func ends(l, id int) (first, last int) {
	below := l + 1 - bits.Len(uint(id))
	first = id<<below - 1<<l
	return first, first + 1<<below - 1
}

// low is what the nodes weigh whose values are all at most x.
func low(d *digest.Digest, x int) int {
	sum := 0
	for _, n := range d.Nodes() {
		if _, last := ends(d.Conf().L, n.Id); last <= x {
			sum += n.Count
		}
	}
	return sum
}

// high is what all but the nodes weigh whose values are all above x.
func high(d *digest.Digest, x int) int {
	sum := d.N()
	for _, n := range d.Nodes() {
		if first, _ := ends(d.Conf().L, n.Id); first > x {
			sum -= n.Count
		}
	}
	return sum
}

// isLeast tells whether y is the least value of d's universe at which a bound that never falls isn't below r.
func isLeast(d *digest.Digest, bound func(d *digest.Digest, x int) int, y, r int) bool {
	if y < 0 || y >= 1<<d.Conf().L || bound(d, y) < r {
		return false
	}
	return y == 0 || bound(d, y-1) < r
}

// ranks are the ranks at which something may change, those beside them, and some between.
func ranks(d *digest.Digest) []int {
	n := d.N()
	l := []int{1, 2, n / 3, n / 2, n - 1, n}
	for _, node := range d.Nodes() {
		first, last := ends(d.Conf().L, node.Id)
		for _, sum := range []int{low(d, last), high(d, first), low(d, first), high(d, last)} {
			l = append(l, sum-1, sum, sum+1)
		}
	}
	slices.Sort(l)
	l = slices.Compact(l)
	return slices.DeleteFunc(l, func(r int) bool { return r < 1 || r > n })
}

// hold holds what is told of some ranks, which rise, against the digest's nodes, and the laws; the digest stays.
func hold(t *testing.T, d *digest.Digest, l []int) {
	t.Helper()
	before := d.Clone()
	lastLo, lastY := 0, 0
	var all []int
	for _, r := range l {
		y, e := At(d, r)
		if e != api.OK || !isLeast(d, low, y, r) {
			t.Fatalf("of %v with %v, At(%d) is %d, %d", d.Conf(), d.Nodes(), r, y, e)
		}
		s, e := Span(d, r)
		lo, hi, ok := span.Ends(s)
		if e != api.OK || !ok || hi != y || !isLeast(d, high, lo, r) {
			t.Fatalf("of %v with %v, Span of %d is %v, %d, and At is %d", d.Conf(), d.Nodes(), r, s, e, y)
		}
		if lo < lastLo || y < lastY {
			t.Fatalf("of %v with %v, Span of %d is %v, and of a lesser rank %d and %d", d.Conf(), d.Nodes(), r, s, lastLo, lastY)
		}
		lastLo, lastY = lo, y
		all = append(all, y)
	}
	wrong := api.ErrArg
	if d.N() == 0 {
		wrong = api.ErrEmpty
	}
	refuse(t, d, append([]int{d.N() + 1}, never...), wrong)
	if got, e := Many(d, l...); e != api.OK || !slices.Equal(got, all) {
		t.Fatalf("of %v with %v, Many of %v is %v, %d, and should be %v", d.Conf(), d.Nodes(), l, got, e, all)
	}
	if !digest.Same(d, before) || d.Conf() != before.Conf() {
		t.Fatalf("%v turns to %v", before.Nodes(), d.Nodes())
	}
}

// refuse holds the answers to what are no ranks, each of which is that error.
func refuse(t *testing.T, d *digest.Digest, l []int, want api.Errno) {
	t.Helper()
	for _, r := range l {
		if y, e := At(d, r); y != 0 || e != want {
			t.Fatalf("of %v with %v, At(%d) is %d, %d, and the error should be %d", d.Conf(), d.Nodes(), r, y, e, want)
		}
		if s, e := Span(d, r); s != 0 || e != want {
			t.Fatalf("of %v with %v, Span of %d is %v, %d, and the error should be %d", d.Conf(), d.Nodes(), r, s, e, want)
		}
		for _, many := range [][]int{{r}, {1, r}, {r, 1}, {1, 1, r}} {
			if got, e := Many(d, many...); len(got) != 0 || e != want {
				t.Fatalf("of %v with %v, Many of %v is %v, %d, and the error should be %d", d.Conf(), d.Nodes(), many, got, e, want)
			}
		}
	}
}

// within holds what is told of some ranks against all that was accepted.
func within(t *testing.T, p pair, l []int) {
	t.Helper()
	hold(t, p.d, l)
	if p.d.N() != p.b.Total() {
		t.Fatalf("of %v, N is %d, and %d were accepted", p.d.Conf(), p.d.N(), p.b.Total())
	}
	slack := rank.Slack(p.d)
	for _, r := range l {
		y, _ := At(p.d, r)
		if p.b.Rank(y) < r || p.b.Rank(y-1) >= r+slack {
			t.Fatalf("of %v, At(%d) is %d, of the rank %d, the one ahead of it %d, with Slack %d", p.d.Conf(), r, y, p.b.Rank(y), p.b.Rank(y-1), slack)
		}
		s, _ := Span(p.d, r)
		if x, e := p.b.Kth(r); e != api.OK || !span.Holds(s, x) {
			t.Fatalf("of %v, Span of %d is %v, and %d has that rank", p.d.Conf(), r, s, x)
		}
	}
	if p.d.N() == 0 {
		return
	}
	greatest := 0
	for _, n := range p.d.Nodes() {
		_, last := ends(p.d.Conf().L, n.Id)
		greatest = max(greatest, last)
	}
	if s, e := Span(p.d, p.d.N()); e != api.OK || int(imag(s)) != greatest {
		t.Fatalf("of %v with %v, Span of N is %v", p.d.Conf(), p.d.Nodes(), s)
	}
}

// The chapter's example.

func TestExample(t *testing.T) {
	for _, kind := range kinds {
		d := load(t, api.Conf{L: 2, K: 1, Kind: kind}, few...)
		if y, e := At(d, 2); y != 0 || e != api.OK {
			t.Error(y, e)
		}
		if y, e := At(d, 3); y != 3 || e != api.OK {
			t.Error(y, e)
		}
		if s, e := Span(d, 3); s != 0+3i || e != api.OK {
			t.Error(s, e)
		}
		if y, e := Median(d); y != 3 || e != api.OK {
			t.Error(y, e)
		}
	}
}

// P17.1

func TestAtAndSpan(t *testing.T) {
	for _, kind := range kinds {
		for _, r := range []struct {
			l     int
			nodes []api.Node
			spans []complex128 // of the ranks from 1 on
		}{
			{2, few, []complex128{0, 0, 0 + 3i, 3 + 3i, 3 + 3i, 3 + 3i}},
			{1, []api.Node{{Id: 2, Count: 1}}, []complex128{0}},
			{1, []api.Node{{Id: 3, Count: 2}}, []complex128{1 + 1i, 1 + 1i}},
			{1, []api.Node{{Id: 1, Count: 1}}, []complex128{0 + 1i}},
			{1, []api.Node{{Id: 1, Count: 1}, {Id: 2, Count: 1}}, []complex128{0, 0 + 1i}},
			{1, []api.Node{{Id: 1, Count: 1}, {Id: 3, Count: 1}}, []complex128{0 + 1i, 1 + 1i}},
			{1, []api.Node{{Id: 2, Count: 2}, {Id: 3, Count: 1}}, []complex128{0, 0, 1 + 1i}},
			{2, []api.Node{{Id: 2, Count: 1}, {Id: 3, Count: 1}}, []complex128{0 + 1i, 2 + 3i}},
			{2, []api.Node{{Id: 1, Count: 1}, {Id: 2, Count: 1}, {Id: 5, Count: 1}}, []complex128{0 + 1i, 0 + 1i, 1 + 3i}},
			{3, []api.Node{{Id: 5, Count: 1}, {Id: 6, Count: 1}, {Id: 11, Count: 2}}, []complex128{2 + 3i, 3 + 3i, 3 + 3i, 4 + 5i}},
			{3, []api.Node{{Id: 3, Count: 2}, {Id: 12, Count: 1}, {Id: 14, Count: 1}}, []complex128{4 + 4i, 4 + 6i, 4 + 7i, 6 + 7i}},
			{16, []api.Node{{Id: 2, Count: 1}, {Id: 1<<17 - 1, Count: 1}}, []complex128{0 + 32767i, 65535 + 65535i}},
		} {
			d := load(t, api.Conf{L: r.l, K: 1, Kind: kind}, r.nodes...)
			if d.N() != len(r.spans) {
				t.Fatalf("%v weighs %d", r.nodes, d.N())
			}
			for place, want := range r.spans {
				if s, e := Span(d, place+1); s != want || e != api.OK {
					t.Errorf("of %d bits with %v, Span of %d is %v, %d, and should be %v", r.l, r.nodes, place+1, s, e, want)
				}
				if y, e := At(d, place+1); y != int(imag(want)) || e != api.OK {
					t.Errorf("of %d bits with %v, At(%d) is %d, %d, and should be %v", r.l, r.nodes, place+1, y, e, imag(want))
				}
			}
			hold(t, d, ranks(d))
		}
	}
}

func TestEdges(t *testing.T) {
	eachKind(func(kind, l int) {
		last := 1<<l - 1
		for _, k := range []int{1, 2, 1000, api.MaxK} {
			for _, r := range [][4]int{{0, api.Most, 0, 0}, {last, api.Most, 0, 0}, {0, api.Most - 1, last, 1}, {0, 1, last, api.Most - 1}, {1, api.Most / 2, 0, api.Most/2 + 1}} {
				p := empty(t, api.Conf{L: l, K: k, Kind: kind})
				for at := 0; at < 4; at += 2 {
					if r[at+1] > 0 {
						p.put(t, r[at], r[at+1])
					}
				}
				if p.d.N() != api.Most {
					t.Fatalf("N is %d", p.d.N())
				}
				within(t, p, ranks(p.d))
				p.d.Compress()
				within(t, p, ranks(p.d))
			}
		}
		d := load(t, api.Conf{L: l, K: 1, Kind: kind}, api.Node{Id: 1, Count: api.Most})
		for _, r := range []int{1, 2, api.Most / 2, api.Most - 1, api.Most} {
			if s, e := Span(d, r); s != complex(0, float64(last)) || e != api.OK {
				t.Errorf("of %d bits with all at the root, Span of %d is %v, %d", l, r, s, e)
			}
			if y, e := At(d, r); y != last || e != api.OK {
				t.Errorf("of %d bits with all at the root, At(%d) is %d, %d", l, r, y, e)
			}
		}
		hold(t, d, ranks(d))
	})
}

func TestNilAndEmpty(t *testing.T) {
	odd := append([]int{1, 2, 100, api.Most}, never...)
	refuse(t, nil, odd, api.ErrNone)
	eachKind(func(kind, l int) {
		d := load(t, api.Conf{L: l, K: 3, Kind: kind})
		refuse(t, d, odd, api.ErrEmpty)
		if e := d.Insert(1, 1); e != api.OK {
			t.Fatal(e)
		}
		hold(t, d, []int{1})
		d.Reset()
		refuse(t, d, odd, api.ErrEmpty)
	})
}

func TestWrongRanks(t *testing.T) {
	for _, kind := range kinds {
		d := load(t, api.Conf{L: 2, K: 1, Kind: kind}, few...)
		refuse(t, d, never, api.ErrArg)
		refuse(t, d, []int{7, 8, 1 << 32, 1<<32 + 1, 1<<32 + 3, api.Most}, api.ErrArg)
	}
}

// P17.2

// part is what Rank should be, reckoned with numbers of any size: the first one from 1 on that den times isn't below n times num.
func part(n, num, den int) int {
	whole := new(big.Int).Mul(big.NewInt(int64(n)), big.NewInt(int64(num)))
	up, rest := whole.QuoRem(whole, big.NewInt(int64(den)), new(big.Int))
	r := int(up.Int64())
	if rest.Sign() > 0 {
		r++
	}
	if r == 0 {
		return 1
	}
	return r
}

// parts holds Rank, Of and Median against At, of many parts.
func parts(t *testing.T, d *digest.Digest) {
	t.Helper()
	n := d.N()
	dens := []int{1, 2, 3, 4, 7, 10, 100, 1000, n - 1, n, n + 1, 2 * n, 1 << 32, 1<<56 - 1, 1 << 62, math.MaxInt - 1, math.MaxInt}
	for _, den := range dens {
		for _, num := range []int{0, 1, 2, den / 3, den / 2, den/2 + 1, den - 2, den - 1, den, den + 1, math.MaxInt, -1, -den, math.MinInt} {
			r, e := Rank(d, num, den)
			y, e2 := Of(d, num, den)
			if den < 1 || num < 0 || num > den {
				if r != 0 || y != 0 || e != api.ErrArg || e2 != api.ErrArg {
					t.Fatalf("of %d, Rank of %d parts of %d is %d, %d, Of %d, %d", n, num, den, r, e, y, e2)
				}
				continue
			}
			if want := part(n, num, den); r != want || e != api.OK {
				t.Fatalf("of %d, Rank of %d parts of %d is %d, %d, and should be %d", n, num, den, r, e, want)
			}
			if want, e := At(d, r); y != want || e != api.OK || e2 != api.OK || !isLeast(d, low, y, r) {
				t.Fatalf("of %d, Of %d parts of %d is %d, %d, and should be %d", n, num, den, y, e2, want)
			}
		}
	}
	if y, e := Median(d); e != api.OK || !isLeast(d, low, y, (n+1)/2) {
		t.Fatalf("of %v, Median is %d, %d", d.Nodes(), y, e)
	}
}

func TestRankAndOf(t *testing.T) {
	for _, kind := range kinds {
		d := load(t, api.Conf{L: 2, K: 1, Kind: kind}, few...)
		for _, r := range []struct{ num, den, rank, value int }{
			{0, 1, 1, 0}, {0, math.MaxInt, 1, 0}, {1, 1, 6, 3}, {1, 2, 3, 3}, {1, 3, 2, 0}, {2, 3, 4, 3}, {1, 4, 2, 0}, {3, 4, 5, 3},
			{1, 6, 1, 0}, {1, 7, 1, 0}, {2, 7, 2, 0}, {3, 7, 3, 3}, {33, 100, 2, 0}, {34, 100, 3, 3}, {100, 100, 6, 3}, {99, 100, 6, 3}, {1, 100, 1, 0},
			{math.MaxInt, math.MaxInt, 6, 3}, {math.MaxInt - 1, math.MaxInt, 6, 3}, {1, math.MaxInt, 1, 0}, {math.MaxInt / 2, math.MaxInt, 3, 3}, {math.MaxInt / 3, math.MaxInt, 2, 0},
		} {
			if got, e := Rank(d, r.num, r.den); got != r.rank || e != api.OK {
				t.Errorf("Rank of %d parts of %d is %d, %d, and should be %d", r.num, r.den, got, e, r.rank)
			}
			if got, e := Of(d, r.num, r.den); got != r.value || e != api.OK {
				t.Errorf("Of %d parts of %d is %d, %d, and should be %d", r.num, r.den, got, e, r.value)
			}
		}
		parts(t, d)
	}
}

func TestWrongParts(t *testing.T) {
	wrong := [][2]int{{0, 0}, {1, 0}, {0, -1}, {-1, -1}, {1, -1}, {-2, -1}, {-1, 1}, {-1, 2}, {2, 1}, {3, 2}, {math.MinInt, 1}, {1, math.MinInt}, {math.MinInt, math.MinInt}, {math.MaxInt, 1}, {math.MaxInt, math.MaxInt - 1}, {-1, math.MaxInt}, {math.MaxInt, 0}, {math.MaxInt, -1}}
	hear := func(d *digest.Digest, l [][2]int, want api.Errno) {
		for _, r := range l {
			if got, e := Rank(d, r[0], r[1]); got != 0 || e != want {
				t.Errorf("of %v, Rank of %d parts of %d is %d, %d, and the error should be %d", d.Nodes(), r[0], r[1], got, e, want)
			}
			if got, e := Of(d, r[0], r[1]); got != 0 || e != want {
				t.Errorf("of %v, Of %d parts of %d is %d, %d, and the error should be %d", d.Nodes(), r[0], r[1], got, e, want)
			}
		}
	}
	right := [][2]int{{0, 1}, {1, 1}, {1, 2}, {math.MaxInt, math.MaxInt}}
	hear(nil, append(right, wrong...), api.ErrNone)
	if y, e := Median(nil); y != 0 || e != api.ErrNone {
		t.Errorf("Median of nil is %d, %d", y, e)
	}
	for _, kind := range kinds {
		d := load(t, api.Conf{L: 2, K: 1, Kind: kind})
		hear(d, append(right, wrong...), api.ErrEmpty)
		if y, e := Median(d); y != 0 || e != api.ErrEmpty {
			t.Errorf("Median of nothing is %d, %d", y, e)
		}
		hear(load(t, api.Conf{L: 2, K: 1, Kind: kind}, few...), wrong, api.ErrArg)
	}
}

func TestParts(t *testing.T) {
	for _, kind := range kinds {
		for l := 1; l <= 16; l++ {
			for _, n := range []int{1, 2, 3, 10, 99, 1 << 32, api.Most - 1, api.Most} {
				d := load(t, api.Conf{L: l, K: 2, Kind: kind}, api.Node{Id: 1<<l + 1, Count: n})
				parts(t, d)
			}
			parts(t, mixed(t, api.Conf{L: l, K: 2, Kind: kind}, 40, uint64(l)).d)
		}
	}
	parts(t, mixed(t, api.Conf{L: 48, K: 5, Kind: api.Hash}, 200, 9).d)
}

// P17.3

func TestMany(t *testing.T) {
	for _, kind := range kinds {
		d := load(t, api.Conf{L: 2, K: 1, Kind: kind}, few...)
		for _, r := range []struct {
			ranks, want []int
			e           api.Errno
		}{
			{nil, nil, api.OK}, {[]int{}, nil, api.OK}, {[]int{1}, []int{0}, api.OK}, {[]int{6}, []int{3}, api.OK},
			{[]int{6, 1, 3, 2, 2, 6}, []int{3, 0, 3, 0, 0, 3}, api.OK}, {[]int{2, 3, 2, 3}, []int{0, 3, 0, 3}, api.OK},
			{[]int{0}, nil, api.ErrArg}, {[]int{7}, nil, api.ErrArg}, {[]int{1, 2, 3, 7}, nil, api.ErrArg}, {[]int{-1, 2, 3}, nil, api.ErrArg}, {[]int{1, math.MinInt, 2}, nil, api.ErrArg}, {[]int{math.MaxInt, 0}, nil, api.ErrArg},
		} {
			if got, e := Many(d, r.ranks...); !slices.Equal(got, r.want) || e != r.e {
				t.Errorf("Many of %v is %v, %d, and should be %v, %d", r.ranks, got, e, r.want, r.e)
			}
		}
	}
}

func TestManyOfNone(t *testing.T) {
	for _, d := range []*digest.Digest{nil, load(t, api.Conf{L: 2, K: 1, Kind: api.Dense}), load(t, api.Conf{L: 48, K: 1, Kind: api.Hash})} {
		for _, none := range [][]int{nil, {}, append([]int{}, 0, 7)[:0]} {
			if got, e := Many(d, none...); len(got) != 0 || e != api.OK {
				t.Errorf("Many of none is %v, %d", got, e)
			}
		}
		if got, e := Many(d); len(got) != 0 || e != api.OK {
			t.Errorf("Many of none is %v, %d", got, e)
		}
	}
	if got, e := Many(nil, 1, 0); len(got) != 0 || e != api.ErrNone {
		t.Errorf("Many of nil is %v, %d", got, e)
	}
}

// What is handed in stays, in front of its end and behind it, and is not handed out.
func TestManySharesNoMemory(t *testing.T) {
	for _, kind := range kinds {
		d := load(t, api.Conf{L: 2, K: 1, Kind: kind}, few...)
		memory := []int{6, 1, 3, -5, 99}
		one, e := Many(d, memory[:3]...)
		if e != api.OK {
			t.Fatal(e)
		}
		other, _ := Many(d, memory[:3]...)
		for at := range one[:cap(one)] {
			one[:cap(one)][at] = -7
		}
		_ = append(one[:1], -8, -9)
		if !slices.Equal(memory, []int{6, 1, 3, -5, 99}) || !slices.Equal(other, []int{3, 0, 3}) {
			t.Errorf("%v, %v", memory, other)
		}
		if _, e := Many(d, memory[:4]...); e != api.ErrArg || !slices.Equal(memory, []int{6, 1, 3, -5, 99}) {
			t.Errorf("%v, %d", memory, e)
		}
		hold(t, d, ranks(d))
	}
}

// A great many ranks of a digest of a great many nodes.
func TestManyRanks(t *testing.T) {
	for _, c := range []api.Conf{{L: 48, K: 3000, Kind: api.Hash}, {L: 16, K: 3000, Kind: api.Dense}} {
		p := mixed(t, c, 30000, 1)
		l := make([]int, p.d.N())
		for at := range l {
			l[at] = p.d.N() - at
		}
		values, e := Many(p.d, l...)
		if e != api.OK || len(values) != len(l) {
			t.Fatalf("of %v there are %d, %d", c, len(values), e)
		}
		for at := 0; at < len(l); at += 4999 {
			if !isLeast(p.d, low, values[at], l[at]) {
				t.Fatalf("of %v, of the rank %d it is %d", c, l[at], values[at])
			}
			if at > 0 && values[at] > values[at-1] {
				t.Fatalf("of %v, of the rank %d it is %d, and of a greater one %d", c, l[at], values[at], values[at-1])
			}
		}
		some := []int{1, 2, p.d.N() / 3, p.d.N() / 2, p.d.N() - 1, p.d.N()}
		within(t, p, some)
		p.d.Compress()
		within(t, p, some)
	}
}

// All calls.

// all calls f with a digest of each set of nodes of l bits that there is for a k up to the greatest one.
func all(kind, l, greatest int, f func(d *digest.Digest)) {
	for set := range 1 << (2<<l - 1) {
		var nodes []api.Node
		for id := 1; id < 2<<l; id++ {
			if set>>(id-1)&1 == 1 {
				nodes = append(nodes, api.Node{Id: id, Count: 1 + (id+set)%3})
			}
		}
		for k := 1; k <= greatest; k++ {
			if d, e := digest.Load(api.Conf{L: l, K: k, Kind: kind}, nodes); e == api.OK {
				f(d)
			}
		}
	}
}

func TestAllSetsOfNodes(t *testing.T) {
	for _, kind := range kinds {
		for l := 1; l <= 2; l++ {
			all(kind, l, 3, func(d *digest.Digest) { hold(t, d, ranks(d)) })
		}
	}
	// By all values, from the first one on.
	all(api.Hash, 3, 1, func(d *digest.Digest) {
		var l []int
		for r := 1; r <= d.N(); r++ {
			lo, hi := 0, 0
			for high(d, lo) < r {
				lo++
			}
			for low(d, hi) < r {
				hi++
			}
			if s, e := Span(d, r); s != complex(float64(lo), float64(hi)) || e != api.OK {
				t.Fatalf("of %v, Span of %d is %v, %d, and should be from %d to %d", d.Nodes(), r, s, e, lo, hi)
			}
			l = append(l, hi)
		}
		for at, want := range l {
			if y, e := At(d, at+1); y != want || e != api.OK {
				t.Fatalf("of %v, At(%d) is %d, %d, and should be %d", d.Nodes(), at+1, y, e, want)
			}
		}
	})
}

// Each node of each set stands for its first values, for its last ones, or for both.
func TestAllThatNodesMayStandFor(t *testing.T) {
	all(api.Hash, 2, 2, func(d *digest.Digest) {
		for way := range 3 {
			b, e := bag.New(2)
			if e != api.OK {
				t.Fatal(e)
			}
			for at, n := range d.Nodes() {
				first, last := ends(2, n.Id)
				if way == 1 || way == 2 && at%2 == 0 {
					first = last
				}
				if e := b.Add(first, n.Count); e != api.OK {
					t.Fatal(e)
				}
			}
			within(t, pair{d, b}, ranks(d))
		}
	})
}

// P17.4, P17.5

func TestMixedDigests(t *testing.T) {
	eachKind(func(kind, l int) {
		for _, k := range []int{1, 3} {
			for _, many := range []int{0, 1, k, 4 * k, 8 * k, 30 * k} {
				p := mixed(t, api.Conf{L: l, K: k, Kind: kind}, many, uint64(100*l+k+many))
				within(t, p, ranks(p.d))
				p.d.Compress()
				within(t, p, ranks(p.d))
			}
		}
	})
}

// Of a small digest, each rank that there is.
func TestEachRank(t *testing.T) {
	for l := 1; l <= 10; l++ {
		for _, kind := range kinds {
			p := mixed(t, api.Conf{L: l, K: 2, Kind: kind}, 50, uint64(l))
			var every []int
			for r := 1; r <= p.d.N(); r++ {
				every = append(every, r)
			}
			within(t, p, every)
		}
	}
}

func TestWhatIsMade(t *testing.T) {
	eachKind(func(kind, l int) {
		for _, k := range []int{1, 4} {
			a := mixed(t, api.Conf{L: l, K: k, Kind: kind}, 12*k, uint64(l+k))
			b := mixed(t, api.Conf{L: l, K: k + 1, Kind: api.Hash}, 30*k, uint64(7*l+k))
			merged, e := blend.All(b.d, a.d, b.d)
			if e != api.OK || a.b.Pour(b.b) != api.OK || a.b.Pour(b.b) != api.OK {
				t.Fatalf("they aren't merged: %d", e)
			}
			within(t, pair{merged, a.b}, ranks(merged))
			lower, e := blend.Lower(b.d, 1)
			if e != api.OK {
				t.Fatal(e)
			}
			within(t, pair{lower, b.b}, ranks(lower))
			grown, e := recast.Grow(b.d, 48)
			wider, e2 := b.b.Wider(48)
			if e != api.OK || e2 != api.OK {
				t.Fatal(e, e2)
			}
			within(t, pair{grown, wider}, ranks(grown))
			for _, by := range []int{0, 1, l / 2, l - 1} {
				if by >= l {
					continue
				}
				coarse, e := recast.Coarsen(merged, by)
				image, e2 := a.b.Image(by)
				if e != api.OK || e2 != api.OK {
					t.Fatal(e, e2)
				}
				within(t, pair{coarse, image}, ranks(coarse))
			}
		}
	})
}

// Of leaves alone, each value that is told is the one of that rank in a bag.
func TestLeavesTellTheValue(t *testing.T) {
	eachKind(func(kind, l int) {
		p := mixed(t, api.Conf{L: l, K: 5, Kind: kind}, 39, uint64(l))
		for _, r := range ranks(p.d) {
			want, _ := p.b.Kth(r)
			y, e := At(p.d, r)
			s, e2 := Span(p.d, r)
			if y != want || s != complex(float64(want), float64(want)) || e != api.OK || e2 != api.OK {
				t.Errorf("of %d bits, the rank %d has %d, At is %d, Span %v", l, r, want, y, s)
			}
		}
	})
}

// All that weighs lies at nodes that begin at 0, or that end at the last value: the spans are as wide as they may be.
func TestWidestSpans(t *testing.T) {
	for l := 1; l <= 48; l++ {
		var begin, end []api.Node
		for depth := range l {
			begin = append(begin, api.Node{Id: 1 << depth, Count: 5})
			end = append(end, api.Node{Id: 2<<depth - 1, Count: 5})
		}
		d := load(t, api.Conf{L: l, K: l, Kind: api.Hash}, begin...)
		hold(t, d, ranks(d))
		for depth := range l {
			if s, e := Span(d, 5*depth+1); s != complex(0, float64(int(2)<<depth-1)) || e != api.OK {
				t.Errorf("of %d bits, Span of %d is %v, %d", l, 5*depth+1, s, e)
			}
		}
		d = load(t, api.Conf{L: l, K: l, Kind: api.Hash}, end...)
		hold(t, d, ranks(d))
		for depth := range l {
			first := 1<<l - 1<<(l-depth)
			if s, e := Span(d, 5*depth+5); s != complex(float64(first), float64(int(1)<<l-1)) || e != api.OK {
				t.Errorf("of %d bits, Span of %d is %v, %d", l, 5*depth+5, s, e)
			}
		}
	}
}

func TestBothKindsTellTheSame(t *testing.T) {
	for l := 1; l <= 16; l++ {
		for many := 1; many < 40; many++ {
			a := mixed(t, api.Conf{L: l, K: 3, Kind: api.Dense}, many, uint64(100*l+many)).d
			b := mixed(t, api.Conf{L: l, K: 3, Kind: api.Hash}, many, uint64(100*l+many)).d
			for _, r := range ranks(a) {
				one, e := Span(a, r)
				other, e2 := Span(b, r)
				y, _ := At(a, r)
				y2, _ := At(b, r)
				if one != other || e != api.OK || e2 != api.OK || y != y2 {
					t.Fatalf("Span of %d is %v, At %d, and of the other kind %v and %d", r, one, y, other, y2)
				}
			}
		}
	}
}
