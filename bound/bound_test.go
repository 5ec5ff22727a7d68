package bound

import (
	"maps"
	"math"
	"math/big"
	"math/bits"
	"slices"
	"testing"

	"dewpond/api"
	"dewpond/bag"
	"dewpond/blend"
	"dewpond/digest"
	"dewpond/quant"
	"dewpond/rank"
	"dewpond/recast"
	"dewpond/reckon"
)

// kinds are the kinds of digests.
var kinds = []int{api.Dense, api.Hash}

// odd are numbers far from all values, those of universes' ends, and some ordinary ones, rising.
var odd = []int{math.MinInt, math.MinInt + 1, -1 << 62, -1 << 48, -1<<32 - 1, -65536, -2, -1, 0, 1, 2, 3, 255, 256, 65535, 65536, 1 << 32, 1<<47 - 1, 1 << 47, 1<<48 - 2, 1<<48 - 1, 1 << 48, 1<<48 + 1, 1<<56 - 1, 1 << 56, 1 << 62, math.MaxInt - 1, math.MaxInt}

// few is the nodes of the chapter's example.
var few = []api.Node{{Id: 1, Count: 1}, {Id: 4, Count: 2}, {Id: 7, Count: 3}}

// load is a digest of these nodes.
func load(t *testing.T, c api.Conf, nodes ...api.Node) *digest.Digest {
	t.Helper()
	d, e := digest.Load(c, nodes)
	if e != api.OK {
		t.Fatalf("there is no digest of %v with %v: %d", c, nodes, e)
	}
	return d
}

// eachKind calls f with each kind and each number of bits for which there are digests.
func eachKind(f func(kind, l int)) {
	for l := 1; l <= 48; l++ {
		if l <= 16 {
			f(api.Dense, l)
		}
		f(api.Hash, l)
	}
}

// next is the number behind n in a row of numbers that looks mixed.
func next(n uint64) uint64 { return n*6364136223846793005 + 1442695040888963407 }

// pair is a digest, and a bag of all that it stands for.
type pair struct {
	d *digest.Digest
	b *bag.Bag
}

// empty is a pair without values.
func empty(t *testing.T, c api.Conf) pair {
	t.Helper()
	b, e := bag.New(c.L)
	if e != api.OK {
		t.Fatalf("there is no bag of %d bits: %d", c.L, e)
	}
	return pair{load(t, c), b}
}

// put inserts a value into both.
func (p pair) put(t *testing.T, x, weight int) {
	t.Helper()
	if one, other := p.d.Insert(x, weight), p.b.Add(x, weight); one != api.OK || other != api.OK {
		t.Fatalf("of %v, %d, %d isn't taken: %d, %d", p.d.Conf(), x, weight, one, other)
	}
}

// mixed is a pair into which so many values were put, often of a few, seldom a heavy one.
func mixed(t *testing.T, c api.Conf, many int, seed uint64) pair {
	t.Helper()
	p := empty(t, c)
	for range many {
		seed = next(seed)
		x := int(seed>>15) % (1 << c.L)
		seed = next(seed)
		weight := 1 + int(seed>>33)%3
		switch seed >> 40 % 8 {
		case 0, 1, 2:
			x %= min(64, 1<<c.L)
		case 3:
			x = 1<<c.L - 1 - x%min(16, 1<<c.L)
		case 4:
			weight += int(seed>>20) % 100
		}
		p.put(t, x, weight)
	}
	return p
}

// told is all that is told of a digest.
type told struct {
	least, greatest, spread, mean api.Both
	low, high                     reckon.Wide
	x, gap                        int
}

// tell asks all calls that have a digest alone.
func tell(t *testing.T, d *digest.Digest) told {
	t.Helper()
	var a told
	var e [5]api.Errno
	a.least, e[0] = Least(d)
	a.greatest, e[1] = Greatest(d)
	a.spread, e[2] = Spread(d)
	a.mean, e[3] = Mean(d)
	a.x, a.gap, e[4] = Worst(d)
	a.low, a.high = Sum(d)
	if e != [5]api.Errno{} {
		t.Fatalf("of %v with %v, the errors are %v", d.Conf(), d.Nodes(), e)
	}
	return a
}

// whole is n as a number of any size, and product a times b so.
func whole(n int) *big.Int { return big.NewInt(int64(n)) }

func product(a, b int) *big.Int { return new(big.Int).Mul(whole(a), whole(b)) }

// wide is n, which has at most 128 bits, as two words.
func wide(n *big.Int) reckon.Wide {
	word := new(big.Int).SetUint64(math.MaxUint64)
	return reckon.Wide{word.And(word, n).Uint64(), new(big.Int).Rsh(n, 64).Uint64()}
}

// endsOf is the first and the last value of a node.
func endsOf(l, id int) (first, last int) {
	below := l + 1 - bits.Len(uint(id))
	first = id<<below - 1<<l
	return first, first + 1<<below - 1
}

// reckoned is what should be told of a digest, by lists of its nodes' ends, sums of any size, and a walk along all values at which something changes.
func reckoned(d *digest.Digest) told {
	var firsts, lasts []int
	low, high := new(big.Int), new(big.Int)
	change := map[int]int{}
	for _, n := range d.Nodes() {
		first, last := endsOf(d.Conf().L, n.Id)
		firsts, lasts = append(firsts, first), append(lasts, last)
		low.Add(low, product(first, n.Count))
		high.Add(high, product(last, n.Count))
		change[first] += n.Count
		change[last] -= n.Count
	}
	want := told{
		least:    api.Both{Low: slices.Min(firsts), High: slices.Min(lasts)},
		greatest: api.Both{Low: slices.Max(firsts), High: slices.Max(lasts)},
		low:      wide(low),
		high:     wide(high),
	}
	want.spread = api.Both{Low: max(0, want.greatest.Low-want.least.High), High: want.greatest.High - want.least.Low}
	up := new(big.Int).Add(high, whole(d.N()-1))
	want.mean = api.Both{Low: int(low.Quo(low, whole(d.N())).Int64()), High: int(up.Quo(up, whole(d.N())).Int64())}
	gap := 0
	for _, x := range slices.Sorted(maps.Keys(change)) {
		gap += change[x]
		if gap > want.gap {
			want.x, want.gap = x, gap
		}
	}
	return want
}

// hold holds what is told of a digest that isn't empty against its nodes, and the laws; the digest stays.
func hold(t *testing.T, d *digest.Digest) {
	t.Helper()
	before := d.Clone()
	got, want := tell(t, d), reckoned(d)
	if got != want {
		t.Fatalf("of %v with %v, it is told %v, and should be %v", d.Conf(), d.Nodes(), got, want)
	}
	laws(t, d, got)
	holdWithin(t, d, got.gap)
	if !digest.Same(d, before) || d.Conf() != before.Conf() {
		t.Fatalf("%v turns to %v", before.Nodes(), d.Nodes())
	}
}

// laws holds what is told of a digest against one another, and against the ranks and the quantiles.
func laws(t *testing.T, d *digest.Digest, a told) {
	t.Helper()
	last := 1<<d.Conf().L - 1
	for _, b := range []api.Both{a.least, a.greatest, a.spread, a.mean} {
		if b.Low < 0 || b.Low > b.High || b.High > last {
			t.Fatalf("of %v with %v, it is told %v", d.Conf(), d.Nodes(), a)
		}
	}
	if a.mean.Low < a.least.Low || a.mean.High > a.greatest.High || a.least.Low > a.greatest.Low || a.least.High > a.greatest.High {
		t.Fatalf("of %v with %v, it is told %v", d.Conf(), d.Nodes(), a)
	}
	if rank.High(d, a.x)-rank.Low(d, a.x) != a.gap || a.gap < 0 || a.gap > rank.Slack(d) {
		t.Fatalf("of %v with %v, Worst is %d, %d, and Slack %d", d.Conf(), d.Nodes(), a.x, a.gap, rank.Slack(d))
	}
	for _, r := range []struct{ value, ahead int }{{a.least.Low, 0}, {a.greatest.Low, d.N() - 1}} {
		if rank.High(d, r.value-1) > r.ahead || rank.High(d, r.value) <= r.ahead {
			t.Fatalf("of %v with %v, it is told %v", d.Conf(), d.Nodes(), a)
		}
	}
	if rank.Low(d, a.least.High-1) != 0 || rank.Low(d, a.least.High) == 0 || rank.Low(d, a.greatest.High-1) == d.N() || rank.Low(d, a.greatest.High) != d.N() {
		t.Fatalf("of %v with %v, it is told %v", d.Conf(), d.Nodes(), a)
	}
	if x, e := quant.At(d, 1); x != a.least.High || e != api.OK {
		t.Fatalf("of %v with %v, it is told %v, and At(1) is %d", d.Conf(), d.Nodes(), a, x)
	}
	if x, e := quant.At(d, d.N()); x != a.greatest.High || e != api.OK {
		t.Fatalf("of %v with %v, it is told %v, and At(N) is %d", d.Conf(), d.Nodes(), a, x)
	}
}

// holdWithin holds Within against numbers of any size: at just the part that the gap is of N, beside it, at the slack's part, and at odd ones.
func holdWithin(t *testing.T, d *digest.Digest, gap int) {
	t.Helper()
	n, most := d.N(), math.MaxInt
	for _, r := range [][2]int{
		{gap, n}, {gap - 1, n}, {gap + 1, n}, {gap, n - 1}, {gap, n + 1}, {2 * gap, 2 * n}, {2*gap - 1, 2 * n}, {2 * gap, 2*n + 1}, {3 * gap, 3*n - 1},
		{d.Conf().L, d.Conf().K}, {0, 1}, {0, most}, {1, most}, {most, 1}, {most, most}, {most, most - 1}, {most - 1, most}, {1, 1}, {1, 2}, {1, 3}, {2, 3}, {1, 100}, {most, n}, {n, most}, {most / 2, most}, {gap, most}, {most, gap},
		{-1, 1}, {1, 0}, {0, 0}, {-1, 0}, {-1, -1}, {1, -1}, {0, -1}, {math.MinInt, 1}, {1, math.MinInt}, {math.MinInt, math.MinInt}, {-1, most}, {most, -1}, {most, 0}, {-gap, -n},
	} {
		num, den := r[0], r[1]
		got, e := Within(d, num, den)
		if num < 0 || den < 1 {
			if got || e != api.ErrArg {
				t.Fatalf("of %v with %v, Within %d of %d parts is %t, %d", d.Conf(), d.Nodes(), num, den, got, e)
			}
			continue
		}
		want := product(gap, den).Cmp(product(num, n)) <= 0
		if got != want || e != api.OK {
			t.Fatalf("of %v with %v, with the gap %d, Within %d of %d parts is %t, %d", d.Conf(), d.Nodes(), gap, num, den, got, e)
		}
	}
	if got, e := Within(d, d.Conf().L, d.Conf().K); !got || e != api.OK {
		t.Fatalf("of %v with %v, with the gap %d, Within the slack's part is %t, %d", d.Conf(), d.Nodes(), gap, got, e)
	}
}

// within holds what is told of a digest against all that was accepted.
func within(t *testing.T, p pair) {
	t.Helper()
	lo, hi, ok := p.b.Ends()
	if !ok || p.d.N() != p.b.Total() {
		t.Fatalf("of %v, N is %d, and %d was accepted", p.d.Conf(), p.d.N(), p.b.Total())
	}
	hold(t, p.d)
	a := tell(t, p.d)
	for _, r := range []struct {
		b   api.Both
		was int
	}{{a.least, lo}, {a.greatest, hi}, {a.spread, hi - lo}} {
		if r.was < r.b.Low || r.was > r.b.High {
			t.Fatalf("of %v with %v, it is told %v, and it was %d to %d", p.d.Conf(), p.d.Nodes(), a, lo, hi)
		}
	}
	sum := new(big.Int)
	table := rank.Of(p.d)
	for _, i := range p.b.Items() {
		sum.Add(sum, product(i.Value, i.Weight))
		for x := i.Value - 1; x <= i.Value; x++ {
			if was := p.b.Rank(x); was-table.Low(x) > a.gap || table.High(x)-was > a.gap {
				t.Fatalf("of %v with %v, %d has the rank %d, which is farther off than %d", p.d.Conf(), p.d.Nodes(), x, was, a.gap)
			}
		}
	}
	if sum.Cmp(product(a.mean.Low, p.d.N())) < 0 || sum.Cmp(product(a.mean.High, p.d.N())) > 0 {
		t.Fatalf("of %v with %v, the mean is told to be %v, and the sum was %v of %d", p.d.Conf(), p.d.Nodes(), a.mean, sum, p.d.N())
	}
}

// The chapter's example.

func TestExample(t *testing.T) {
	for _, kind := range kinds {
		d := load(t, api.Conf{L: 2, K: 1, Kind: kind}, few...)
		if b, e := Least(d); b != (api.Both{Low: 0, High: 0}) || e != api.OK {
			t.Errorf("Least is %v, %d", b, e)
		}
		if b, e := Greatest(d); b != (api.Both{Low: 3, High: 3}) || e != api.OK {
			t.Errorf("Greatest is %v, %d", b, e)
		}
		if b, e := Mean(d); b != (api.Both{Low: 1, High: 2}) || e != api.OK {
			t.Errorf("Mean is %v, %d", b, e)
		}
		if x, gap, e := Worst(d); x != 0 || gap != 1 || e != api.OK {
			t.Errorf("Worst is %d, %d, %d", x, gap, e)
		}
	}
}

// P20.1 to P20.4

func TestWhatIsTold(t *testing.T) {
	for _, kind := range kinds {
		for _, r := range []struct {
			nodes []api.Node
			want  told
		}{
			// A leaf alone, at each end and between: all bounds are together.
			{[]api.Node{{Id: 8, Count: 5}}, told{}},
			{[]api.Node{{Id: 11, Count: 5}}, told{least: api.Both{Low: 3, High: 3}, greatest: api.Both{Low: 3, High: 3}, mean: api.Both{Low: 3, High: 3}, low: reckon.Wide{15}, high: reckon.Wide{15}}},
			{[]api.Node{{Id: 15, Count: 2}}, told{least: api.Both{Low: 7, High: 7}, greatest: api.Both{Low: 7, High: 7}, mean: api.Both{Low: 7, High: 7}, low: reckon.Wide{14}, high: reckon.Wide{14}}},
			// A node alone above the leaves: nothing is sure but its ends.
			{[]api.Node{{Id: 1, Count: 3}}, told{least: api.Both{Low: 0, High: 7}, greatest: api.Both{Low: 0, High: 7}, spread: api.Both{Low: 0, High: 7}, mean: api.Both{Low: 0, High: 7}, high: reckon.Wide{21}, gap: 3}},
			{[]api.Node{{Id: 5, Count: 3}}, told{least: api.Both{Low: 2, High: 3}, greatest: api.Both{Low: 2, High: 3}, spread: api.Both{Low: 0, High: 1}, mean: api.Both{Low: 2, High: 3}, low: reckon.Wide{6}, high: reckon.Wide{9}, x: 2, gap: 3}},
			{[]api.Node{{Id: 3, Count: 1}}, told{least: api.Both{Low: 4, High: 7}, greatest: api.Both{Low: 4, High: 7}, spread: api.Both{Low: 0, High: 3}, mean: api.Both{Low: 4, High: 7}, low: reckon.Wide{4}, high: reckon.Wide{7}, x: 4, gap: 1}},
			// Two leaves: the mean is between two values, or is one.
			{[]api.Node{{Id: 8, Count: 1}, {Id: 15, Count: 1}}, told{greatest: api.Both{Low: 7, High: 7}, spread: api.Both{Low: 7, High: 7}, mean: api.Both{Low: 3, High: 4}, low: reckon.Wide{7}, high: reckon.Wide{7}}},
			{[]api.Node{{Id: 9, Count: 1}, {Id: 15, Count: 2}}, told{least: api.Both{Low: 1, High: 1}, greatest: api.Both{Low: 7, High: 7}, spread: api.Both{Low: 6, High: 6}, mean: api.Both{Low: 5, High: 5}, low: reckon.Wide{15}, high: reckon.Wide{15}}},
			// The first and the last values of different nodes are the least, and the greatest.
			{[]api.Node{{Id: 2, Count: 1}, {Id: 9, Count: 9}}, told{least: api.Both{Low: 0, High: 1}, greatest: api.Both{Low: 1, High: 3}, spread: api.Both{Low: 0, High: 3}, mean: api.Both{Low: 0, High: 2}, low: reckon.Wide{9}, high: reckon.Wide{12}, gap: 1}},
			{[]api.Node{{Id: 1, Count: 1}, {Id: 10, Count: 8}, {Id: 13, Count: 8}}, told{least: api.Both{Low: 0, High: 2}, greatest: api.Both{Low: 5, High: 7}, spread: api.Both{Low: 3, High: 7}, mean: api.Both{Low: 3, High: 4}, low: reckon.Wide{56}, high: reckon.Wide{63}, gap: 1}},
			// The gaps are the same, greater, or less further on.
			{[]api.Node{{Id: 2, Count: 2}, {Id: 3, Count: 2}}, told{least: api.Both{Low: 0, High: 3}, greatest: api.Both{Low: 4, High: 7}, spread: api.Both{Low: 1, High: 7}, mean: api.Both{Low: 2, High: 5}, low: reckon.Wide{8}, high: reckon.Wide{20}, gap: 2}},
			{[]api.Node{{Id: 3, Count: 2}, {Id: 4, Count: 2}}, told{least: api.Both{Low: 0, High: 1}, greatest: api.Both{Low: 4, High: 7}, spread: api.Both{Low: 3, High: 7}, mean: api.Both{Low: 2, High: 4}, low: reckon.Wide{8}, high: reckon.Wide{16}, gap: 2}},
			{[]api.Node{{Id: 3, Count: 3}, {Id: 4, Count: 2}}, told{least: api.Both{Low: 0, High: 1}, greatest: api.Both{Low: 4, High: 7}, spread: api.Both{Low: 3, High: 7}, mean: api.Both{Low: 2, High: 5}, low: reckon.Wide{12}, high: reckon.Wide{23}, x: 4, gap: 3}},
			{[]api.Node{{Id: 2, Count: 1}, {Id: 5, Count: 2}, {Id: 7, Count: 3}}, told{least: api.Both{Low: 0, High: 3}, greatest: api.Both{Low: 6, High: 7}, spread: api.Both{Low: 3, High: 7}, mean: api.Both{Low: 3, High: 5}, low: reckon.Wide{22}, high: reckon.Wide{30}, x: 2, gap: 3}},
		} {
			if got := tell(t, load(t, api.Conf{L: 3, K: 1, Kind: kind}, r.nodes...)); got != r.want {
				t.Errorf("of %v, it is told %v, and should be %v", r.nodes, got, r.want)
			}
		}
	}
}

// refuse holds that of this digest all calls tell that error, and Sum zero.
func refuse(t *testing.T, d *digest.Digest, want api.Errno) {
	t.Helper()
	for at, ask := range []func(*digest.Digest) (api.Both, api.Errno){Least, Greatest, Spread, Mean} {
		if b, e := ask(d); b != (api.Both{}) || e != want {
			t.Errorf("of %v, call %d tells %v, %d, and the error should be %d", d.Conf(), at, b, e, want)
		}
	}
	if x, gap, e := Worst(d); x != 0 || gap != 0 || e != want {
		t.Errorf("of %v, Worst is %d, %d, %d, and the error should be %d", d.Conf(), x, gap, e, want)
	}
	if low, high := Sum(d); low != (reckon.Wide{}) || high != (reckon.Wide{}) {
		t.Errorf("of %v, Sum is %v, %v", d.Conf(), low, high)
	}
	for _, num := range odd {
		for _, den := range odd {
			if ok, e := Within(d, num, den); ok || e != want {
				t.Fatalf("of %v, Within %d of %d parts is %t, %d, and the error should be %d", d.Conf(), num, den, ok, e, want)
			}
		}
	}
}

func TestNilAndEmpty(t *testing.T) {
	refuse(t, nil, api.ErrNone)
	eachKind(func(kind, l int) {
		d := load(t, api.Conf{L: l, K: 2, Kind: kind})
		refuse(t, d, api.ErrEmpty)
		d.Insert(1, 5)
		hold(t, d)
		d.Reset()
		refuse(t, d, api.ErrEmpty)
	})
}

// P20.5

func TestWithin(t *testing.T) {
	most := math.MaxInt
	for _, kind := range kinds {
		// The gap is 3, and N 10.
		d := load(t, api.Conf{L: 4, K: 2, Kind: kind}, api.Node{Id: 2, Count: 3}, api.Node{Id: 6, Count: 2}, api.Node{Id: 18, Count: 5})
		for _, r := range []struct {
			num, den int
			ok       bool
			e        api.Errno
		}{
			{3, 10, true, 0}, {30, 100, true, 0}, {29, 100, false, 0}, {299, 1000, false, 0}, {301, 1000, true, 0}, {3, 11, false, 0}, {3, 9, true, 0}, {1, 3, true, 0}, {1, 4, false, 0}, {0, 1, false, 0}, {1, 1, true, 0}, {5, 1, true, 0}, {1, 10, false, 0},
			{most, 1, true, 0}, {most, most, true, 0}, {0, most, false, 0}, {most / 10 * 3, most, false, 0}, {most/10*3 + 3, most, true, 0}, {1, most, false, 0},
			{-1, 10, false, api.ErrArg}, {3, 0, false, api.ErrArg}, {3, -10, false, api.ErrArg}, {-3, -10, false, api.ErrArg}, {0, 0, false, api.ErrArg}, {math.MinInt, most, false, api.ErrArg}, {most, math.MinInt, false, api.ErrArg},
		} {
			if ok, e := Within(d, r.num, r.den); ok != r.ok || e != r.e {
				t.Errorf("Within %d of %d parts is %t, %d", r.num, r.den, ok, e)
			}
		}
	}
}

// Of leaves alone no rank is off: the gap is within each part.
func TestLeavesAreWithinNothing(t *testing.T) {
	eachKind(func(kind, l int) {
		p := mixed(t, api.Conf{L: l, K: 5, Kind: kind}, 39, uint64(l))
		within(t, p)
		lo, hi, _ := p.b.Ends()
		a := tell(t, p.d)
		if a.least != (api.Both{Low: lo, High: lo}) || a.greatest != (api.Both{Low: hi, High: hi}) || a.spread != (api.Both{Low: hi - lo, High: hi - lo}) || a.low != a.high || a.mean.High-a.mean.Low > 1 || a.x != 0 || a.gap != 0 {
			t.Errorf("of %d bits, from %d to %d, it is told %v", l, lo, hi, a)
		}
		for _, den := range odd {
			if ok, e := Within(p.d, 0, den); den >= 1 && (!ok || e != api.OK) || den < 1 && (ok || e != api.ErrArg) {
				t.Errorf("of %d bits, Within 0 of %d parts is %t, %d", l, den, ok, e)
			}
		}
	})
}

// All calls.

// setsOf calls f with a digest of each set of nodes of l bits that there is for a k up to the greatest one.
func setsOf(kind, l, greatest int, f func(d *digest.Digest)) {
	for set := 1; set < 1<<(2<<l-1); set++ {
		var nodes []api.Node
		for id := 1; id < 2<<l; id++ {
			if set>>(id-1)%2 == 1 {
				nodes = append(nodes, api.Node{Id: id, Count: 1 + (id+set)%3})
			}
		}
		for k := 1; k <= greatest; k++ {
			if d, e := digest.Load(api.Conf{L: l, K: k, Kind: kind}, nodes); e == api.OK {
				f(d)
			}
		}
	}
}

// holdWorst holds Worst against the bounds of the rank of each value.
func holdWorst(t *testing.T, d *digest.Digest) {
	t.Helper()
	worst, most := 0, -1
	for x := range 1 << d.Conf().L {
		if gap := rank.High(d, x) - rank.Low(d, x); gap > most {
			worst, most = x, gap
		}
	}
	if x, gap, e := Worst(d); x != worst || gap != most || e != api.OK {
		t.Fatalf("of %v with %v, Worst is %d, %d, %d, and should be %d, %d", d.Conf(), d.Nodes(), x, gap, e, worst, most)
	}
}

func TestAllSetsOfNodes(t *testing.T) {
	for _, kind := range kinds {
		for l := 1; l <= 2; l++ {
			setsOf(kind, l, 3, func(d *digest.Digest) {
				hold(t, d)
				holdWorst(t, d)
			})
		}
	}
	setsOf(api.Hash, 3, 1, func(d *digest.Digest) {
		hold(t, d)
		holdWorst(t, d)
	})
}

// Each node alone, and beside each leaf, of all universes up to 5 bits.
func TestAllNodes(t *testing.T) {
	for _, kind := range kinds {
		for l := 1; l <= 5; l++ {
			for id := 1; id < 2<<l; id++ {
				c := api.Conf{L: l, K: 1, Kind: kind}
				hold(t, load(t, c, api.Node{Id: id, Count: 7}))
				for leaf := max(id+1, 1<<l); leaf < 2<<l; leaf++ {
					d := load(t, c, api.Node{Id: id, Count: 2}, api.Node{Id: leaf, Count: 5})
					hold(t, d)
					holdWorst(t, d)
				}
			}
		}
	}
}

// P20.6

func TestMixedDigests(t *testing.T) {
	eachKind(func(kind, l int) {
		for _, k := range []int{1, 2, 3, 10} {
			for _, many := range []int{1, k, 4 * k, 8 * k, 30 * k} {
				p := mixed(t, api.Conf{L: l, K: k, Kind: kind}, many, uint64(100*l+k+many))
				within(t, p)
				p.d.Compress()
				within(t, p)
				if l <= 6 {
					holdWorst(t, p.d)
				}
			}
		}
	})
}

func TestWhatIsMade(t *testing.T) {
	eachKind(func(kind, l int) {
		for _, k := range []int{1, 4} {
			a := mixed(t, api.Conf{L: l, K: k, Kind: kind}, 12*k, uint64(l+k))
			b := mixed(t, api.Conf{L: l, K: k + 1, Kind: api.Hash}, 30*k, uint64(7*l+k))
			merged, e := blend.All(b.d, a.d, b.d)
			if e != api.OK || a.b.Pour(b.b) != api.OK || a.b.Pour(b.b) != api.OK {
				t.Fatalf("they aren't merged: %d", e)
			}
			within(t, pair{merged, a.b})
			within(t, pair{merged.Clone(), a.b})
			lower, e := blend.Lower(b.d, 1)
			if e != api.OK {
				t.Fatal(e)
			}
			within(t, pair{lower, b.b})
			grown, e := recast.Grow(b.d, 48)
			wider, e2 := b.b.Wider(48)
			if e != api.OK || e2 != api.OK {
				t.Fatal(e, e2)
			}
			within(t, pair{grown, wider})
			for _, by := range []int{0, 1, l / 2, l - 1} {
				if by >= l {
					continue
				}
				coarse, e := recast.Coarsen(merged, by)
				image, e2 := a.b.Image(by)
				if e != api.OK || e2 != api.OK {
					t.Fatal(e, e2)
				}
				within(t, pair{coarse, image})
			}
		}
	})
}

// All that may weigh, in few values and in many: the sums have more than 64 bits.
func TestHeavyDigests(t *testing.T) {
	eachKind(func(kind, l int) {
		for _, k := range []int{1, 2, 5, api.MaxK} {
			many := min(10*k, 40)
			p := empty(t, api.Conf{L: l, K: k, Kind: kind})
			for at := range many {
				p.put(t, at*7919%(1<<l), api.Most/many)
			}
			p.put(t, 1<<l-1, api.Most-p.d.N())
			if p.d.N() != api.Most {
				t.Fatalf("N is %d", p.d.N())
			}
			within(t, p)
			p.d.Compress()
			within(t, p)
		}
		hold(t, load(t, api.Conf{L: l, K: 1, Kind: kind}, api.Node{Id: 1, Count: api.Most}))
		hold(t, load(t, api.Conf{L: l, K: 1, Kind: kind}, api.Node{Id: 2<<l - 1, Count: api.Most}))
	})
}

// The greatest sums that there are, told by their words: Most times the last value is 2 to the power 104, less 2 to the powers 56 and 48, and 1.
func TestGreatestSums(t *testing.T) {
	const most, last = api.Most, 1<<48 - 1
	sum := reckon.Wide{0xfeff000000000001, 1<<40 - 1}
	for _, r := range []struct {
		id   int
		want told
	}{
		{1, told{least: api.Both{Low: 0, High: last}, greatest: api.Both{Low: 0, High: last}, spread: api.Both{Low: 0, High: last}, mean: api.Both{Low: 0, High: last}, high: sum, gap: most}},
		{1<<49 - 1, told{least: api.Both{Low: last, High: last}, greatest: api.Both{Low: last, High: last}, mean: api.Both{Low: last, High: last}, low: sum, high: sum}},
	} {
		d := load(t, api.Conf{L: 48, K: 1, Kind: api.Hash}, api.Node{Id: r.id, Count: most})
		if got := tell(t, d); got != r.want {
			t.Errorf("of %d, it is told %v, and should be %v", r.id, got, r.want)
		}
	}
}

func TestBothKindsTellTheSame(t *testing.T) {
	for l := 1; l <= 16; l++ {
		for many := 1; many < 60; many += 3 {
			a := mixed(t, api.Conf{L: l, K: 3, Kind: api.Dense}, many, uint64(100*l+many)).d
			b := mixed(t, api.Conf{L: l, K: 3, Kind: api.Hash}, many, uint64(100*l+many)).d
			if one, other := tell(t, a), tell(t, b); one != other {
				t.Fatalf("it is told %v, and of the other kind %v", one, other)
			}
			for _, num := range odd {
				one, e := Within(a, num, 7)
				other, e2 := Within(b, num, 7)
				if one != other || e != e2 {
					t.Fatalf("Within %d of 7 parts is %t, %d, and of the other kind %t, %d", num, one, e, other, e2)
				}
			}
		}
	}
}

// A great many nodes.
func TestManyNodes(t *testing.T) {
	for _, c := range []api.Conf{{L: 48, K: 3000, Kind: api.Hash}, {L: 16, K: 3000, Kind: api.Dense}, {L: 10, K: 30, Kind: api.Dense}} {
		p := mixed(t, c, 60000, 1)
		within(t, p)
		p.d.Compress()
		within(t, p)
	}
	holdWorst(t, mixed(t, api.Conf{L: 10, K: 30, Kind: api.Hash}, 20000, 2).d)
}
