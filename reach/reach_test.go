package reach

import (
	"math"
	"math/big"
	"math/bits"
	"slices"
	"testing"

	"dewpond/api"
	"dewpond/bag"
	"dewpond/blend"
	"dewpond/digest"
	"dewpond/rank"
	"dewpond/recast"
	"dewpond/tiles"
)

// kinds are the kinds of digests.
var kinds = []int{api.Dense, api.Hash}

// odd are numbers far from all values, those of universes' ends, and some ordinary ones, rising.
var odd = []int{math.MinInt, math.MinInt + 1, -1 << 62, -1 << 48, -1<<32 - 1, -65536, -2, -1, 0, 1, 2, 3, 255, 256, 65535, 65536, 1 << 32, 1<<47 - 1, 1 << 47, 1<<48 - 2, 1<<48 - 1, 1 << 48, 1<<48 + 1, 1 << 62, math.MaxInt - 1, math.MaxInt}

// few is the nodes of the chapter's example.
var few = []api.Node{{Id: 1, Count: 1}, {Id: 4, Count: 2}, {Id: 7, Count: 3}}

// load is a digest of these nodes.
func load(t *testing.T, c api.Conf, nodes ...api.Node) *digest.Digest {
	t.Helper()
	d, e := digest.Load(c, nodes)
	if e != api.OK {
		t.Fatalf("there is no digest of %v with %v: %d", c, nodes, e)
	}
	return d
}

// eachKind calls f with each kind and each number of bits for which there are digests.
func eachKind(f func(kind, l int)) {
	for l := 1; l <= 48; l++ {
		if l <= 16 {
			f(api.Dense, l)
		}
		f(api.Hash, l)
	}
}

// next is the number behind n in a row of numbers that looks mixed.
func next(n uint64) uint64 { return n*6364136223846793005 + 1442695040888963407 }

// pair is a digest, and a bag of all that it stands for.
type pair struct {
	d *digest.Digest
	b *bag.Bag
}

// empty is a pair without values.
func empty(t *testing.T, c api.Conf) pair {
	t.Helper()
	b, e := bag.New(c.L)
	if e != api.OK {
		t.Fatalf("there is no bag of %d bits: %d", c.L, e)
	}
	return pair{load(t, c), b}
}

// put inserts a value into both.
func (p pair) put(t *testing.T, x, weight int) {
	t.Helper()
	if one, other := p.d.Insert(x, weight), p.b.Add(x, weight); one != api.OK || other != api.OK {
		t.Fatalf("of %v, %d, %d isn't taken: %d, %d", p.d.Conf(), x, weight, one, other)
	}
}

// mixed is a pair into which so many values were put, often of a few, seldom a heavy one.
func mixed(t *testing.T, c api.Conf, many int, seed uint64) pair {
	t.Helper()
	p := empty(t, c)
	for range many {
		seed = next(seed)
		x := int(seed>>15) % (1 << c.L)
		seed = next(seed)
		weight := 1 + int(seed>>33)%3
		switch seed >> 40 % 8 {
		case 0, 1, 2:
			x %= min(64, 1<<c.L)
		case 3:
			x = 1<<c.L - 1 - x%min(16, 1<<c.L)
		case 4:
			weight += int(seed>>20) % 100
		}
		p.put(t, x, weight)
	}
	return p
}

// ends is the first and the last value of a node.
func ends(l, id int) (first, last int) {
	below := l + 1 - bits.Len(uint(id))
	first = id<<below - 1<<l
	return first, first + 1<<below - 1
}

// sums is what the nodes weigh of which so many values as they have, and of which one at least, is among those that count counts.
func sums(d *digest.Digest, count func(first, last int) int) api.Both {
	var sum api.Both
	for _, n := range d.Nodes() {
		first, last := ends(d.Conf().L, n.Id)
		many := count(first, last)
		if many > last-first {
			sum.Low += n.Count
		}
		if many > 0 {
			sum.High += n.Count
		}
	}
	return sum
}

// between is what Between should be, of numbers that lie not far from the universe.
func between(d *digest.Digest, a, b int) api.Both {
	return sums(d, func(first, last int) int { return max(0, min(last, b)-max(first, a)+1) })
}

// run is the values from lo to hi.
type run struct{ lo, hi int }

// runs is the values that ids hold, as runs that rise and don't touch one another.
func runs(l int, ids []int) []run {
	var all []run
	for _, id := range ids {
		first, last := ends(l, id)
		all = append(all, run{first, last})
	}
	slices.SortFunc(all, func(a, b run) int { return a.lo - b.lo })
	var joined []run
	for _, r := range all {
		if n := len(joined); n > 0 && r.lo <= joined[n-1].hi+1 {
			joined[n-1].hi = max(joined[n-1].hi, r.hi)
		} else {
			joined = append(joined, r)
		}
	}
	return joined
}

// on and off are what On and Off should be.
func on(d *digest.Digest, ids []int) api.Both {
	held := runs(d.Conf().L, ids)
	return sums(d, func(first, last int) int { return common(held, first, last) })
}

func off(d *digest.Digest, ids []int) api.Both {
	held := runs(d.Conf().L, ids)
	return sums(d, func(first, last int) int { return last - first + 1 - common(held, first, last) })
}

// common is how many values of runs are from first to last.
func common(l []run, first, last int) int {
	many := 0
	for _, r := range l {
		many += max(0, min(last, r.hi)-max(first, r.lo)+1)
	}
	return many
}

// edges are the numbers at which Between may change, and those beside them.
func edges(d *digest.Digest) []int {
	l := []int{-1, 0, 1<<d.Conf().L - 1, 1 << d.Conf().L}
	for _, n := range d.Nodes() {
		first, last := ends(d.Conf().L, n.Id)
		l = append(l, first-1, first, first+1, last-1, last, last+1)
	}
	slices.Sort(l)
	return slices.Compact(l)
}

// some is at most so many of a list, from the first one to the last one.
func some(l []int, many int) []int {
	var few []int
	step := max(1, len(l)/many)
	for at := 0; at < len(l); at += step {
		few = append(few, l[at])
	}
	return append(few, l[len(l)-1])
}

// lists are lists of nodes: none, some of the digest's, those beside and above them, mixed ones, and all at one depth.
func lists(d *digest.Digest, seed uint64) [][]int {
	l := d.Conf().L
	all := [][]int{nil, {}, {1}, {2}, {3}, {2, 3}, {3, 2, 1, 2}, {1 << l}, {2<<l - 1}, {2<<l - 1, 1 << l, 1 << l}}
	var own, beside, above []int
	for _, n := range d.Nodes() {
		seed = next(seed)
		// Of the root, which holds all, is enough said already.
		if n.Id > 1 && seed>>40%2 == 0 {
			own = append(own, n.Id)
		}
		if n.Id > 1 && seed>>41%4 == 0 {
			beside = append(beside, n.Id^1)
		}
		if n.Id > 7 && seed>>43%8 == 0 {
			above = append(above, n.Id/4)
		}
	}
	slices.Reverse(beside)
	all = append(all, own, beside, above, slices.Concat(beside, own), slices.Concat(above, beside, above))
	for _, many := range []int{1, 2, 5, 20} {
		var ids []int
		for range many {
			seed = next(seed)
			depth := 1 + int(seed>>33)%l
			seed = next(seed)
			ids = append(ids, 1<<depth+int(seed>>15)%(1<<depth))
		}
		all = append(all, ids)
	}
	for _, depth := range []int{1, 3, 5} {
		if depth <= l {
			var ids []int
			for at := range 1 << depth {
				ids = append(ids, 1<<depth+at*3%(1<<depth))
			}
			all = append(all, ids, ids[1:], ids[:len(ids)-1])
		}
	}
	return all
}

// hold holds what is told between some numbers, and on and off some nodes, against the digest's nodes, and the laws; the digest stays.
func hold(t *testing.T, d *digest.Digest, l []int, lists [][]int) {
	t.Helper()
	before := d.Clone()
	slack := rank.Slack(d)
	for _, a := range l {
		for _, b := range l {
			got, e := Between(d, a, b)
			if a > b {
				if got != (api.Both{}) || e != api.ErrArg {
					t.Fatalf("of %v, Between(%d, %d) is %v, %d", d.Conf(), a, b, got, e)
				}
				continue
			}
			if want := between(d, a, b); got != want || e != api.OK {
				t.Fatalf("of %v with %v, Between(%d, %d) is %v, %d, and should be %v", d.Conf(), d.Nodes(), a, b, got, e, want)
			}
			if got.Low > got.High || got.High > got.Low+2*slack {
				t.Fatalf("of %v with %v, Between(%d, %d) is %v, with Slack %d", d.Conf(), d.Nodes(), a, b, got, slack)
			}
		}
	}
	for _, ids := range lists {
		holdNodes(t, d, ids)
	}
	if !digest.Same(d, before) || d.Conf() != before.Conf() {
		t.Fatalf("%v turns to %v", before.Nodes(), d.Nodes())
	}
}

// holdNodes holds what is told on and off these nodes against the digest's nodes, and the laws; the list stays.
func holdNodes(t *testing.T, d *digest.Digest, ids []int) {
	t.Helper()
	kept := slices.Clone(ids)
	yes, e := On(d, ids)
	no, e2 := Off(d, ids)
	if !slices.Equal(ids, kept) {
		t.Fatalf("%v turns to %v", kept, ids)
	}
	if want := on(d, ids); yes != want || e != api.OK {
		t.Fatalf("of %v with %v, On %v is %v, %d, and should be %v", d.Conf(), d.Nodes(), ids, yes, e, want)
	}
	if want := off(d, ids); no != want || e2 != api.OK {
		t.Fatalf("of %v with %v, Off %v is %v, %d, and should be %v", d.Conf(), d.Nodes(), ids, no, e2, want)
	}
	rest, ok := tiles.Rest(d.Conf().L, ids)
	if !ok {
		t.Fatalf("there is no rest of %v", ids)
	}
	if got, e := On(d, rest); got != no || e != api.OK {
		t.Fatalf("of %v with %v, On the rest of %v is %v, %d, and Off %v", d.Conf(), d.Nodes(), ids, got, e, no)
	}
	if got, e := Off(d, rest); got != yes || e != api.OK {
		t.Fatalf("of %v with %v, Off the rest of %v is %v, %d, and On %v", d.Conf(), d.Nodes(), ids, got, e, yes)
	}
	if yes.Low+no.High != d.N() || yes.High+no.Low != d.N() {
		t.Fatalf("of %v with %v, On %v is %v, Off %v", d.Conf(), d.Nodes(), ids, yes, no)
	}
}

// within holds what is told between some numbers, and on and off some nodes, against all that was accepted.
func within(t *testing.T, p pair, seed uint64) {
	t.Helper()
	l, nodes := some(edges(p.d), 8), lists(p.d, seed)
	hold(t, p.d, l, nodes)
	for at, a := range l {
		for _, b := range l[at:] {
			if got, _ := Between(p.d, a, b); p.b.Between(a, b) < got.Low || p.b.Between(a, b) > got.High {
				t.Fatalf("of %v, Between(%d, %d) is %v, and %d weighs there", p.d.Conf(), a, b, got, p.b.Between(a, b))
			}
		}
	}
	for _, ids := range nodes {
		weight := 0
		for _, r := range runs(p.d.Conf().L, ids) {
			weight += p.b.Between(r.lo, r.hi)
		}
		if got, _ := On(p.d, ids); weight < got.Low || weight > got.High {
			t.Fatalf("of %v, On %v is %v, and %d weighs there", p.d.Conf(), ids, got, weight)
		}
		if got, _ := Off(p.d, ids); p.b.Total()-weight < got.Low || p.b.Total()-weight > got.High {
			t.Fatalf("of %v, Off %v is %v, and %d weighs there", p.d.Conf(), ids, got, p.b.Total()-weight)
		}
	}
}

// The chapter's example.

func TestExample(t *testing.T) {
	for _, kind := range kinds {
		d := load(t, api.Conf{L: 2, K: 1, Kind: kind}, few...)
		for _, r := range []struct{ a, b, low, high int }{{0, 2, 2, 3}, {1, 2, 0, 1}, {3, 3, 3, 4}} {
			if got, e := Between(d, r.a, r.b); got != (api.Both{Low: r.low, High: r.high}) || e != api.OK {
				t.Errorf("Between(%d, %d) is %v, %d", r.a, r.b, got, e)
			}
		}
	}
}

// P18.1

func TestBetween(t *testing.T) {
	for _, kind := range kinds {
		d := load(t, api.Conf{L: 3, K: 2, Kind: kind}, []api.Node{{Id: 1, Count: 1}, {Id: 2, Count: 2}, {Id: 5, Count: 4}, {Id: 8, Count: 8}, {Id: 12, Count: 16}, {Id: 15, Count: 32}}...)
		for _, r := range []struct{ a, b, low, high int }{
			{0, 7, 63, 63}, {-1, 8, 63, 63}, {math.MinInt, math.MaxInt, 63, 63}, {0, math.MaxInt, 63, 63}, {math.MinInt, 7, 63, 63},
			{1, 7, 52, 55}, {0, 6, 30, 63 - 32}, {0, 3, 14, 15}, {0, 4, 30, 31}, {1, 3, 4, 7}, {0, 2, 8, 15}, {2, 3, 4, 7}, {3, 3, 0, 7}, {2, 2, 0, 7},
			{0, 0, 8, 11}, {1, 1, 0, 3}, {4, 7, 48, 49}, {4, 4, 16, 17}, {5, 6, 0, 1}, {5, 7, 32, 33}, {7, 7, 32, 33}, {3, 4, 16, 23},
			{-1, -1, 0, 0}, {8, 8, 0, 0}, {math.MinInt, -1, 0, 0}, {8, math.MaxInt, 0, 0}, {math.MinInt, math.MinInt, 0, 0}, {math.MaxInt, math.MaxInt, 0, 0}, {-5, 0, 8, 11}, {7, 100, 32, 33},
		} {
			if got, e := Between(d, r.a, r.b); got != (api.Both{Low: r.low, High: r.high}) || e != api.OK {
				t.Errorf("Between(%d, %d) is %v, %d, and should be %d and %d", r.a, r.b, got, e, r.low, r.high)
			}
		}
	}
}

// Whatever both numbers are.
func TestBetweenOddNumbers(t *testing.T) {
	eachKind(func(kind, l int) {
		p := mixed(t, api.Conf{L: l, K: 2, Kind: kind}, 30, uint64(l))
		none := load(t, api.Conf{L: l, K: 2, Kind: kind})
		for at, a := range odd {
			for other, b := range odd {
				got, e := Between(p.d, a, b)
				zero, e2 := Between(none, a, b)
				if at > other {
					if got != (api.Both{}) || zero != (api.Both{}) || e != api.ErrArg || e2 != api.ErrArg {
						t.Fatalf("of %d bits, Between(%d, %d) is %v, %d, and of an empty one %v, %d", l, a, b, got, e, zero, e2)
					}
					continue
				}
				want := between(p.d, min(max(a, -1), 1<<l), min(max(b, -1), 1<<l))
				if got != want || e != api.OK {
					t.Fatalf("of %d bits, Between(%d, %d) is %v, %d, and should be %v", l, a, b, got, e, want)
				}
				if zero != (api.Both{}) || e2 != api.OK {
					t.Fatalf("of %d bits, Between(%d, %d) of an empty one is %v, %d", l, a, b, zero, e2)
				}
			}
		}
	})
}

func TestOfNil(t *testing.T) {
	for _, a := range odd {
		for _, b := range odd {
			if got, e := Between(nil, a, b); got != (api.Both{}) || e != api.ErrNone {
				t.Fatalf("of nil, Between(%d, %d) is %v, %d", a, b, got, e)
			}
			if got, e := Share(nil, a, b, a); got != (api.Both{}) || e != api.ErrNone {
				t.Fatalf("of nil, Share(%d, %d, %d) is %v, %d", a, b, a, got, e)
			}
		}
	}
	for _, ids := range [][]int{nil, {}, {1}, {0}, {2, 3}, {-1, 1}, {math.MaxInt, math.MinInt}} {
		if got, e := On(nil, ids); got != (api.Both{}) || e != api.ErrNone {
			t.Errorf("of nil, On %v is %v, %d", ids, got, e)
		}
		if got, e := Off(nil, ids); got != (api.Both{}) || e != api.ErrNone {
			t.Errorf("of nil, Off %v is %v, %d", ids, got, e)
		}
	}
}

// P18.2

func TestOnAndOff(t *testing.T) {
	nodes := []api.Node{{Id: 1, Count: 1}, {Id: 2, Count: 2}, {Id: 5, Count: 4}, {Id: 8, Count: 8}, {Id: 12, Count: 16}, {Id: 15, Count: 32}}
	for _, kind := range kinds {
		d := load(t, api.Conf{L: 3, K: 2, Kind: kind}, nodes...)
		for _, r := range []struct {
			ids     []int
			on, off api.Both
		}{
			{nil, api.Both{}, api.Both{Low: 63, High: 63}},
			{[]int{}, api.Both{}, api.Both{Low: 63, High: 63}},
			{[]int{1}, api.Both{Low: 63, High: 63}, api.Both{}},
			{[]int{2}, api.Both{Low: 14, High: 15}, api.Both{Low: 48, High: 49}},
			{[]int{3}, api.Both{Low: 48, High: 49}, api.Both{Low: 14, High: 15}},
			// What only several hold together is held.
			{[]int{2, 3}, api.Both{Low: 63, High: 63}, api.Both{}},
			{[]int{3, 2}, api.Both{Low: 63, High: 63}, api.Both{}},
			{[]int{15, 14, 13, 12, 11, 10, 9, 8}, api.Both{Low: 63, High: 63}, api.Both{}},
			{[]int{11, 4, 10}, api.Both{Low: 14, High: 15}, api.Both{Low: 48, High: 49}},
			{[]int{10, 11}, api.Both{Low: 4, High: 7}, api.Both{Low: 56, High: 59}},
			{[]int{5, 6}, api.Both{Low: 20, High: 23}, api.Both{Low: 40, High: 43}},
			// Any order, the same again, one below another.
			{[]int{5, 10, 5, 11}, api.Both{Low: 4, High: 7}, api.Both{Low: 56, High: 59}},
			{[]int{15, 7, 2, 8, 4}, api.Both{Low: 46, High: 47}, api.Both{Low: 16, High: 17}},
			{[]int{8, 1}, api.Both{Low: 63, High: 63}, api.Both{}},
			{[]int{8}, api.Both{Low: 8, High: 11}, api.Both{Low: 52, High: 55}},
			{[]int{9}, api.Both{Low: 0, High: 3}, api.Both{Low: 60, High: 63}},
			{[]int{11}, api.Both{Low: 0, High: 7}, api.Both{Low: 56, High: 63}},
			{[]int{13}, api.Both{Low: 0, High: 1}, api.Both{Low: 62, High: 63}},
			{[]int{13, 14}, api.Both{Low: 0, High: 1}, api.Both{Low: 62, High: 63}},
			{[]int{15}, api.Both{Low: 32, High: 33}, api.Both{Low: 30, High: 31}},
			{[]int{8, 10, 15}, api.Both{Low: 40, High: 47}, api.Both{Low: 16, High: 23}},
		} {
			if got, e := On(d, r.ids); got != r.on || e != api.OK {
				t.Errorf("On %v is %v, %d, and should be %v", r.ids, got, e, r.on)
			}
			if got, e := Off(d, r.ids); got != r.off || e != api.OK {
				t.Errorf("Off %v is %v, %d, and should be %v", r.ids, got, e, r.off)
			}
		}
	}
}

func TestNodesThatAreNone(t *testing.T) {
	eachKind(func(kind, l int) {
		wrong := []int{math.MinInt, math.MinInt + 1, -1 << 62, -1 << l, -3, -2, -1, 0, 2 << l, 2<<l + 1, 3 << l, 1 << 49, 1<<49 + 1, 1 << 62, math.MaxInt - 1, math.MaxInt}
		for _, d := range []*digest.Digest{load(t, api.Conf{L: l, K: 1, Kind: kind}), mixed(t, api.Conf{L: l, K: 1, Kind: kind}, 9, 3).d} {
			for _, id := range wrong {
				for _, ids := range [][]int{{id}, {1, id}, {id, 1}, {2, id, 3}, {1 << l, 2<<l - 1, id}, {id, id}, {id, 0}} {
					if got, e := On(d, ids); got != (api.Both{}) || e != api.ErrArg {
						t.Fatalf("of %d bits, On %v is %v, %d", l, ids, got, e)
					}
					if got, e := Off(d, ids); got != (api.Both{}) || e != api.ErrArg {
						t.Fatalf("of %d bits, Off %v is %v, %d", l, ids, got, e)
					}
				}
			}
			hold(t, d, nil, [][]int{nil, {1}, {1 << l}, {2<<l - 1}, {1 << l, 2<<l - 1}, {3}, {3, 1 << l}})
		}
	})
}

// What is handed in stays, in front of its end and behind it.
func TestListsStay(t *testing.T) {
	for _, kind := range kinds {
		d := load(t, api.Conf{L: 3, K: 1, Kind: kind}, api.Node{Id: 6, Count: 3}, api.Node{Id: 8, Count: 1})
		memory := []int{13, 8, 12, 8, 3, 0, 99}
		for many := range 4 {
			holdNodes(t, d, memory[1:many+1])
		}
		if got, e := On(d, memory[:4]); got != (api.Both{Low: 4, High: 4}) || e != api.OK {
			t.Errorf("On is %v, %d", got, e)
		}
		if got, e := Off(d, memory[:6]); got != (api.Both{}) || e != api.ErrArg {
			t.Errorf("Off is %v, %d", got, e)
		}
		if !slices.Equal(memory, []int{13, 8, 12, 8, 3, 0, 99}) {
			t.Errorf("it turns to %v", memory)
		}
	}
}

// P18.3

// part is den parts of how much of n a weight is, cut down or up, reckoned with numbers of any size.
func part(weight, den, n int, up bool) int {
	whole := new(big.Int).Mul(big.NewInt(int64(weight)), big.NewInt(int64(den)))
	parts, rest := whole.QuoRem(whole, big.NewInt(int64(n)), new(big.Int))
	if up && rest.Sign() > 0 {
		return int(parts.Int64()) + 1
	}
	return int(parts.Int64())
}

func TestShare(t *testing.T) {
	for _, kind := range kinds {
		d := load(t, api.Conf{L: 2, K: 1, Kind: kind}, few...)
		for _, r := range []struct{ a, b, den, low, high int }{
			{0, 2, 1, 0, 1}, {0, 2, 2, 0, 1}, {0, 2, 3, 1, 2}, {0, 2, 6, 2, 3}, {0, 2, 5, 1, 3}, {0, 2, 100, 33, 50}, {0, 2, 12, 4, 6},
			{1, 2, 1, 0, 1}, {1, 2, 6, 0, 1}, {1, 2, 7, 0, 2}, {1, 2, 100, 0, 17},
			{3, 3, 1, 0, 1}, {3, 3, 2, 1, 2}, {3, 3, 3, 1, 2}, {3, 3, 4, 2, 3}, {3, 3, 100, 50, 67},
			{0, 3, 1, 1, 1}, {0, 3, 100, 100, 100}, {0, 3, math.MaxInt, math.MaxInt, math.MaxInt}, {math.MinInt, math.MaxInt, 7, 7, 7},
			{-1, -1, 1, 0, 0}, {4, 4, 100, 0, 0}, {4, math.MaxInt, math.MaxInt, 0, 0},
			{0, 2, math.MaxInt, math.MaxInt / 3, math.MaxInt/2 + 1}, {0, 2, math.MaxInt - 1, (math.MaxInt - 1) / 3, math.MaxInt / 2},
		} {
			if got, e := Share(d, r.a, r.b, r.den); got != (api.Both{Low: r.low, High: r.high}) || e != api.OK {
				t.Errorf("Share(%d, %d, %d) is %v, %d, and should be %d and %d", r.a, r.b, r.den, got, e, r.low, r.high)
			}
		}
	}
}

func TestShareIsRefused(t *testing.T) {
	dens := []int{math.MinInt, -1 << 32, -2, -1, 0, 1, 2, 100, math.MaxInt}
	for _, kind := range kinds {
		none := load(t, api.Conf{L: 2, K: 1, Kind: kind})
		d := load(t, api.Conf{L: 2, K: 1, Kind: kind}, few...)
		for _, den := range dens {
			for at, a := range odd {
				for other, b := range odd {
					if got, e := Share(none, a, b, den); got != (api.Both{}) || e != api.ErrEmpty {
						t.Fatalf("Share(%d, %d, %d) of an empty one is %v, %d", a, b, den, got, e)
					}
					got, e := Share(d, a, b, den)
					if wrong := den < 1 || at > other; wrong && (got != (api.Both{}) || e != api.ErrArg) || !wrong && e != api.OK {
						t.Fatalf("Share(%d, %d, %d) is %v, %d", a, b, den, got, e)
					}
				}
			}
		}
		d.Reset()
		if got, e := Share(d, 0, 1, 1); got != (api.Both{}) || e != api.ErrEmpty {
			t.Errorf("of what is empty again Share is %v, %d", got, e)
		}
	}
}

// shares holds Share of many numbers of parts against Between.
func shares(t *testing.T, d *digest.Digest) {
	t.Helper()
	n := d.N()
	l := some(edges(d), 4)
	for at, a := range l {
		for _, b := range l[at:] {
			weight := between(d, a, b)
			for _, den := range []int{1, 2, 3, 10, 1000, max(1, n-1), n, n + 1, 2 * n, 3*n - 1, 1 << 32, 1<<56 - 1, 1 << 62, math.MaxInt - 1, math.MaxInt} {
				want := api.Both{Low: part(weight.Low, den, n, false), High: part(weight.High, den, n, true)}
				if got, e := Share(d, a, b, den); got != want || e != api.OK {
					t.Fatalf("of %v with %v, Share(%d, %d, %d) is %v, %d, and should be %v", d.Conf(), d.Nodes(), a, b, den, got, e, want)
				}
			}
		}
	}
}

func TestShares(t *testing.T) {
	eachKind(func(kind, l int) {
		for _, n := range []int{1, 2, 3, 10, 1 << 32, api.Most - 1, api.Most} {
			shares(t, load(t, api.Conf{L: l, K: 2, Kind: kind}, api.Node{Id: 1<<l + 1, Count: n}))
		}
		p := mixed(t, api.Conf{L: l, K: 2, Kind: kind}, 40, uint64(l))
		shares(t, p.d)
		p.d.Compress()
		shares(t, p.d)
	})
}

// All calls.

// all calls f with a digest of each set of nodes of l bits that there is for a k up to the greatest one.
func all(kind, l, greatest int, f func(d *digest.Digest)) {
	for set := range 1 << (2<<l - 1) {
		nodes := nodesOf(set)
		for at := range nodes {
			nodes[at].Count = 1 + (nodes[at].Id+set)%3
		}
		for k := 1; k <= greatest; k++ {
			if d, e := digest.Load(api.Conf{L: l, K: k, Kind: kind}, nodes); e == api.OK {
				f(d)
			}
		}
	}
}

// nodesOf is the nodes that a set's bits tell, each with 1.
func nodesOf(set int) []api.Node {
	var nodes []api.Node
	for id := 1; set > 0; id, set = id+1, set/2 {
		if set%2 == 1 {
			nodes = append(nodes, api.Node{Id: id, Count: 1})
		}
	}
	return nodes
}

// idsOf is the nodes that a set's bits tell.
func idsOf(set int) []int {
	var ids []int
	for _, n := range nodesOf(set) {
		ids = append(ids, n.Id)
	}
	return ids
}

// byValues is what On should be, by all values of a small universe, each of which is told to be asked for or not.
func byValues(d *digest.Digest, asked func(x int) bool) api.Both {
	var sum api.Both
	l := d.Conf().L
	for _, n := range d.Nodes() {
		held, yes := 0, 0
		for x := range 1 << l {
			for up := 1<<l + x; up > 0; up /= 2 {
				if up == n.Id {
					held++
					if asked(x) {
						yes++
					}
				}
			}
		}
		if yes == held {
			sum.Low += n.Count
		}
		if yes > 0 {
			sum.High += n.Count
		}
	}
	return sum
}

// Each set of nodes on and off each set of nodes, in the universes of 1 and 2 bits.
func TestAllSetsOfNodes(t *testing.T) {
	for _, kind := range kinds {
		for l := 1; l <= 2; l++ {
			var every [][]int
			for set := range 1 << (2<<l - 1) {
				every = append(every, idsOf(set))
			}
			all(kind, l, 2, func(d *digest.Digest) { hold(t, d, []int{-2, -1, 0, 1, 2, 3, 4, 5}, every) })
		}
	}
}

// Each node of 3 bits alone, on and off each set of nodes, by all values.
func TestAllSetsByValues(t *testing.T) {
	var digests []*digest.Digest
	for id := 1; id < 16; id++ {
		digests = append(digests, load(t, api.Conf{L: 3, K: 1, Kind: api.Hash}, api.Node{Id: id, Count: 1}))
	}
	for set := range 1 << 15 {
		ids := idsOf(set)
		var held [8]bool
		for x := range held {
			held[x] = tiles.Holds(3, ids, x)
		}
		for _, d := range digests {
			if got, e := On(d, ids); got != byValues(d, func(x int) bool { return held[x] }) || e != api.OK {
				t.Fatalf("of %v, On %v is %v, %d", d.Nodes(), ids, got, e)
			}
			if got, e := Off(d, ids); got != byValues(d, func(x int) bool { return !held[x] }) || e != api.OK {
				t.Fatalf("of %v, Off %v is %v, %d", d.Nodes(), ids, got, e)
			}
		}
	}
}

// Each set of nodes of 3 bits, between all numbers.
func TestAllSetsOfThreeBits(t *testing.T) {
	all(api.Hash, 3, 1, func(d *digest.Digest) {
		for a := range 8 {
			for b := a; b < 8; b++ {
				want := byValues(d, func(x int) bool { return a <= x && x <= b })
				if got, e := Between(d, a, b); got != want || e != api.OK {
					t.Fatalf("of %v, Between(%d, %d) is %v, %d, and should be %v", d.Nodes(), a, b, got, e, want)
				}
			}
		}
	})
}

// Each node of each set stands for its first values, for its last ones, or for both.
func TestAllThatNodesMayStandFor(t *testing.T) {
	all(api.Hash, 2, 2, func(d *digest.Digest) {
		for way := range 3 {
			b, e := bag.New(2)
			if e != api.OK {
				t.Fatal(e)
			}
			for at, n := range d.Nodes() {
				first, last := ends(2, n.Id)
				if way == 1 || way == 2 && at%2 == 0 {
					first = last
				}
				if e := b.Add(first, n.Count); e != api.OK {
					t.Fatal(e)
				}
			}
			within(t, pair{d, b}, uint64(way))
		}
	})
}

// Between two numbers is on the fewest tiles that hold the values from one to the other.
func TestBetweenIsOnTiles(t *testing.T) {
	eachKind(func(kind, l int) {
		d := mixed(t, api.Conf{L: l, K: 3, Kind: kind}, 60, uint64(l)).d
		l2 := some(slices.DeleteFunc(edges(d), func(x int) bool { return x < 0 || x >= 1<<l }), 10)
		for at, a := range l2 {
			for _, b := range l2[at:] {
				ids, ok := tiles.Of(l, a, b)
				if !ok {
					t.Fatalf("of %d bits there are no tiles from %d to %d", l, a, b)
				}
				want, e := Between(d, a, b)
				if got, e2 := On(d, ids); got != want || e != api.OK || e2 != api.OK {
					t.Fatalf("of %d bits, Between(%d, %d) is %v, and On %v is %v", l, a, b, want, ids, got)
				}
				n := rank.High(d, b) - rank.Low(d, a-1)
				if want.High != n {
					t.Fatalf("of %d bits, Between(%d, %d) is %v, and the ranks leave %d", l, a, b, want, n)
				}
			}
		}
	})
}

// P18.4, P18.5

func TestMixedDigests(t *testing.T) {
	eachKind(func(kind, l int) {
		for _, k := range []int{1, 3} {
			for _, many := range []int{0, 1, k, 4 * k, 8 * k, 30 * k} {
				p := mixed(t, api.Conf{L: l, K: k, Kind: kind}, many, uint64(100*l+k+many))
				within(t, p, uint64(many))
				p.d.Compress()
				within(t, p, uint64(many+1))
			}
		}
	})
}

func TestWhatIsMade(t *testing.T) {
	eachKind(func(kind, l int) {
		for _, k := range []int{1, 4} {
			a := mixed(t, api.Conf{L: l, K: k, Kind: kind}, 12*k, uint64(l+k))
			b := mixed(t, api.Conf{L: l, K: k + 1, Kind: api.Hash}, 30*k, uint64(7*l+k))
			merged, e := blend.All(b.d, a.d, b.d)
			if e != api.OK || a.b.Pour(b.b) != api.OK || a.b.Pour(b.b) != api.OK {
				t.Fatalf("they aren't merged: %d", e)
			}
			within(t, pair{merged, a.b}, 1)
			lower, e := blend.Lower(b.d, 1)
			if e != api.OK {
				t.Fatal(e)
			}
			within(t, pair{lower, b.b}, 2)
			grown, e := recast.Grow(b.d, 48)
			wider, e2 := b.b.Wider(48)
			if e != api.OK || e2 != api.OK {
				t.Fatal(e, e2)
			}
			within(t, pair{grown, wider}, 3)
			for _, by := range []int{0, 1, l / 2, l - 1} {
				if by >= l {
					continue
				}
				coarse, e := recast.Coarsen(merged, by)
				image, e2 := a.b.Image(by)
				if e != api.OK || e2 != api.OK {
					t.Fatal(e, e2)
				}
				within(t, pair{coarse, image}, 4)
			}
		}
	})
}

// All that may weigh, in few values and in many.
func TestHeavyDigests(t *testing.T) {
	eachKind(func(kind, l int) {
		for _, k := range []int{1, 2, 5} {
			p := empty(t, api.Conf{L: l, K: k, Kind: kind})
			for at := range 10 * k {
				p.put(t, at*7919%(1<<l), api.Most/(10*k))
			}
			p.put(t, 1<<l-1, api.Most-p.d.N())
			if p.d.N() != api.Most {
				t.Fatalf("N is %d", p.d.N())
			}
			within(t, p, 5)
			shares(t, p.d)
			p.d.Compress()
			within(t, p, 6)
			shares(t, p.d)
		}
		d := load(t, api.Conf{L: l, K: 1, Kind: kind}, api.Node{Id: 1, Count: api.Most})
		hold(t, d, edges(d), lists(d, 7))
		shares(t, d)
	})
}

// Of leaves alone, both bounds are what weighs there in a bag.
func TestLeavesTellTheWeight(t *testing.T) {
	eachKind(func(kind, l int) {
		p := mixed(t, api.Conf{L: l, K: 5, Kind: kind}, 39, uint64(l))
		for _, a := range some(edges(p.d), 20) {
			for _, b := range some(edges(p.d), 20) {
				want := p.b.Between(a, b)
				if got, e := Between(p.d, a, b); a <= b && (got != api.Both{Low: want, High: want} || e != api.OK) {
					t.Errorf("of %d bits, between %d and %d %d weighs, and Between is %v", l, a, b, want, got)
				}
			}
		}
	})
}

// Between the two values in the middle, of what lies above one of them: nothing surely, and all of it maybe.
func TestWidestBounds(t *testing.T) {
	for l := 2; l <= 48; l++ {
		middle := 1 << (l - 1)
		nodes := []api.Node{{Id: 1, Count: 5}}
		for up := 1; up < l; up++ {
			nodes = append(nodes, api.Node{Id: (1<<l + middle - 1) >> up, Count: 5}, api.Node{Id: (1<<l + middle) >> up, Count: 5})
		}
		slices.SortFunc(nodes, func(a, b api.Node) int { return a.Id - b.Id })
		d := load(t, api.Conf{L: l, K: 2*l - 1, Kind: api.Hash}, nodes...)
		want := api.Both{Low: 0, High: d.N()}
		if got, e := Between(d, middle-1, middle); got != want || e != api.OK {
			t.Errorf("of %d bits with %v, Between is %v, %d, and should be %v", l, d.Nodes(), got, e, want)
		}
		hold(t, d, some(edges(d), 12), lists(d, uint64(l)))
	}
}

func TestBothKindsTellTheSame(t *testing.T) {
	for l := 1; l <= 16; l++ {
		for many := 1; many < 40; many += 3 {
			a := mixed(t, api.Conf{L: l, K: 3, Kind: api.Dense}, many, uint64(100*l+many)).d
			b := mixed(t, api.Conf{L: l, K: 3, Kind: api.Hash}, many, uint64(100*l+many)).d
			for _, ids := range lists(a, uint64(many)) {
				one, e := On(a, ids)
				other, e2 := On(b, ids)
				if one != other || e != e2 {
					t.Fatalf("On %v is %v, %d, and of the other kind %v, %d", ids, one, e, other, e2)
				}
			}
			for _, x := range some(edges(a), 10) {
				one, e := Share(a, x, 1<<l/2, 1000)
				other, e2 := Share(b, x, 1<<l/2, 1000)
				if one != other || e != e2 {
					t.Fatalf("Share is %v, %d, and of the other kind %v, %d", one, e, other, e2)
				}
			}
		}
	}
}

// A great many nodes on a great many.
func TestManyNodes(t *testing.T) {
	for _, c := range []api.Conf{{L: 48, K: 3000, Kind: api.Hash}, {L: 16, K: 3000, Kind: api.Dense}} {
		p := mixed(t, c, 60000, 1)
		var ids, leaves []int
		for _, n := range p.d.Nodes() {
			if n.Id%3 > 0 {
				ids = append(ids, n.Id)
			}
		}
		for at := range 65536 {
			leaves = append(leaves, 1<<c.L+at)
		}
		slices.Reverse(ids)
		yes, e := On(p.d, ids)
		no, e2 := Off(p.d, ids)
		if e != api.OK || e2 != api.OK || yes.Low+no.High != p.d.N() || yes.High+no.Low != p.d.N() {
			t.Fatalf("of %v, On is %v, %d, Off %v, %d", c, yes, e, no, e2)
		}
		sum, below := 0, map[int]bool{}
		for _, id := range ids {
			below[id] = true
		}
		for _, n := range p.d.Nodes() {
			for up := n.Id; up > 0; up /= 2 {
				if below[up] {
					sum += n.Count
					break
				}
			}
		}
		if yes.Low < sum {
			t.Fatalf("of %v, On is %v, and below the nodes is %d", c, yes, sum)
		}
		want, e := Between(p.d, 0, 65535)
		if got, e2 := On(p.d, leaves); got != want || e != api.OK || e2 != api.OK {
			t.Fatalf("of %v, On all leaves is %v, and Between %v", c, got, want)
		}
	}
}
