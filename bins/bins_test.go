package bins

import (
	"math"
	"math/big"
	"math/bits"
	"slices"
	"testing"

	"dewpond/api"
	"dewpond/bag"
	"dewpond/blend"
	"dewpond/digest"
	"dewpond/rank"
	"dewpond/reach"
	"dewpond/recast"
)

// kinds are the kinds of digests.
var kinds = []int{api.Dense, api.Hash}

// odd are numbers far from all values, those of universes' ends, and some ordinary ones, rising.
var odd = []int{math.MinInt, math.MinInt + 1, -1 << 62, -1 << 48, -1<<32 - 1, -65536, -2, -1, 0, 1, 2, 3, 255, 256, 65535, 65536, 1 << 32, 1<<47 - 1, 1 << 47, 1<<48 - 2, 1<<48 - 1, 1 << 48, 1<<48 + 1, 1 << 62, math.MaxInt - 1, math.MaxInt}

// few is the nodes of the chapter's example.
var few = []api.Node{{Id: 1, Count: 1}, {Id: 4, Count: 2}, {Id: 7, Count: 3}}

// load is a digest of these nodes.
func load(t *testing.T, c api.Conf, nodes ...api.Node) *digest.Digest {
	t.Helper()
	d, e := digest.Load(c, nodes)
	if e != api.OK {
		t.Fatalf("there is no digest of %v with %v: %d", c, nodes, e)
	}
	return d
}

// eachKind calls f with each kind and each number of bits for which there are digests.
func eachKind(f func(kind, l int)) {
	for l := 1; l <= 48; l++ {
		if l <= 16 {
			f(api.Dense, l)
		}
		f(api.Hash, l)
	}
}

// next is the number behind n in a row of numbers that looks mixed.
func next(n uint64) uint64 { return n*6364136223846793005 + 1442695040888963407 }

// pair is a digest, and a bag of all that it stands for.
type pair struct {
	d *digest.Digest
	b *bag.Bag
}

// empty is a pair without values.
func empty(t *testing.T, c api.Conf) pair {
	t.Helper()
	b, e := bag.New(c.L)
	if e != api.OK {
		t.Fatalf("there is no bag of %d bits: %d", c.L, e)
	}
	return pair{load(t, c), b}
}

// put inserts a value into both.
func (p pair) put(t *testing.T, x, weight int) {
	t.Helper()
	if one, other := p.d.Insert(x, weight), p.b.Add(x, weight); one != api.OK || other != api.OK {
		t.Fatalf("of %v, %d, %d isn't taken: %d, %d", p.d.Conf(), x, weight, one, other)
	}
}

// mixed is a pair into which so many values were put, often of a few, seldom a heavy one.
func mixed(t *testing.T, c api.Conf, many int, seed uint64) pair {
	t.Helper()
	p := empty(t, c)
	for range many {
		seed = next(seed)
		x := int(seed>>15) % (1 << c.L)
		seed = next(seed)
		weight := 1 + int(seed>>33)%3
		switch seed >> 40 % 8 {
		case 0, 1, 2:
			x %= min(64, 1<<c.L)
		case 3:
			x = 1<<c.L - 1 - x%min(16, 1<<c.L)
		case 4:
			weight += int(seed>>20) % 100
		}
		p.put(t, x, weight)
	}
	return p
}

// ends is the first and the last value of a node.
func ends(l, id int) (first, last int) {
	below := l + 1 - bits.Len(uint(id))
	first = id<<below - 1<<l
	return first, first + 1<<below - 1
}

// place is the place of the bin in which x lies: that of the first edge that isn't below it.
func place(edges []int, x int) int {
	for at, edge := range edges {
		if x <= edge {
			return at
		}
	}
	return len(edges)
}

// weights and bounds are what Of and Bounds should be: each node put into the bins of its values.
func weights(d *digest.Digest, edges []int) []int {
	l := make([]int, len(edges)+1)
	for _, n := range d.Nodes() {
		_, last := ends(d.Conf().L, n.Id)
		l[place(edges, last)] += n.Count
	}
	return l
}

func bounds(d *digest.Digest, edges []int) []api.Both {
	l := make([]api.Both, len(edges)+1)
	for _, n := range d.Nodes() {
		first, last := ends(d.Conf().L, n.Id)
		from, to := place(edges, first), place(edges, last)
		if from == to {
			l[from].Low += n.Count
		}
		for at := from; at <= to; at++ {
			l[at].High += n.Count
		}
	}
	return l
}

// evens is what Even should be: of each rank, reckoned with numbers of any size, the first end of a node up to which that much weighs.
func evens(d *digest.Digest, parts int) []int {
	nodes := d.Nodes()
	last := func(n api.Node) int {
		_, last := ends(d.Conf().L, n.Id)
		return last
	}
	slices.SortFunc(nodes, func(a, b api.Node) int { return last(a) - last(b) })
	var values []int
	at, sum := 0, nodes[0].Count
	for i := 1; i < parts; i++ {
		for r := partUp(d.N(), i, parts); sum < r; {
			at++
			sum += nodes[at].Count
		}
		values = append(values, last(nodes[at]))
	}
	return slices.Compact(values)
}

// partUp is num of den parts of n, and partDown so as well, reckoned with numbers of any size.
func partUp(n, num, den int) int {
	whole := new(big.Int).Mul(big.NewInt(int64(n)), big.NewInt(int64(num)))
	parts, rest := whole.QuoRem(whole, big.NewInt(int64(den)), new(big.Int))
	if rest.Sign() > 0 {
		return int(parts.Int64()) + 1
	}
	return int(parts.Int64())
}

func partDown(n, num, den int) int {
	whole := new(big.Int).Mul(big.NewInt(int64(n)), big.NewInt(int64(num)))
	return int(whole.Quo(whole, big.NewInt(int64(den))).Int64())
}

// edgesOf is the values that a set's bits tell, rising.
func edgesOf(set int) []int {
	var edges []int
	for x := 0; set > 0; x, set = x+1, set/2 {
		if set%2 == 1 {
			edges = append(edges, x)
		}
	}
	return edges
}

// rows are rows of edges: none, the universe's first and last values, all at which a node begins or ends and those beside them, a part of these, and mixed ones.
func rows(d *digest.Digest, seed uint64) [][]int {
	last := 1<<d.Conf().L - 1
	var near, mixed, spread []int
	for _, n := range d.Nodes() {
		first, last := ends(d.Conf().L, n.Id)
		near = append(near, first-1, first, first+1, last-1, last, last+1)
	}
	for range 12 {
		seed = next(seed)
		mixed = append(mixed, int(seed>>15)%(last+1))
	}
	for at := range 9 {
		spread = append(spread, last/8*at)
	}
	near, mixed, spread = values(near, last), values(mixed, last), values(spread, last)
	all := [][]int{nil, {}, {0}, {last}, {0, last}, values([]int{0, 1, last - 1, last}, last), {last / 2}, near, mixed, spread}
	for _, by := range []int{2, 5} {
		var some []int
		for at := int(seed>>33) % by; at < len(near); at += by {
			some = append(some, near[at])
		}
		all = append(all, some)
	}
	return all
}

// values is those of l that are from 0 to last, rising.
func values(l []int, last int) []int {
	l = slices.DeleteFunc(slices.Clone(l), func(x int) bool { return x < 0 || x > last })
	slices.Sort(l)
	return slices.Compact(l)
}

// hold holds what is told of some rows of edges against the digest's nodes, and the laws; the digest and the rows stay.
func hold(t *testing.T, d *digest.Digest, rows [][]int) {
	t.Helper()
	before := d.Clone()
	for _, edges := range rows {
		kept := slices.Clone(edges)
		if !Right(d.Conf().L, edges) {
			t.Fatalf("of %d bits, %v are no edges", d.Conf().L, edges)
		}
		of, e := Of(d, edges)
		if want := weights(d, edges); !slices.Equal(of, want) || e != api.OK {
			t.Fatalf("of %v with %v, Of %v is %v, %d, and should be %v", d.Conf(), d.Nodes(), edges, of, e, want)
		}
		both, e := Bounds(d, edges)
		if want := bounds(d, edges); !slices.Equal(both, want) || e != api.OK {
			t.Fatalf("of %v with %v, Bounds of %v are %v, %d, and should be %v", d.Conf(), d.Nodes(), edges, both, e, want)
		}
		if !slices.Equal(edges, kept) {
			t.Fatalf("%v turns to %v", kept, edges)
		}
		laws(t, d, edges, of, both)
	}
	if !digest.Same(d, before) || d.Conf() != before.Conf() {
		t.Fatalf("%v turns to %v", before.Nodes(), d.Nodes())
	}
}

// laws holds what is told of one row of edges against the laws, the ranks, and what is told of that row without one edge.
func laws(t *testing.T, d *digest.Digest, edges, of []int, both []api.Both) {
	t.Helper()
	sum := 0
	for at, weight := range of {
		sum += weight
		if at < len(edges) && sum != rank.Low(d, edges[at]) {
			t.Fatalf("of %v with %v, Of %v is %v, and Low(%d) %d", d.Conf(), d.Nodes(), edges, of, edges[at], rank.Low(d, edges[at]))
		}
		if weight < both[at].Low || weight > both[at].High {
			t.Fatalf("of %v with %v, Of %v is %v, and Bounds are %v", d.Conf(), d.Nodes(), edges, of, both)
		}
	}
	if sum != d.N() {
		t.Fatalf("of %v with %v, Of %v is %v, which is %d, and N %d", d.Conf(), d.Nodes(), edges, of, sum, d.N())
	}
	for at := 0; at < len(edges); at += 1 + len(edges)/6 {
		less := slices.Delete(slices.Clone(edges), at, at+1)
		joined := slices.Delete(slices.Clone(of), at, at+1)
		joined[at] += of[at]
		if got, e := Of(d, less); !slices.Equal(got, joined) || e != api.OK {
			t.Fatalf("of %v with %v, Of %v is %v, and without %d %v, %d", d.Conf(), d.Nodes(), edges, of, edges[at], got, e)
		}
		got, e := Bounds(d, less)
		if e != api.OK || len(got) != len(edges) || !slices.Equal(got[:at], both[:at]) || !slices.Equal(got[at+1:], both[at+2:]) {
			t.Fatalf("of %v with %v, Bounds of %v are %v, and without %d %v, %d", d.Conf(), d.Nodes(), edges, both, edges[at], got, e)
		}
		one, other := both[at], both[at+1]
		if got[at].Low < one.Low+other.Low || got[at].High > one.High+other.High || got[at].High < max(one.High, other.High) {
			t.Fatalf("of %v with %v, Bounds of %v are %v, and without %d %v", d.Conf(), d.Nodes(), edges, both, edges[at], got)
		}
	}
}

// holdEven holds the ends of even parts against the digest's nodes, and their bins against the parts.
func holdEven(t *testing.T, d *digest.Digest, parts ...int) {
	t.Helper()
	for _, many := range parts {
		got, e := Even(d, many)
		if want := evens(d, many); !slices.Equal(got, want) || e != api.OK {
			t.Fatalf("of %v with %v, Even of %d is %v, %d, and should be %v", d.Conf(), d.Nodes(), many, got, e, want)
		}
		if !Right(d.Conf().L, got) {
			t.Fatalf("of %v, Even of %d is %v, which are no edges", d.Conf(), many, got)
		}
	}
}

// within holds what is told of some rows of edges against all that was accepted.
func within(t *testing.T, p pair, rows [][]int) {
	t.Helper()
	hold(t, p.d, rows)
	for _, edges := range rows {
		both, _ := Bounds(p.d, edges)
		first := 0
		for at, b := range both {
			last := 1<<p.d.Conf().L - 1
			if at < len(edges) {
				last = edges[at]
			}
			if weight := p.b.Between(first, last); weight < b.Low || weight > b.High {
				t.Fatalf("of %v, Bounds of %v are %v, and from %d to %d %d weighs", p.d.Conf(), edges, both, first, last, weight)
			}
			first = last + 1
		}
	}
	if p.d.N() > 0 {
		holdEven(t, p.d, 1, 2, 3, 7, 100)
	}
}

// The chapter's example.

func TestExample(t *testing.T) {
	for _, kind := range kinds {
		d := load(t, api.Conf{L: 2, K: 1, Kind: kind}, few...)
		got, e := Of(d, []int{0, 2})
		if !slices.Equal(got, []int{2, 0, 4}) || e != api.OK {
			t.Errorf("Of is %v, %d", got, e)
		}
		if bars, ok := Bars(got, 10); !slices.Equal(bars, []int{5, 0, 10}) || !ok {
			t.Errorf("Bars are %v, %t", bars, ok)
		}
	}
}

// P19.1

func TestRight(t *testing.T) {
	for _, r := range []struct {
		l     int
		edges []int
		right bool
	}{
		{1, nil, true}, {48, []int{}, true}, {0, nil, false}, {49, nil, false}, {-1, nil, false}, {math.MinInt, nil, false}, {math.MaxInt, nil, false}, {64, nil, false}, {65, []int{0}, false}, {0, []int{0}, false}, {49, []int{0, 1}, false}, {-1, []int{0}, false},
		{1, []int{0}, true}, {1, []int{1}, true}, {1, []int{0, 1}, true}, {1, []int{2}, false}, {1, []int{-1}, false}, {1, []int{1, 0}, false}, {1, []int{0, 0}, false}, {1, []int{1, 1}, false}, {1, []int{0, 1, 2}, false}, {1, []int{-1, 0, 1}, false},
		{3, []int{0, 3, 7}, true}, {3, []int{0, 1, 2, 3, 4, 5, 6, 7}, true}, {3, []int{0, 3, 8}, false}, {3, []int{3, 0, 7}, false}, {3, []int{0, 7, 3}, false}, {3, []int{0, 3, 3, 7}, false}, {3, []int{7, 7}, false},
		{48, []int{0, 1<<48 - 1}, true}, {48, []int{1<<48 - 2, 1<<48 - 1}, true}, {48, []int{1 << 48}, false}, {48, []int{0, math.MaxInt}, false}, {48, []int{math.MinInt, 0}, false}, {47, []int{1<<48 - 1}, false},
	} {
		if got := Right(r.l, r.edges); got != r.right {
			t.Errorf("of %d bits, Right of %v is %t", r.l, r.edges, got)
		}
	}
}

// Each list of up to four numbers in and beside small universes, and each pair of odd numbers in all universes.
func TestRightOfAllLists(t *testing.T) {
	for l := 1; l <= 3; l++ {
		var grow func(edges []int)
		grow = func(edges []int) {
			want := len(edges) == 0 || edges[0] >= 0 && edges[len(edges)-1] < 1<<l
			for at := 1; at < len(edges); at++ {
				want = want && edges[at-1] < edges[at]
			}
			if got := Right(l, edges); got != want {
				t.Fatalf("of %d bits, Right of %v is %t", l, edges, got)
			}
			if len(edges) < 4 {
				for x := -2; x < 1<<l+2; x++ {
					grow(append(slices.Clone(edges), x))
				}
			}
		}
		grow(nil)
	}
	for l := -2; l <= 66; l++ {
		there := l >= 1 && l <= 48
		for _, a := range odd {
			want := there && a >= 0 && a < 1<<max(l, 0)
			if got := Right(l, []int{a}); got != want {
				t.Fatalf("of %d bits, Right of %d is %t", l, a, got)
			}
			for _, b := range odd {
				if got := Right(l, []int{a, b}); got != (want && a < b && b < 1<<max(l, 0)) {
					t.Fatalf("of %d bits, Right of %d, %d is %t", l, a, b, got)
				}
			}
		}
	}
}

// P19.1, P19.2

func TestOfAndBounds(t *testing.T) {
	for _, kind := range kinds {
		d := load(t, api.Conf{L: 3, K: 2, Kind: kind}, []api.Node{{Id: 1, Count: 1}, {Id: 2, Count: 2}, {Id: 5, Count: 4}, {Id: 8, Count: 8}, {Id: 12, Count: 16}, {Id: 15, Count: 32}}...)
		for _, r := range []struct {
			edges, of []int
			bounds    []api.Both
		}{
			{nil, []int{63}, []api.Both{{Low: 63, High: 63}}},
			{[]int{}, []int{63}, []api.Both{{Low: 63, High: 63}}},
			// A last bin that has no values.
			{[]int{7}, []int{63, 0}, []api.Both{{Low: 63, High: 63}, {}}},
			{[]int{6, 7}, []int{30, 33, 0}, []api.Both{{Low: 30, High: 31}, {Low: 32, High: 33}, {}}},
			{[]int{6}, []int{30, 33}, []api.Both{{Low: 30, High: 31}, {Low: 32, High: 33}}},
			{[]int{0}, []int{8, 55}, []api.Both{{Low: 8, High: 11}, {Low: 52, High: 55}}},
			{[]int{0, 7}, []int{8, 55, 0}, []api.Both{{Low: 8, High: 11}, {Low: 52, High: 55}, {}}},
			{[]int{3}, []int{14, 49}, []api.Both{{Low: 14, High: 15}, {Low: 48, High: 49}}},
			{[]int{2}, []int{8, 55}, []api.Both{{Low: 8, High: 15}, {Low: 48, High: 55}}},
			{[]int{1, 2}, []int{8, 0, 55}, []api.Both{{Low: 8, High: 11}, {Low: 0, High: 7}, {Low: 48, High: 55}}},
			{[]int{1, 3, 5}, []int{8, 6, 16, 33}, []api.Both{{Low: 8, High: 11}, {Low: 4, High: 7}, {Low: 16, High: 17}, {Low: 32, High: 33}}},
			{[]int{0, 1, 2, 3, 4, 5, 6, 7}, []int{8, 0, 0, 6, 16, 0, 0, 33, 0}, []api.Both{{Low: 8, High: 11}, {Low: 0, High: 3}, {Low: 0, High: 7}, {Low: 0, High: 7}, {Low: 16, High: 17}, {Low: 0, High: 1}, {Low: 0, High: 1}, {Low: 32, High: 33}, {}}},
		} {
			if got, e := Of(d, r.edges); !slices.Equal(got, r.of) || e != api.OK {
				t.Errorf("Of %v is %v, %d, and should be %v", r.edges, got, e, r.of)
			}
			if got, e := Bounds(d, r.edges); !slices.Equal(got, r.bounds) || e != api.OK {
				t.Errorf("Bounds of %v are %v, %d, and should be %v", r.edges, got, e, r.bounds)
			}
		}
	}
}

// refuse holds that of these edges both are that error.
func refuse(t *testing.T, d *digest.Digest, edges []int, want api.Errno) {
	t.Helper()
	if got, e := Of(d, edges); len(got) != 0 || e != want {
		t.Errorf("of %v, Of %v is %v, %d, and the error should be %d", d.Conf(), edges, got, e, want)
	}
	if got, e := Bounds(d, edges); len(got) != 0 || e != want {
		t.Errorf("of %v, Bounds of %v are %v, %d, and the error should be %d", d.Conf(), edges, got, e, want)
	}
}

func TestWrongEdges(t *testing.T) {
	for _, edges := range [][]int{nil, {}, {0}, {1, 0}, {-1}, {math.MaxInt}} {
		refuse(t, nil, edges, api.ErrNone)
	}
	eachKind(func(kind, l int) {
		last := 1<<l - 1
		none := load(t, api.Conf{L: l, K: 2, Kind: kind})
		d := mixed(t, api.Conf{L: l, K: 2, Kind: kind}, 30, uint64(l)).d
		before := d.Clone()
		for _, edges := range [][]int{
			{last + 1}, {-1}, {-1, 0}, {0, last + 1}, {0, 0}, {last, last}, {last, 0}, {1, 0}, {0, 1, 1}, {0, 1, 0}, {0, last, last + 1}, {0, -1, last}, {-2, -1}, {last + 1, last + 2},
			{math.MinInt}, {math.MaxInt}, {math.MinInt, math.MaxInt}, {0, math.MaxInt}, {math.MinInt, 0}, {1 << 62}, {0, 1 << 48}, {-1 << 48, 0},
		} {
			refuse(t, d, edges, api.ErrEdges)
			refuse(t, none, edges, api.ErrEdges)
		}
		if !digest.Same(d, before) {
			t.Errorf("%v turns to %v", before.Nodes(), d.Nodes())
		}
		for _, x := range odd {
			if x < 0 || x > last {
				refuse(t, d, []int{x}, api.ErrEdges)
			} else {
				hold(t, d, [][]int{{x}})
			}
		}
	})
}

// Nothing weighs in a digest without nodes, in as many bins as there are.
func TestOfEmpty(t *testing.T) {
	eachKind(func(kind, l int) {
		d := load(t, api.Conf{L: l, K: 2, Kind: kind})
		hold(t, d, rows(d, uint64(l)))
		d.Insert(0, 5)
		hold(t, d, rows(d, uint64(l)))
		d.Reset()
		hold(t, d, rows(d, uint64(l)))
	})
}

// Lists cut from a greater one: what stands behind them is nothing of theirs.
func TestCutLists(t *testing.T) {
	for _, kind := range kinds {
		d := load(t, api.Conf{L: 3, K: 1, Kind: kind}, few...)
		memory := []int{9, 0, 3, 5, 7, 2, -1}
		for many := range 5 {
			hold(t, d, [][]int{memory[1 : many+1]})
			if bars, ok := Bars(memory[1:many+1], 7); len(bars) != many || !ok {
				t.Errorf("Bars of %v are %v", memory[1:many+1], bars)
			}
			if at, ok := Heaviest(memory[1 : many+1]); at != max(0, many-1) || ok != (many > 0) {
				t.Errorf("Heaviest of %v is %d, %t", memory[1:many+1], at, ok)
			}
		}
		refuse(t, d, memory[:2], api.ErrEdges)
		refuse(t, d, memory[1:6], api.ErrEdges)
		if !slices.Equal(memory, []int{9, 0, 3, 5, 7, 2, -1}) {
			t.Errorf("it turns to %v", memory)
		}
	}
}

// What was answered is written to, and nothing that is told later is another.
func TestAnswersAreNew(t *testing.T) {
	d := mixed(t, api.Conf{L: 8, K: 3, Kind: api.Dense}, 20, 1).d
	edges := []int{3, 40, 200}
	for range 3 {
		hold(t, d, [][]int{edges})
		holdEven(t, d, 5)
		of, _ := Of(d, edges)
		both, _ := Bounds(d, edges)
		even, _ := Even(d, 5)
		bars, _ := Bars(edges, 200)
		if !slices.Equal(bars, edges) {
			t.Fatalf("Bars are %v", bars)
		}
		for _, l := range [][]int{of, even, bars} {
			for at := range l {
				l[at] = -7
			}
			_ = append(l, -7, -7)
		}
		both[0], both[3] = api.Both{Low: -7, High: -7}, api.Both{Low: -7, High: -7}
	}
	if !slices.Equal(edges, []int{3, 40, 200}) {
		t.Errorf("it turns to %v", edges)
	}
}

// P19.3

func TestEven(t *testing.T) {
	for _, kind := range kinds {
		for _, r := range []struct {
			l     int
			nodes []api.Node
			evens map[int][]int // by parts
		}{
			{2, few, map[int][]int{1: nil, 2: {3}, 3: {0, 3}, 4: {0, 3}, 6: {0, 3}, 1000: {0, 3}}},
			{2, []api.Node{{Id: 4, Count: 1}, {Id: 5, Count: 1}, {Id: 6, Count: 1}, {Id: 7, Count: 1}}, map[int][]int{1: nil, 2: {1}, 3: {1, 2}, 4: {0, 1, 2}, 5: {0, 1, 2, 3}, 8: {0, 1, 2, 3}}},
			{2, []api.Node{{Id: 4, Count: 1}, {Id: 5, Count: 2}}, map[int][]int{2: {1}, 3: {0, 1}, 4: {0, 1}, 6: {0, 1}}},
			{1, []api.Node{{Id: 2, Count: 1}}, map[int][]int{1: nil, 2: {0}, 3: {0}, 1000: {0}}},
			{1, []api.Node{{Id: 2, Count: 1}, {Id: 3, Count: 1}}, map[int][]int{1: nil, 2: {0}, 3: {0, 1}, 4: {0, 1}, 1000: {0, 1}}},
			{1, []api.Node{{Id: 2, Count: 999}, {Id: 3, Count: 1}}, map[int][]int{2: {0}, 1000: {0}, 999: {0}}},
			{1, []api.Node{{Id: 2, Count: 1}, {Id: 3, Count: 999}}, map[int][]int{2: {1}, 1000: {0, 1}, 999: {1}}},
			{3, []api.Node{{Id: 1, Count: 4}}, map[int][]int{1: nil, 2: {7}, 4: {7}}},
		} {
			d := load(t, api.Conf{L: r.l, K: 1, Kind: kind}, r.nodes...)
			for parts, want := range r.evens {
				if got, e := Even(d, parts); !slices.Equal(got, want) || e != api.OK {
					t.Errorf("of %v, Even of %d is %v, %d, and should be %v", r.nodes, parts, got, e, want)
				}
			}
		}
	}
}

func TestEvenIsRefused(t *testing.T) {
	if MostParts != 1000 {
		t.Errorf("MostParts is %d", MostParts)
	}
	parts := append([]int{1000, 1001, 1002, 999, 2000}, odd...)
	for _, many := range parts {
		if got, e := Even(nil, many); len(got) != 0 || e != api.ErrNone {
			t.Errorf("of nil, Even of %d is %v, %d", many, got, e)
		}
	}
	eachKind(func(kind, l int) {
		d := load(t, api.Conf{L: l, K: 2, Kind: kind})
		for _, many := range parts {
			if got, e := Even(d, many); len(got) != 0 || e != api.ErrEmpty {
				t.Errorf("of an empty one, Even of %d is %v, %d", many, got, e)
			}
		}
		d.Insert(1, 1)
		for _, many := range parts {
			got, e := Even(d, many)
			switch {
			case many < 1 || many > 1000:
				if len(got) != 0 || e != api.ErrArg {
					t.Errorf("Even of %d is %v, %d", many, got, e)
				}
			case many == 1:
				if len(got) != 0 || e != api.OK {
					t.Errorf("Even of %d is %v, %d", many, got, e)
				}
			default:
				if !slices.Equal(got, []int{1}) || e != api.OK {
					t.Errorf("Even of %d is %v, %d", many, got, e)
				}
			}
		}
		d.Reset()
		if got, e := Even(d, 2); len(got) != 0 || e != api.ErrEmpty {
			t.Errorf("of what is empty again, Even is %v, %d", got, e)
		}
	})
}

// A part's end is the first value up to which the parts weigh; between the ends of two parts the bins have what lies between.
func TestBinsOfEvenParts(t *testing.T) {
	eachKind(func(kind, l int) {
		p := mixed(t, api.Conf{L: l, K: 20, Kind: kind}, 100, uint64(l))
		for parts := 1; parts <= 60; parts++ {
			edges, e := Even(p.d, parts)
			if e != api.OK || len(edges) >= parts {
				t.Fatalf("Even of %d is %v, %d", parts, edges, e)
			}
			of, e := Of(p.d, edges)
			if e != api.OK || len(of) != len(edges)+1 {
				t.Fatalf("Of %v is %v, %d", edges, of, e)
			}
			sum := 0
			for at, edge := range edges {
				if of[at] == 0 {
					t.Fatalf("of %d parts, Of %v is %v", parts, edges, of)
				}
				sum += of[at]
				// Some part ends here: it is reached at this value, and not ahead of it.
				through := partDown(sum, parts, p.d.N())
				if partUp(p.d.N(), min(through, parts-1), parts) <= rank.Low(p.d, edge-1) {
					t.Fatalf("of %d parts, no one ends at %d of %v", parts, edge, edges)
				}
			}
		}
	})
}

// P19.4

func TestHeaviest(t *testing.T) {
	for _, r := range []struct {
		l  []int
		at int
	}{
		{[]int{0}, 0}, {[]int{5}, 0}, {[]int{-5}, 0}, {[]int{1, 5, 5}, 1}, {[]int{5, 5, 1}, 0}, {[]int{1, 2, 3}, 2}, {[]int{3, 2, 1}, 0}, {[]int{0, 0, 0}, 0}, {[]int{2, 7, 1, 7, 3}, 1},
		{[]int{-3, -1, -2}, 1}, {[]int{-1, -1}, 0}, {[]int{-1, 0, 0}, 1}, {[]int{math.MinInt}, 0}, {[]int{math.MinInt, math.MinInt}, 0}, {[]int{math.MinInt, math.MinInt + 1}, 1}, {[]int{math.MaxInt - 1, math.MaxInt, math.MaxInt}, 1}, {[]int{math.MinInt, math.MaxInt}, 1}, {[]int{math.MaxInt, math.MinInt}, 0},
	} {
		kept := slices.Clone(r.l)
		if at, ok := Heaviest(r.l); at != r.at || !ok {
			t.Errorf("Heaviest of %v is %d, %t", r.l, at, ok)
		}
		if !slices.Equal(r.l, kept) {
			t.Errorf("%v turns to %v", kept, r.l)
		}
	}
	for _, l := range [][]int{nil, {}} {
		if at, ok := Heaviest(l); at != 0 || ok {
			t.Errorf("Heaviest of none is %d, %t", at, ok)
		}
	}
	if at, ok := Heaviest(odd); at != len(odd)-1 || !ok {
		t.Errorf("Heaviest of %v is %d, %t", odd, at, ok)
	}
}

func TestBars(t *testing.T) {
	most := math.MaxInt
	for _, r := range []struct {
		l     []int
		width int
		bars  []int
	}{
		{[]int{2, 0, 4}, 10, []int{5, 0, 10}}, {[]int{2, 0, 4}, 0, []int{0, 0, 0}}, {[]int{2, 0, 4}, 1, []int{0, 0, 1}}, {[]int{2, 0, 4}, 2, []int{1, 0, 2}}, {[]int{2, 0, 4}, 3, []int{1, 0, 3}}, {[]int{1, 2, 3}, 10, []int{3, 6, 10}}, {[]int{3, 2, 1}, 5, []int{5, 3, 1}},
		{nil, 10, nil}, {[]int{}, 0, nil}, {nil, most, nil}, {[]int{0}, 10, []int{0}}, {[]int{0, 0, 0}, 10, []int{0, 0, 0}}, {[]int{0, 0}, 0, []int{0, 0}}, {[]int{0}, most, []int{0}},
		{[]int{1}, 10, []int{10}}, {[]int{7}, 10, []int{10}}, {[]int{7, 7}, 10, []int{10, 10}}, {[]int{most}, 10, []int{10}}, {[]int{1}, most, []int{most}}, {[]int{most}, most, []int{most}},
		{[]int{most, most - 1, most / 2, 1, 0}, most, []int{most, most - 1, most / 2, 1, 0}}, {[]int{most, most - 1, most/2 + 1, most / 2, 1}, 2, []int{2, 1, 1, 0, 0}}, {[]int{2, 1}, most, []int{most, most / 2}}, {[]int{3, 2, 1}, most, []int{most, most/3*2 + most%3*2/3, most / 3}},
	} {
		kept := slices.Clone(r.l)
		if bars, ok := Bars(r.l, r.width); !slices.Equal(bars, r.bars) || !ok {
			t.Errorf("Bars of %v, of the width %d, are %v, %t, and should be %v", r.l, r.width, bars, ok, r.bars)
		}
		if !slices.Equal(r.l, kept) {
			t.Errorf("%v turns to %v", kept, r.l)
		}
	}
}

func TestBarsAreRefused(t *testing.T) {
	for _, l := range [][]int{{-1}, {1, -1}, {-1, 1}, {0, 0, -1}, {5, -1, 5}, {math.MinInt}, {math.MaxInt, math.MinInt}, {-1, -2}} {
		for _, width := range odd {
			if bars, ok := Bars(l, width); len(bars) != 0 || ok {
				t.Errorf("Bars of %v, of the width %d, are %v, %t", l, width, bars, ok)
			}
		}
	}
	for _, l := range [][]int{nil, {}, {0}, {0, 0}, {1, 2}, {math.MaxInt}} {
		for _, width := range odd {
			bars, ok := Bars(l, width)
			if width < 0 && (len(bars) != 0 || ok) || width >= 0 && (len(bars) != len(l) || !ok) {
				t.Errorf("Bars of %v, of the width %d, are %v, %t", l, width, bars, ok)
			}
		}
	}
}

// Mixed lists of numbers, small ones and great ones, against numbers of any size.
func TestBarsOfMixedLists(t *testing.T) {
	seed := uint64(1)
	for range 3000 {
		var l []int
		seed = next(seed)
		shift := 1 + seed>>33%63
		for range 1 + seed>>40%8 {
			seed = next(seed)
			l = append(l, int(seed>>shift))
		}
		seed = next(seed)
		width := int(seed >> (1 + seed>>33%63))
		greatest := slices.Max(l)
		want := make([]int, len(l))
		for at, n := range l {
			if greatest > 0 {
				want[at] = partDown(n, width, greatest)
			}
		}
		if bars, ok := Bars(l, width); !slices.Equal(bars, want) || !ok {
			t.Fatalf("Bars of %v, of the width %d, are %v, %t, and should be %v", l, width, bars, ok, want)
		}
		if at, ok := Heaviest(l); at != slices.Index(l, greatest) || !ok {
			t.Fatalf("Heaviest of %v is %d, %t", l, at, ok)
		}
	}
}

// All calls.

// all calls f with a digest of each set of nodes of l bits that there is for a k up to the greatest one.
func all(kind, l, greatest int, f func(d *digest.Digest)) {
	for set := range 1 << (2<<l - 1) {
		var nodes []api.Node
		for _, at := range edgesOf(set) {
			nodes = append(nodes, api.Node{Id: at + 1, Count: 1 + (at+1+set)%3})
		}
		for k := 1; k <= greatest; k++ {
			if d, e := digest.Load(api.Conf{L: l, K: k, Kind: kind}, nodes); e == api.OK {
				f(d)
			}
		}
	}
}

// Each set of nodes with each row of edges, in the universes of 1 and 2 bits.
func TestAllSetsOfNodes(t *testing.T) {
	for _, kind := range kinds {
		for l := 1; l <= 2; l++ {
			var rows [][]int
			for set := range 1 << (1 << l) {
				rows = append(rows, edgesOf(set))
			}
			all(kind, l, 2, func(d *digest.Digest) {
				hold(t, d, rows)
				for parts := 1; parts <= 20 && d.N() > 0; parts++ {
					holdEven(t, d, parts)
				}
			})
		}
	}
}

// Each node of 3 bits alone with each row of edges, and each set of nodes with some.
func TestAllSetsOfThreeBits(t *testing.T) {
	var rows [][]int
	for set := range 1 << 8 {
		rows = append(rows, edgesOf(set))
	}
	for _, kind := range kinds {
		for id := 1; id < 16; id++ {
			d := load(t, api.Conf{L: 3, K: 1, Kind: kind}, api.Node{Id: id, Count: 3})
			hold(t, d, rows)
			holdEven(t, d, 1, 2, 3, 4, 1000)
		}
	}
	set := 0
	all(api.Hash, 3, 1, func(d *digest.Digest) {
		set = (set + 37) % 256
		hold(t, d, rows[set:set+1])
		if d.N() > 0 {
			holdEven(t, d, 1+set%11)
		}
	})
}

// Whoever ranges over the bins may end at any of them, and is told of no more.
func TestSpansAreLeft(t *testing.T) {
	all := [][2]int{{0, 0}, {1, 3}, {4, 6}, {7, 7}}
	for many := 1; many <= 4; many++ {
		var got [][2]int
		for first, last := range spans(3, []int{0, 3, 6}) {
			got = append(got, [2]int{first, last})
			if len(got) == many {
				break
			}
		}
		if !slices.Equal(got, all[:many]) {
			t.Errorf("the first %d are %v", many, got)
		}
	}
}

// What each bin has is what reach tells between its ends.
func TestBoundsAreThoseOfReach(t *testing.T) {
	eachKind(func(kind, l int) {
		d := mixed(t, api.Conf{L: l, K: 3, Kind: kind}, 60, uint64(l)).d
		for _, edges := range rows(d, uint64(l)) {
			both, _ := Bounds(d, edges)
			first := 0
			for at, edge := range edges {
				if want, e := reach.Between(d, first, edge); both[at] != want || e != api.OK {
					t.Fatalf("of %d bits, Bounds of %v are %v, and Between(%d, %d) is %v", l, edges, both, first, edge, want)
				}
				first = edge + 1
			}
			want, e := reach.Between(d, first, math.MaxInt)
			if both[len(edges)] != want || e != api.OK {
				t.Fatalf("of %d bits, Bounds of %v are %v, and from %d on it is %v", l, edges, both, first, want)
			}
		}
	})
}

// P19.5

func TestMixedDigests(t *testing.T) {
	eachKind(func(kind, l int) {
		for _, k := range []int{1, 3} {
			for _, many := range []int{0, 1, k, 4 * k, 8 * k, 30 * k} {
				p := mixed(t, api.Conf{L: l, K: k, Kind: kind}, many, uint64(100*l+k+many))
				within(t, p, rows(p.d, uint64(many)))
				p.d.Compress()
				within(t, p, rows(p.d, uint64(many+1)))
			}
		}
	})
}

func TestWhatIsMade(t *testing.T) {
	eachKind(func(kind, l int) {
		for _, k := range []int{1, 4} {
			a := mixed(t, api.Conf{L: l, K: k, Kind: kind}, 12*k, uint64(l+k))
			b := mixed(t, api.Conf{L: l, K: k + 1, Kind: api.Hash}, 30*k, uint64(7*l+k))
			merged, e := blend.All(b.d, a.d, b.d)
			if e != api.OK || a.b.Pour(b.b) != api.OK || a.b.Pour(b.b) != api.OK {
				t.Fatalf("they aren't merged: %d", e)
			}
			within(t, pair{merged, a.b}, rows(merged, 1))
			lower, e := blend.Lower(b.d, 1)
			if e != api.OK {
				t.Fatal(e)
			}
			within(t, pair{lower, b.b}, rows(lower, 2))
			grown, e := recast.Grow(b.d, 48)
			wider, e2 := b.b.Wider(48)
			if e != api.OK || e2 != api.OK {
				t.Fatal(e, e2)
			}
			within(t, pair{grown, wider}, rows(grown, 3))
			for _, by := range []int{0, 1, l / 2, l - 1} {
				if by >= l {
					continue
				}
				coarse, e := recast.Coarsen(merged, by)
				image, e2 := a.b.Image(by)
				if e != api.OK || e2 != api.OK {
					t.Fatal(e, e2)
				}
				within(t, pair{coarse, image}, rows(coarse, 4))
			}
		}
	})
}

// All that may weigh, in few values and in many.
func TestHeavyDigests(t *testing.T) {
	parts := []int{1, 2, 3, 16, 997, 999, 1000}
	eachKind(func(kind, l int) {
		for _, k := range []int{1, 2, 5, api.MaxK} {
			many := min(10*k, 40)
			p := empty(t, api.Conf{L: l, K: k, Kind: kind})
			for at := range many {
				p.put(t, at*7919%(1<<l), api.Most/many)
			}
			p.put(t, 1<<l-1, api.Most-p.d.N())
			if p.d.N() != api.Most {
				t.Fatalf("N is %d", p.d.N())
			}
			within(t, p, rows(p.d, 5))
			holdEven(t, p.d, parts...)
			p.d.Compress()
			within(t, p, rows(p.d, 6))
			holdEven(t, p.d, parts...)
		}
		d := load(t, api.Conf{L: l, K: 1, Kind: kind}, api.Node{Id: 1, Count: api.Most})
		hold(t, d, rows(d, 7))
		holdEven(t, d, parts...)
	})
}

// Of leaves alone, both bounds, and what is told, are what weighs there in a bag.
func TestLeavesTellTheWeight(t *testing.T) {
	eachKind(func(kind, l int) {
		p := mixed(t, api.Conf{L: l, K: 5, Kind: kind}, 39, uint64(l))
		for _, edges := range rows(p.d, uint64(l)) {
			of, _ := Of(p.d, edges)
			both, _ := Bounds(p.d, edges)
			first := 0
			for at, edge := range edges {
				want := p.b.Between(first, edge)
				if of[at] != want || both[at] != (api.Both{Low: want, High: want}) {
					t.Errorf("of %d bits, from %d to %d %d weighs, Of is %d, and Bounds are %v", l, first, edge, want, of[at], both[at])
				}
				first = edge + 1
			}
		}
	})
}

func TestBothKindsTellTheSame(t *testing.T) {
	for l := 1; l <= 16; l++ {
		for many := 1; many < 40; many += 3 {
			a := mixed(t, api.Conf{L: l, K: 3, Kind: api.Dense}, many, uint64(100*l+many)).d
			b := mixed(t, api.Conf{L: l, K: 3, Kind: api.Hash}, many, uint64(100*l+many)).d
			for _, edges := range rows(a, uint64(many)) {
				one, e := Of(a, edges)
				other, e2 := Of(b, edges)
				if !slices.Equal(one, other) || e != e2 {
					t.Fatalf("Of %v is %v, %d, and of the other kind %v, %d", edges, one, e, other, e2)
				}
				both, e := Bounds(a, edges)
				both2, e2 := Bounds(b, edges)
				if !slices.Equal(both, both2) || e != e2 {
					t.Fatalf("Bounds of %v are %v, %d, and of the other kind %v, %d", edges, both, e, both2, e2)
				}
			}
			for _, parts := range []int{0, 1, 2, 10, 1000, 1001} {
				one, e := Even(a, parts)
				other, e2 := Even(b, parts)
				if !slices.Equal(one, other) || e != e2 {
					t.Fatalf("Even of %d is %v, %d, and of the other kind %v, %d", parts, one, e, other, e2)
				}
			}
		}
	}
}

// A great many bins, and a great many nodes.
func TestManyBins(t *testing.T) {
	var every []int
	for x := range 1 << 10 {
		every = append(every, x)
	}
	for _, kind := range kinds {
		d := mixed(t, api.Conf{L: 10, K: 30, Kind: kind}, 20000, 1).d
		hold(t, d, [][]int{every, every[1:], every[:len(every)-1]})
	}
	for _, c := range []api.Conf{{L: 48, K: 3000, Kind: api.Hash}, {L: 16, K: 3000, Kind: api.Dense}} {
		p := mixed(t, c, 60000, 1)
		within(t, p, [][]int{{0, 63, 64, 65535}, {1 << (c.L - 1)}})
		edges, e := Even(p.d, 1000)
		if e != api.OK || len(edges) < 50 {
			t.Fatalf("Even of 1000 is %v, %d", edges, e)
		}
		hold(t, p.d, [][]int{edges[len(edges)-20:]})
	}
}
