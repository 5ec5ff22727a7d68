package roll

import (
	"math"
	"math/big"
	"slices"
	"testing"

	"dewpond/api"
)

// ids are numbers at which nodes end, and some ordinary and wrong ones.
var ids = []int{
	math.MinInt, math.MinInt + 1, -1 << 48, -2, -1, 0, 1, 2, 3, 4, 5, 7, 8, 15, 16, 31, 1 << 16,
	1<<48 - 1, 1 << 48, 1<<49 - 1, 1 << 49, 1<<62 - 1, 1 << 62, math.MaxInt - 1, math.MaxInt,
}

// counts are numbers at which weights end, and some ordinary and wrong ones.
var counts = []int{
	math.MinInt, -1 << 56, -2, -1, 0, 1, 2, 3, 100, 1<<55 - 1, 1 << 55,
	api.Most - 2, api.Most - 1, api.Most, api.Most + 1, api.Most + 2, 1 << 57, 1<<62 - 1, 1 << 62, math.MaxInt,
}

// bitsOf are of how many bits a universe is asked for, wrong ones among them.
var bitsOf = []int{math.MinInt, -48, -1, 0, 1, 2, 3, 4, 8, 16, 47, 48, 49, 50, 62, 63, 64, 65, math.MaxInt}

// nodes is a list of nodes, told by Ids and Counts in turn.
func nodes(numbers ...int) []api.Node {
	var l []api.Node
	for i := 0; i+1 < len(numbers); i += 2 {
		l = append(l, api.Node{Id: numbers[i], Count: numbers[i+1]})
	}
	return l
}

// inserted is the list by rising Ids, put together by going back from the end past all that have to stand behind.
func inserted(l []api.Node) []api.Node {
	var row []api.Node
	for _, n := range l {
		at := len(row)
		for at > 0 && row[at-1].Id > n.Id {
			at--
		}
		row = slices.Insert(row, at, n)
	}
	return row
}

// added is all Counts together, as a number of any size; -1 if one is below 0.
func added(l []api.Node) *big.Int {
	sum := new(big.Int)
	for _, n := range l {
		if n.Count < 0 {
			return big.NewInt(-1)
		}
		sum.Add(sum, big.NewInt(int64(n.Count)))
	}
	return sum
}

// totalOf is what Total should tell.
func totalOf(l []api.Node) (int, bool) {
	sum := added(l)
	if sum.Sign() < 0 || sum.Cmp(big.NewInt(api.Most)) > 0 {
		return 0, false
	}
	return int(sum.Int64()), true
}

// foldOf is what Fold should tell, by a map.
func foldOf(l []api.Node) ([]api.Node, bool) {
	if _, ok := totalOf(l); !ok {
		return nil, false
	}
	sums := map[int]int{}
	for _, n := range l {
		if n.Id < 1 {
			return nil, false
		}
		sums[n.Id] += n.Count
	}
	var row []api.Node
	for id, count := range sums {
		if count > 0 {
			row = append(row, api.Node{Id: id, Count: count})
		}
	}
	slices.SortFunc(row, func(a, b api.Node) int { return a.Id - b.Id })
	return row, true
}

// isRoll is what Right should tell.
func isRoll(l int, r []api.Node) bool {
	if l < 1 || l > 48 {
		return false
	}
	for i, n := range r {
		if n.Id < 1 || n.Id >= 2<<l || n.Count < 1 || i > 0 && r[i-1].Id >= n.Id {
			return false
		}
	}
	_, ok := totalOf(r)
	return ok
}

// postOf is what Post should tell: each node's place is how many have to stand ahead of it.
func postOf(l int, r []api.Node) ([]api.Node, bool) {
	if !isRoll(l, r) {
		return nil, false
	}
	post := make([]api.Node, len(r))
	for _, n := range r {
		at := 0
		for _, m := range r {
			a, b := lastOf(l, m.Id), lastOf(l, n.Id)
			if a < b || a == b && stepsDown(m.Id) > stepsDown(n.Id) {
				at++
			}
		}
		post[at] = n
	}
	return post, true
}

// lastOf is the last value below a node, found by going down to the right.
func lastOf(l, id int) int {
	for id < 1<<l {
		id = 2*id + 1
	}
	return id - 1<<l
}

func stepsDown(id int) int {
	n := 0
	for ; id > 1; id /= 2 {
		n++
	}
	return n
}

// holdList holds a list that a call answered against what it should.
func holdList(t *testing.T, name string, args any, got []api.Node, ok bool, want []api.Node, right bool) {
	t.Helper()
	if ok != right || !slices.Equal(got, want) || !right && got != nil {
		t.Errorf("%s of %v is %v, %v, and should be %v, %v", name, args, got, ok, want, right)
	}
}

// hold holds all calls with a list against what they should tell.
func hold(t *testing.T, l int, r []api.Node) {
	t.Helper()
	holdList(t, "Sorted", r, Sorted(r), true, inserted(r), true)
	if got := Right(l, r); got != isRoll(l, r) {
		t.Errorf("Right of %d, %v is %v", l, r, got)
	}
	want, right := totalOf(r)
	if got, ok := Total(r); got != want || ok != right {
		t.Errorf("Total of %v is %d, %v, and should be %d, %v", r, got, ok, want, right)
	}
	list, right := foldOf(r)
	got, ok := Fold(r)
	holdList(t, "Fold", r, got, ok, list, right)
	for cut := range len(r) + 1 {
		got, ok = Join(r[:cut], r[cut:])
		holdList(t, "Join", []any{r[:cut], r[cut:]}, got, ok, list, right)
	}
	list, right = postOf(l, r)
	got, ok = Post(l, r)
	holdList(t, "Post", []any{l, r}, got, ok, list, right)
}

// next is the number behind n in a row of numbers that looks mixed.
func next(n uint64) uint64 { return n*6364136223846793005 + 1442695040888963407 }

// some are n nodes, whose Ids are from 1 to top, and whose Counts are from 0 to 9.
func some(n, top int, seed uint64) []api.Node {
	var l []api.Node
	for range n {
		seed = next(seed)
		id := 1 + int(seed>>16)%top
		seed = next(seed)
		l = append(l, api.Node{Id: id, Count: int(seed>>33) % 10})
	}
	return l
}

// P6.1

func TestSorted(t *testing.T) {
	for _, r := range []struct{ l, want []api.Node }{
		{nil, nil}, {nodes(), nil}, {nodes(3, 1), nodes(3, 1)}, {nodes(0, 0), nodes(0, 0)},
		{nodes(9, 1, 2, 5, 9, 3), nodes(2, 5, 9, 1, 9, 3)}, {nodes(9, 3, 2, 5, 9, 1), nodes(2, 5, 9, 3, 9, 1)},
		{nodes(2, 2, 2, 1, 2, 3, 2, 1), nodes(2, 2, 2, 1, 2, 3, 2, 1)}, {nodes(5, 1, 4, 1, 3, 1, 2, 1, 1, 1), nodes(1, 1, 2, 1, 3, 1, 4, 1, 5, 1)},
		{nodes(1, 1, 2, 1, 3, 1), nodes(1, 1, 2, 1, 3, 1)}, {nodes(2, -5, 1, -7, 0, 0, -1, 9), nodes(-1, 9, 0, 0, 1, -7, 2, -5)},
		{nodes(math.MaxInt, 1, math.MinInt, 2, 0, 3), nodes(math.MinInt, 2, 0, 3, math.MaxInt, 1)}, {nodes(7, 0, 7, 0), nodes(7, 0, 7, 0)},
		{nodes(3, 1, 1, 2, 3, 3, 1, 4, 3, 5, 1, 6), nodes(1, 2, 1, 4, 1, 6, 3, 1, 3, 3, 3, 5)},
	} {
		holdList(t, "Sorted", r.l, Sorted(r.l), true, r.want, true)
	}
}

func TestSortedOfAllRows(t *testing.T) {
	// The Count tells where a node stood, so that each change of those of one Id is seen.
	for n := range 7 {
		for row := range power(3, n) {
			var l []api.Node
			for at := range n {
				l = append(l, api.Node{Id: row / power(3, at) % 3, Count: at})
			}
			holdList(t, "Sorted", l, Sorted(l), true, inserted(l), true)
		}
	}
}

func power(of, by int) int {
	n := 1
	for range by {
		n *= of
	}
	return n
}

func TestSortedOfMany(t *testing.T) {
	for _, n := range []int{1000, 1023, 1024, 1025, 60000} {
		l := some(n, n/5, uint64(n))
		for at := range l {
			l[at].Count = at
		}
		got := Sorted(l)
		if len(got) != n {
			t.Fatalf("of %d nodes, %d are left", n, len(got))
		}
		seen := make([]bool, n)
		for i, x := range got {
			if l[x.Count] != x || seen[x.Count] || i > 0 && (got[i-1].Id > x.Id || got[i-1].Id == x.Id && got[i-1].Count > x.Count) {
				t.Fatalf("of %d nodes, at %d stands %v", n, i, x)
			}
			seen[x.Count] = true
		}
	}
}

func TestSame(t *testing.T) {
	for _, r := range []struct {
		a, b []api.Node
		want bool
	}{
		{nil, nil, true}, {nil, nodes(), true}, {[]api.Node{}, nil, true}, {[]api.Node{}, []api.Node{}, true}, {nodes(1, 2), nodes(1, 2), true}, {nodes(1, 2, 3, 4), nodes(1, 2, 3, 4), true},
		{nodes(3, 4, 1, 2), nodes(3, 4, 1, 2), true}, {nodes(0, 0), nodes(0, 0), true}, {nodes(-5, -6), nodes(-5, -6), true}, {nodes(1, 1, 1, 1), nodes(1, 1, 1, 1), true},
		{nodes(1, 2), nil, false}, {nil, nodes(1, 2), false}, {nodes(0, 0), nil, false}, {[]api.Node{}, nodes(0, 0), false}, {nodes(1, 2), nodes(1, 3), false}, {nodes(1, 2), nodes(2, 2), false}, {nodes(1, 2), nodes(2, 1), false},
		{nodes(1, 2, 3, 4), nodes(3, 4, 1, 2), false}, {nodes(1, 2, 3, 4), nodes(1, 2), false}, {nodes(1, 2), nodes(1, 2, 3, 4), false}, {nodes(1, 2, 3, 4), nodes(1, 2, 3, 5), false}, {nodes(1, 2, 3, 4), nodes(1, 2, 2, 4), false},
		{nodes(1, 1, 1, 1), nodes(1, 2), false}, {nodes(1, 2, 2, 0), nodes(1, 2), false}, {nodes(math.MinInt, 1), nodes(math.MaxInt, 1), false},
	} {
		if got := Same(r.a, r.b); got != r.want {
			t.Errorf("Same of %v, %v is %v", r.a, r.b, got)
		}
	}
}

// P6.2

func TestRight(t *testing.T) {
	for _, r := range []struct {
		l    int
		r    []api.Node
		want bool
	}{
		{3, nil, true}, {1, nil, true}, {48, []api.Node{}, true}, {3, nodes(2, 5, 9, 4), true}, {2, nodes(2, 5, 9, 4), false}, {3, nodes(1, 1, 2, 1, 15, 1), true},
		{3, nodes(15, 1), true}, {3, nodes(16, 1), false}, {3, nodes(1, 1, 16, 1), false}, {3, nodes(0, 1), false}, {3, nodes(-1, 1), false}, {3, nodes(0, 1, 1, 1), false}, {3, nodes(math.MinInt, 1), false}, {3, nodes(math.MaxInt, 1), false},
		{3, nodes(2, 1, 2, 1), false}, {3, nodes(3, 1, 2, 1), false}, {3, nodes(1, 1, 3, 1, 2, 1), false}, {3, nodes(1, 1, 2, 1, 2, 1), false},
		{3, nodes(1, 0), false}, {3, nodes(1, -1), false}, {3, nodes(1, 1, 2, 0), false}, {3, nodes(1, 5, 2, -1), false}, {3, nodes(1, 0, 2, 1), false}, {3, nodes(1, math.MinInt), false},
		{3, nodes(1, api.Most), true}, {3, nodes(1, api.Most+1), false}, {3, nodes(1, api.Most, 2, 1), false}, {3, nodes(1, api.Most-1, 2, 1), true}, {3, nodes(1, 1, 2, api.Most), false}, {3, nodes(1, math.MaxInt, 2, math.MaxInt, 3, 2), false},
		{48, nodes(1<<49-1, 1), true}, {48, nodes(1<<49, 1), false}, {47, nodes(1<<48, 1), false}, {1, nodes(1, 1, 2, 1, 3, 1), true}, {1, nodes(4, 1), false},
		{0, nil, false}, {-1, nil, false}, {49, nil, false}, {64, nil, false}, {math.MaxInt, nil, false}, {math.MinInt, nil, false}, {0, nodes(1, 1), false}, {49, nodes(1, 1), false}, {64, nodes(1, 1), false},
	} {
		if got := Right(r.l, r.r); got != r.want {
			t.Errorf("Right of %d, %v is %v", r.l, r.r, got)
		}
	}
}

func TestTotal(t *testing.T) {
	for _, r := range []struct {
		r    []api.Node
		want int
		ok   bool
	}{
		{nil, 0, true}, {nodes(1, 0), 0, true}, {nodes(1, 5), 5, true}, {nodes(2, 5, 9, 4), 9, true}, {nodes(9, 4, 2, 5, 9, 4), 13, true}, {nodes(0, 4, -7, 5, 1<<62, 6), 15, true},
		{nodes(1, api.Most), api.Most, true}, {nodes(1, api.Most, 2, 0), api.Most, true}, {nodes(1, api.Most-1, 1, 1), api.Most, true}, {nodes(1, 1<<55, 2, 1<<55-1), api.Most, true},
		{nodes(1, api.Most, 2, 1), 0, false}, {nodes(1, 1, 2, api.Most), 0, false}, {nodes(1, api.Most+1), 0, false}, {nodes(1, 1<<55, 2, 1<<55), 0, false}, {nodes(1, math.MaxInt), 0, false},
		{nodes(1, math.MaxInt, 2, math.MaxInt), 0, false}, {nodes(1, math.MaxInt, 2, math.MaxInt, 3, 2), 0, false}, {nodes(1, 1<<62, 2, 1<<62, 3, 1<<62, 4, 1<<62), 0, false},
		{nodes(1, -1), 0, false}, {nodes(1, 5, 2, -1), 0, false}, {nodes(1, -1, 2, 5), 0, false}, {nodes(1, math.MinInt), 0, false}, {nodes(1, api.Most, 2, 1, 3, -1), 0, false}, {nodes(1, -1, 2, 1), 0, false}, {nodes(1, math.MinInt, 2, math.MinInt), 0, false},
	} {
		if got, ok := Total(r.r); got != r.want || ok != r.ok {
			t.Errorf("Total of %v is %d, %v, and should be %d, %v", r.r, got, ok, r.want, r.ok)
		}
	}
}

func TestFind(t *testing.T) {
	l := nodes(9, 1, 2, 5, 9, 3, 4, 0, 4, 7, -1, -6, 0, 8, math.MaxInt, 11, math.MinInt, 12, 3, math.MinInt)
	for _, r := range []struct{ id, want int }{
		{9, 1}, {2, 5}, {4, 0}, {-1, -6}, {0, 8}, {math.MaxInt, 11}, {math.MinInt, 12}, {3, math.MinInt}, {1, 0}, {8, 0}, {10, 0}, {-2, 0}, {math.MaxInt - 1, 0},
	} {
		if got := Find(l, r.id); got != r.want {
			t.Errorf("Find of %d is %d, and should be %d", r.id, got, r.want)
		}
	}
	for _, id := range ids {
		if Find(nil, id) != 0 || Find([]api.Node{}, id) != 0 {
			t.Errorf("Find of %d in nothing is %d", id, Find(nil, id))
		}
		for _, count := range counts {
			if got := Find(nodes(6, 7, id, count, id, 13), id); got != count {
				t.Errorf("Find of %d is %d, and should be %d", id, got, count)
			}
		}
	}
}

// P6.3

func TestFold(t *testing.T) {
	for _, r := range []struct {
		r, want []api.Node
		ok      bool
	}{
		{nodes(5, 2, 3, 1, 5, 4, 7, 0), nodes(3, 1, 5, 6), true}, {nodes(5, 2, 3, 1, 5, 4), nodes(3, 1, 5, 6), true}, {nodes(9, 1, 2, 5, 9, 3), nodes(2, 5, 9, 4), true},
		{nil, nil, true}, {[]api.Node{}, nil, true}, {nodes(1, 0), nil, true}, {nodes(1, 0, 1, 0, 2, 0), nil, true}, {nodes(1, 0, 1, 3, 1, 0), nodes(1, 3), true}, {nodes(2, 0, 1, 3, 2, 0), nodes(1, 3), true}, {nodes(1, 3, 1, 0, 2, 0, 3, 1), nodes(1, 3, 3, 1), true},
		{nodes(1<<62, 1, math.MaxInt, 2, 1<<62, 3), nodes(1<<62, 4, math.MaxInt, 2), true}, {nodes(1, api.Most), nodes(1, api.Most), true}, {nodes(1, 1, 1, api.Most-1), nodes(1, api.Most), true}, {nodes(4, 1, 4, 1, 4, 1, 4, 1), nodes(4, 4), true},
		{nodes(0, 1), nil, false}, {nodes(0, 0), nil, false}, {nodes(-1, 0), nil, false}, {nodes(3, 1, 0, 0), nil, false}, {nodes(3, 1, 4, 2, -7, 1), nil, false}, {nodes(math.MinInt, 1, 1, 1), nil, false},
		{nodes(1, -1), nil, false}, {nodes(1, 2, 1, -1), nil, false}, {nodes(1, -1, 1, 1), nil, false}, {nodes(1, api.Most, 2, 1), nil, false}, {nodes(1, api.Most, 1, 1), nil, false}, {nodes(1, math.MaxInt, 1, math.MaxInt, 1, 2), nil, false}, {nodes(3, 1, 1, math.MinInt), nil, false},
	} {
		got, ok := Fold(r.r)
		holdList(t, "Fold", r.r, got, ok, r.want, r.ok)
	}
}

func TestJoin(t *testing.T) {
	for _, r := range []struct {
		a, b, want []api.Node
		ok         bool
	}{
		{nodes(5, 2, 3, 1), nodes(5, 4, 7, 0), nodes(3, 1, 5, 6), true}, {nil, nil, nil, true}, {nil, nodes(2, 1, 1, 1), nodes(1, 1, 2, 1), true}, {nodes(2, 1, 1, 1), nil, nodes(1, 1, 2, 1), true}, {nodes(1, 0), nodes(1, 0), nil, true}, {nodes(1, 0), nodes(1, 2), nodes(1, 2), true},
		{nodes(1, 1, 4, 2), nodes(1, 2, 3, 5), nodes(1, 3, 3, 5, 4, 2), true}, {nodes(3, 1), nodes(1, 1), nodes(1, 1, 3, 1), true}, {nodes(1, api.Most-1), nodes(1, 1), nodes(1, api.Most), true},
		{nodes(1, api.Most), nodes(2, 1), nil, false}, {nodes(1, 1), nodes(2, api.Most), nil, false}, {nodes(1, -1), nodes(1, 1), nil, false}, {nodes(1, 1), nodes(1, -1), nil, false}, {nodes(0, 1), nodes(1, 1), nil, false}, {nodes(1, 1), nodes(0, 1), nil, false}, {nodes(1, 1), nodes(-5, 0), nil, false}, {nodes(-5, 0), nil, nil, false},
	} {
		got, ok := Join(r.a, r.b)
		holdList(t, "Join", []any{r.a, r.b}, got, ok, r.want, r.ok)
	}
}

// P6.4

func TestPost(t *testing.T) {
	for _, r := range []struct {
		l       int
		r, want []api.Node
		ok      bool
	}{
		{2, nodes(1, 1, 2, 1, 3, 1, 5, 1), nodes(5, 1, 2, 1, 3, 1, 1, 1), true}, {3, nodes(1, 1, 4, 1, 9, 1), nodes(9, 1, 4, 1, 1, 1), true}, {3, nodes(1, 4, 2, 3, 4, 2, 8, 1), nodes(8, 1, 4, 2, 2, 3, 1, 4), true},
		{3, nodes(1, 4, 3, 3, 7, 2, 15, 1), nodes(15, 1, 7, 2, 3, 3, 1, 4), true}, {3, nodes(8, 1, 9, 2, 15, 3), nodes(8, 1, 9, 2, 15, 3), true}, {3, nodes(6, 1, 8, 2, 11, 3, 12, 4, 13, 5), nodes(8, 2, 11, 3, 12, 4, 13, 5, 6, 1), true},
		{3, nodes(3, 1, 11, 2), nodes(11, 2, 3, 1), true}, {3, nodes(2, 1, 12, 2), nodes(2, 1, 12, 2), true}, {3, nil, nil, true}, {48, []api.Node{}, nil, true}, {1, nodes(1, 1, 2, 1, 3, 1), nodes(2, 1, 3, 1, 1, 1), true},
		{48, nodes(1, 1, 3, 2, 1<<48, 3, 1<<49-1, 4), nodes(1<<48, 3, 1<<49-1, 4, 3, 2, 1, 1), true}, {3, nodes(1, api.Most), nodes(1, api.Most), true},
		{2, nodes(2, 1, 1, 1), nil, false}, {2, nodes(1, 1, 1, 1), nil, false}, {2, nodes(8, 1), nil, false}, {2, nodes(0, 1), nil, false}, {2, nodes(1, 0), nil, false}, {2, nodes(1, -1), nil, false}, {2, nodes(1, api.Most, 2, 1), nil, false}, {2, nodes(1, api.Most+1), nil, false},
		{0, nil, nil, false}, {49, nil, nil, false}, {-1, nil, nil, false}, {49, nodes(1, 1), nil, false}, {64, nodes(1, 1), nil, false}, {0, nodes(1, 1), nil, false},
	} {
		got, ok := Post(r.l, r.r)
		holdList(t, "Post", []any{r.l, r.r}, got, ok, r.want, r.ok)
	}
}

func TestPostOfAllRolls(t *testing.T) {
	for l := 1; l <= 3; l++ {
		for set := range 1 << (2<<l - 1) {
			var r []api.Node
			for id := 1; id < 2<<l; id++ {
				if set>>(id-1)&1 == 1 {
					r = append(r, api.Node{Id: id, Count: 2*id + 1})
				}
			}
			want, _ := postOf(l, r)
			got, ok := Post(l, r)
			holdList(t, "Post", []any{l, r}, got, ok, want, true)
		}
	}
}

func TestPostOfManyInGreatUniverses(t *testing.T) {
	seed := uint64(3)
	for l := 4; l <= api.MaxL; l++ {
		var r []api.Node
		for range 60 {
			seed = next(seed)
			depth := int(seed>>33) % (l + 1)
			seed = next(seed)
			// A way down to the right makes many with one last value.
			id := 1<<depth + int(seed>>8)%(1<<depth)
			r = append(r, api.Node{Id: id, Count: 1}, api.Node{Id: min(2*id+1, 2<<l-1), Count: 2}, api.Node{Id: 2<<depth - 1, Count: 3})
		}
		r, _ = foldOf(r)
		want, right := postOf(l, r)
		got, ok := Post(l, r)
		holdList(t, "Post", []any{l, r}, got, ok, want, right)
		if !right {
			t.Errorf("%v is no roll of %d bits", r, l)
		}
	}
}

// P6.1 to P6.4: all calls with lists of edges.

func TestOfOneEdge(t *testing.T) {
	for _, l := range bitsOf {
		hold(t, l, nil)
		for _, id := range ids {
			for _, count := range counts {
				hold(t, l, nodes(id, count))
			}
		}
	}
}

func TestOfTwoEdges(t *testing.T) {
	for _, a := range ids {
		for _, b := range ids {
			for _, m := range counts {
				for _, n := range counts {
					hold(t, 48, nodes(a, m, b, n))
				}
			}
		}
	}
}

func TestOfThreeEdges(t *testing.T) {
	for _, a := range []int{math.MinInt, -1, 0, 1, 2, 3, 15, 16, math.MaxInt} {
		for _, b := range []int{-1, 0, 1, 2, 3, 15, 16} {
			for _, c := range []int{0, 1, 2, 3, 15, 16} {
				for _, m := range []int{-1, 0, 1, api.Most / 3, api.Most, math.MaxInt} {
					for _, n := range []int{math.MinInt, -1, 0, 1, api.Most/3 + 1, 1 << 62} {
						hold(t, 3, nodes(a, m, b, n, c, api.Most/3))
						hold(t, 3, nodes(a, m, b, n, c, 2))
					}
				}
			}
		}
	}
}

func TestOfSomeLists(t *testing.T) {
	seed := uint64(17)
	for n := range 40 {
		for _, top := range []int{1, 3, 7, 15, 31, 1 << 20, 1<<49 - 1, 1 << 49, 1 << 60} {
			seed = next(seed)
			l := some(n, top, seed)
			hold(t, 3, l)
			hold(t, 48, l)
			list, _ := foldOf(l)
			hold(t, 3, list)
			hold(t, 48, list)
		}
	}
}

// P6.5

func TestLawFoldHangsOnNoOrder(t *testing.T) {
	for _, l := range [][]api.Node{nodes(5, 2, 3, 1, 5, 4, 7, 0), nodes(1, 1, 1, 2, 1, 4, 2, 8, 1, 0), nodes(9, 1, 8, 2, 9, 3, 8, 4, 1, 5), nodes(4, 0, 4, 0, 3, 1, 2, 1), nodes(1, 1, 0, 1, 2, 1), nodes(1, api.Most, 2, 1, 3, -1), nodes(1, -1, 2, 1, 1, 1)} {
		want, right := Fold(l)
		total, _ := Total(l)
		orders(l, func(other []api.Node) {
			got, ok := Fold(other)
			holdList(t, "Fold", other, got, ok, want, right)
			for cut := range len(other) + 1 {
				got, ok = Join(other[cut:], other[:cut])
				holdList(t, "Join", []any{other[cut:], other[:cut]}, got, ok, want, right)
			}
			if n, ok := Total(got); right && (n != total || !ok) {
				t.Errorf("Total of %v is %d, and was %d", got, n, total)
			}
		})
	}
}

// orders hands each order of l to see.
func orders(l []api.Node, see func([]api.Node)) {
	var from func(at int)
	from = func(at int) {
		if at == len(l) {
			see(slices.Clone(l))
			return
		}
		for i := at; i < len(l); i++ {
			l[at], l[i] = l[i], l[at]
			from(at + 1)
			l[at], l[i] = l[i], l[at]
		}
	}
	l = slices.Clone(l)
	from(0)
}

func TestLawsOfFold(t *testing.T) {
	seed := uint64(23)
	for n := range 50 {
		for _, top := range []int{1, 7, 31, 1<<49 - 1} {
			seed = next(seed)
			a, b := some(n, top, seed), some(50-n, top, next(seed))
			joined, ok := Join(a, b)
			again, ok2 := Fold(joined)
			if !ok || !ok2 || !Same(again, joined) {
				t.Errorf("Fold of the folded %v is %v", joined, again)
			}
			one, _ := Fold(a)
			two, _ := Fold(b)
			other, ok := Join(two, one)
			holdList(t, "Join of what is folded", []any{two, one}, other, ok, joined, true)
			whole, _ := Total(joined)
			left, _ := Total(a)
			right, _ := Total(b)
			if whole != left+right || !Right(48, joined) {
				t.Errorf("of %v and %v, %d and %d, %v is left, %d", a, b, left, right, joined, whole)
			}
		}
	}
}

// Of all calls: arguments stay as they are, answers are new memory.

func TestArgumentsStay(t *testing.T) {
	for _, l := range [][]api.Node{nil, nodes(1, 1), nodes(5, 2, 3, 1, 5, 4, 7, 0), nodes(1, 1, 2, 1, 3, 1, 5, 1), nodes(3, -1, 2, 4), nodes(0, 1, -1, 1), nodes(9, 1, 8, 1, 7, 1, 6, 1, 5, 1)} {
		memory := append(slices.Clone(l), nodes(77, 1, -2, 5, 2, 9)...)
		before := slices.Clone(memory)
		short := memory[:len(l)]
		answers := [][]api.Node{Sorted(short)}
		for _, call := range []func() ([]api.Node, bool){
			func() ([]api.Node, bool) { return Fold(short) },
			func() ([]api.Node, bool) { return Join(short, nil) },
			func() ([]api.Node, bool) { return Join(nil, short) },
			func() ([]api.Node, bool) { return Join(short, nodes(4, 4)) },
			func() ([]api.Node, bool) { return Join(short, short) },
			func() ([]api.Node, bool) { return Post(3, short) },
		} {
			answer, _ := call()
			answers = append(answers, answer)
		}
		Right(3, short)
		Total(short)
		Find(short, 77)
		Same(short, short)
		for _, answer := range answers {
			for i := range answer {
				answer[i] = api.Node{Id: 99, Count: 99}
			}
			_ = append(answer, api.Node{Id: 98, Count: 98})
		}
		if !slices.Equal(memory, before) {
			t.Errorf("%v has become %v", before, memory)
		}
	}
}

func TestNothingIsReadBehindALength(t *testing.T) {
	short := nodes(5, 2, 3, 1, 5, 4)[:1]
	if Find(short, 3) != 0 || !Same(short, nodes(5, 2)) || !Right(3, short) {
		t.Errorf("what stands behind %v is read", short)
	}
	got, ok := Fold(short)
	holdList(t, "Fold", short, got, ok, nodes(5, 2), true)
	if n, ok := Total(short); n != 2 || !ok {
		t.Errorf("Total of %v is %d, %v", short, n, ok)
	}
}

func TestNothingStandsBehindAnswers(t *testing.T) {
	l := nodes(5, 2, 3, 1, 5, 4, 7, 0, 1, 1)
	folded, _ := Fold(l)
	joined, _ := Join(l, l)
	post, _ := Post(3, folded)
	for _, answer := range [][]api.Node{Sorted(l), Sorted(l[:1]), Sorted(l[:0]), folded, joined, post} {
		for _, n := range answer[len(answer):cap(answer)] {
			if n != (api.Node{}) {
				t.Errorf("behind %v stands %v", answer, n)
			}
		}
	}
}
