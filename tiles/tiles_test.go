package tiles

import (
	"math"
	"slices"
	"testing"

	"dewpond/api"
)

// edges are numbers at which universes, values and nodes end, and some ordinary and wrong ones.
var edges = []int{
	math.MinInt, math.MinInt + 1, -1 << 62, -1 << 48, -49, -2, -1,
	0, 1, 2, 3, 4, 5, 6, 7, 8, 15, 16, 31, 32, 33, 47, 48, 49, 50, 62, 63, 64, 65, 100, 255, 256, 1 << 16,
	1<<47 - 1, 1 << 47, 1<<47 + 1, 1<<48 - 2, 1<<48 - 1, 1 << 48, 1<<48 + 1, 1<<49 - 1, 1 << 49,
	0x555555555555, 0xaaaaaaaaaaaa, 1<<62 - 1, 1 << 62, math.MaxInt - 1, math.MaxInt,
}

// wrongBits are of how many bits there is no universe.
var wrongBits = []int{math.MinInt, -48, -1, 0, 49, 50, 62, 63, 64, 65, 1 << 32, math.MaxInt}

// A set of values of a small universe is told here by bits: the value x by the bit x.

// valuesOf is what a node holds, found by going up from each leaf.
func valuesOf(l, id int) int {
	set := 0
	for x := range 1 << l {
		for up := 1<<l + x; up > 0; up /= 2 {
			if up == id {
				set |= 1 << x
			}
		}
	}
	return set
}

// union is what one of ids holds.
func union(l int, ids []int) int {
	set := 0
	for _, id := range ids {
		set |= valuesOf(l, id)
	}
	return set
}

func whole(l int) int { return 1<<(1<<l) - 1 }

func sizeOf(set int) int {
	n := 0
	for ; set > 0; set /= 2 {
		n += set % 2
	}
	return n
}

// fewestOf is the fewest tiles of a set: by their values, each node that holds just values of it, and is below none such.
func fewestOf(l, set int) []int {
	var ids []int
	inside := func(id int) bool { return id > 0 && valuesOf(l, id)&^set == 0 }
	for x := range 1 << l {
		for up := 1<<l + x; up > 0; up /= 2 {
			if inside(up) && !inside(up/2) && !slices.Contains(ids, up) {
				ids = append(ids, up)
			}
		}
	}
	return ids
}

// Of great universes values are told here by runs of them.

type run struct{ lo, hi int }

// fewestOfRun is the fewest tiles of a run, found from its left end on: each time the greatest block that fits.
func fewestOfRun(l int, r run) []int {
	var ids []int
	for r.lo <= r.hi {
		size := 1
		for 2*size <= 1<<l && r.lo%(2*size) == 0 && r.lo+2*size-1 <= r.hi {
			size *= 2
		}
		ids = append(ids, (1<<l+r.lo)/size)
		r.lo += size
	}
	return ids
}

// runOf is the run of values of a node of the universe of l bits.
func runOf(l, id int) run {
	lo, hi := id, id
	for hi < 1<<l {
		lo, hi = 2*lo, 2*hi+1
	}
	return run{lo - 1<<l, hi - 1<<l}
}

// runsOf are the runs of all values that one of ids holds, with a gap between each two.
func runsOf(l int, ids []int) []run {
	var all, runs []run
	for _, id := range ids {
		all = append(all, runOf(l, id))
	}
	slices.SortFunc(all, func(a, b run) int { return a.lo - b.lo })
	for _, r := range all {
		if n := len(runs); n > 0 && r.lo <= runs[n-1].hi+1 {
			runs[n-1].hi = max(runs[n-1].hi, r.hi)
		} else {
			runs = append(runs, r)
		}
	}
	return runs
}

// gapsOf are the runs of all values that none of runs has.
func gapsOf(l int, runs []run) []run {
	var gaps []run
	next := 0
	for _, r := range append(slices.Clone(runs), run{1 << l, 1 << l}) {
		if next < r.lo {
			gaps = append(gaps, run{next, r.lo - 1})
		}
		next = r.hi + 1
	}
	return gaps
}

func fewestOfRuns(l int, runs []run) []int {
	var ids []int
	for _, r := range runs {
		ids = append(ids, fewestOfRun(l, r)...)
	}
	return ids
}

func sizeOfRuns(runs []run) int {
	n := 0
	for _, r := range runs {
		n += r.hi - r.lo + 1
	}
	return n
}

// holdList holds a list that a call answered against what it should.
func holdList(t *testing.T, name string, args any, got []int, ok bool, want []int, right bool) {
	t.Helper()
	if ok != right || !slices.Equal(got, want) || !right && got != nil {
		t.Errorf("%s of %v is %v, %v, and should be %v, %v", name, args, got, ok, want, right)
	}
}

// holdNone holds all calls with a list against having nothing of it.
func holdNone(t *testing.T, l int, ids []int) {
	t.Helper()
	args := []any{l, ids}
	got, ok := Join(l, ids)
	holdList(t, "Join", args, got, ok, nil, false)
	got, ok = Rest(l, ids)
	holdList(t, "Rest", args, got, ok, nil, false)
	if n, ok := Count(l, ids); n != 0 || ok {
		t.Errorf("Count of %v is %d, %v", args, n, ok)
	}
	if Right(l, ids) {
		t.Errorf("Right of %v is true", args)
	}
	for _, x := range []int{-1, 0, 1, 2, 3, 7} {
		if Holds(l, ids, x) {
			t.Errorf("Holds of %v and %d is true", args, x)
		}
	}
}

// holdSet holds all calls with a list of nodes of a small universe against the set that it holds.
func holdSet(t *testing.T, l int, ids []int) {
	t.Helper()
	set, args := union(l, ids), []any{l, ids}
	got, ok := Join(l, ids)
	holdList(t, "Join", args, got, ok, fewestOf(l, set), true)
	got, ok = Rest(l, ids)
	holdList(t, "Rest", args, got, ok, fewestOf(l, whole(l)&^set), true)
	if n, ok := Count(l, ids); n != sizeOf(set) || !ok {
		t.Errorf("Count of %v is %d, %v, and should be %d", args, n, ok, sizeOf(set))
	}
	for x := -2; x <= 1<<l+1; x++ {
		if want := x >= 0 && set>>x&1 == 1; Holds(l, ids, x) != want {
			t.Errorf("Holds of %v and %d isn't %v", args, x, want)
		}
	}
	if want := areTiles(l, ids); Right(l, ids) != want {
		t.Errorf("Right of %v isn't %v", args, want)
	}
}

// areTiles is whether each of the nodes holds greater values than the one ahead.
func areTiles(l int, ids []int) bool {
	for i := range ids {
		if i == 0 {
			continue
		}
		// The greatest bit of the one has to be below the least bit of the other.
		if low := valuesOf(l, ids[i]); valuesOf(l, ids[i-1]) >= low&-low {
			return false
		}
	}
	return true
}

// holdRuns holds all calls with a list of nodes of any universe against the runs that it holds.
func holdRuns(t *testing.T, l int, ids []int) {
	t.Helper()
	runs, args := runsOf(l, ids), []any{l, ids}
	got, ok := Join(l, ids)
	holdList(t, "Join", args, got, ok, fewestOfRuns(l, runs), true)
	got, ok = Rest(l, ids)
	holdList(t, "Rest", args, got, ok, fewestOfRuns(l, gapsOf(l, runs)), true)
	if n, ok := Count(l, ids); n != sizeOfRuns(runs) || !ok {
		t.Errorf("Count of %v is %d, %v, and should be %d", args, n, ok, sizeOfRuns(runs))
	}
	for _, r := range runs {
		for _, x := range []int{r.lo - 1, r.lo, (r.lo + r.hi) / 2, r.hi, r.hi + 1} {
			if want := x >= r.lo && x <= r.hi; Holds(l, ids, x) != want {
				t.Errorf("Holds of %v and %d isn't %v", args, x, want)
			}
		}
	}
}

// P5.1

func TestOf(t *testing.T) {
	for _, r := range []struct {
		l, a, b int
		want    []int
		ok      bool
	}{
		{3, 1, 6, []int{9, 5, 6, 14}, true}, {3, 0, 7, []int{1}, true}, {3, 0, 3, []int{2}, true}, {3, 2, 5, []int{5, 6}, true}, {3, 3, 4, []int{11, 12}, true},
		{3, 0, 6, []int{2, 6, 14}, true}, {3, 1, 7, []int{9, 5, 3}, true}, {3, 5, 5, []int{13}, true}, {3, 0, 0, []int{8}, true}, {3, 7, 7, []int{15}, true},
		{1, 0, 1, []int{1}, true}, {1, 0, 0, []int{2}, true}, {1, 1, 1, []int{3}, true}, {2, 1, 2, []int{5, 6}, true},
		{48, 0, 1<<48 - 1, []int{1}, true}, {48, 1<<47 - 1, 1 << 47, []int{1<<48 + 1<<47 - 1, 1<<48 + 1<<47}, true}, {48, 1<<48 - 1, 1<<48 - 1, []int{1<<49 - 1}, true}, {48, 1<<48 - 2, 1<<48 - 1, []int{1<<48 - 1}, true},
		{3, 2, 8, nil, false}, {3, -1, 2, nil, false}, {3, 8, 8, nil, false}, {3, -1, -1, nil, false}, {3, 5, 4, nil, false}, {3, 7, 0, nil, false}, {3, 8, 2, nil, false},
		{0, 0, 0, nil, false}, {-1, 0, 0, nil, false}, {49, 0, 0, nil, false}, {64, 0, 0, nil, false}, {48, 0, 1 << 48, nil, false}, {1, 0, 2, nil, false}, {math.MaxInt, 1, 2, nil, false}, {math.MinInt, 0, 0, nil, false},
	} {
		got, ok := Of(r.l, r.a, r.b)
		holdList(t, "Of", []int{r.l, r.a, r.b}, got, ok, r.want, r.ok)
	}
}

func TestOfAllRuns(t *testing.T) {
	for l := 1; l <= 4; l++ {
		for a := -3; a <= 1<<l+3; a++ {
			for b := -3; b <= 1<<l+3; b++ {
				var want []int
				right := a >= 0 && a <= b && b < 1<<l
				if right {
					want = fewestOf(l, 1<<(b+1)-1<<a)
				}
				got, ok := Of(l, a, b)
				holdList(t, "Of", []int{l, a, b}, got, ok, want, right)
			}
		}
	}
}

func TestOfEdges(t *testing.T) {
	for _, l := range edges {
		for _, a := range edges {
			for _, b := range edges {
				var want []int
				right := l >= 1 && l <= 48 && a >= 0 && a <= b && b < 1<<l
				if right {
					want = fewestOfRun(l, run{a, b})
				}
				got, ok := Of(l, a, b)
				holdList(t, "Of", []int{l, a, b}, got, ok, want, right)
			}
		}
	}
}

func TestOfAllUniverses(t *testing.T) {
	for l := 1; l <= api.MaxL; l++ {
		n := 1 << l
		for _, a := range []int{0, 1, n / 3, n/2 - 1, n / 2, n - 2, n - 1} {
			for _, b := range []int{0, 1, n / 3, n / 2, n - 1 - n/3, n - 2, n - 1} {
				if a <= b {
					got, ok := Of(l, a, b)
					holdList(t, "Of", []int{l, a, b}, got, ok, fewestOfRun(l, run{a, b}), true)
				}
			}
		}
	}
}

// P5.2

func TestRight(t *testing.T) {
	for _, r := range []struct {
		l    int
		ids  []int
		want bool
	}{
		{3, nil, true}, {3, []int{}, true}, {1, nil, true}, {48, nil, true},
		{3, []int{1}, true}, {3, []int{5}, true}, {3, []int{8, 15}, true}, {3, []int{9, 5, 6, 14}, true},
		{3, []int{4, 5}, true}, {3, []int{2, 3}, true}, {3, []int{8, 9, 10, 11, 12, 13, 14, 15}, true}, {3, []int{2, 15}, true}, {3, []int{8, 3}, true}, {3, []int{11, 3}, true},
		{48, []int{1 << 48, 3}, true}, {48, []int{1 << 48, 1<<49 - 1}, true}, {48, []int{2, 1<<49 - 1}, true},
		{3, []int{5, 4}, false}, {3, []int{5, 5}, false}, {3, []int{1, 1}, false}, {3, []int{1, 2}, false}, {3, []int{2, 1}, false}, {3, []int{4, 2}, false}, {3, []int{2, 5}, false}, {3, []int{2, 11}, false},
		{3, []int{11, 2}, false}, {3, []int{3, 2}, false}, {3, []int{8, 15, 14}, false}, {3, []int{8, 15, 15}, false}, {3, []int{8, 10, 9}, false}, {3, []int{15, 8}, false}, {3, []int{9, 6, 5, 14}, false}, {3, []int{3, 11}, false},
		{3, []int{0}, false}, {3, []int{-1}, false}, {3, []int{16}, false}, {3, []int{8, 16}, false}, {3, []int{16, 15}, false}, {3, []int{8, 0}, false}, {3, []int{0, 8}, false}, {3, []int{8, 17, 15}, false},
		{48, []int{1 << 49}, false}, {48, []int{math.MaxInt}, false}, {48, []int{math.MinInt}, false},
		{0, nil, false}, {-1, nil, false}, {49, nil, false}, {49, []int{}, false}, {0, []int{1}, false}, {49, []int{1}, false}, {math.MaxInt, nil, false}, {math.MinInt, nil, false},
	} {
		if got := Right(r.l, r.ids); got != r.want {
			t.Errorf("Right of %d, %v is %v", r.l, r.ids, got)
		}
	}
}

func TestRightAllTriples(t *testing.T) {
	const l = 3
	isNode := func(id int) bool { return id >= 1 && id <= 15 }
	for a := -1; a <= 17; a++ {
		for b := -1; b <= 17; b++ {
			for c := -1; c <= 17; c++ {
				ids := []int{a, b, c}
				want := isNode(a) && isNode(b) && isNode(c) && areTiles(l, ids)
				if got := Right(l, ids); got != want {
					t.Errorf("Right of %d, %v is %v", l, ids, got)
				}
			}
		}
	}
}

// P5.3

func TestJoinAndRest(t *testing.T) {
	for _, r := range []struct {
		l                int
		ids, joined, off []int
	}{
		{3, nil, nil, []int{1}}, {3, []int{}, nil, []int{1}}, {2, nil, nil, []int{1}}, {48, nil, nil, []int{1}},
		{3, []int{9, 5, 6, 14}, []int{9, 5, 6, 14}, []int{8, 15}}, {3, []int{14, 6, 5, 9}, []int{9, 5, 6, 14}, []int{8, 15}},
		{3, []int{9, 8, 5, 7, 14}, []int{2, 7}, []int{6}}, {3, []int{1}, []int{1}, nil}, {3, []int{2, 3}, []int{1}, nil}, {3, []int{3, 2}, []int{1}, nil},
		{3, []int{8, 9, 10, 11, 12, 13, 14, 15}, []int{1}, nil}, {3, []int{15, 13, 11, 9, 14, 12, 10, 8}, []int{1}, nil}, {3, []int{8, 10, 12, 14}, []int{8, 10, 12, 14}, []int{9, 11, 13, 15}},
		{3, []int{9, 10, 13, 14}, []int{9, 10, 13, 14}, []int{8, 11, 12, 15}}, {3, []int{5, 6}, []int{5, 6}, []int{4, 7}}, {3, []int{1, 1, 1}, []int{1}, nil}, {3, []int{8, 1, 15}, []int{1}, nil},
		{3, []int{8, 4, 2}, []int{2}, []int{3}}, {3, []int{2, 4, 8}, []int{2}, []int{3}}, {3, []int{11, 5, 2, 2}, []int{2}, []int{3}}, {3, []int{2, 11, 12}, []int{2, 12}, []int{13, 7}}, {3, []int{12, 12}, []int{12}, []int{2, 13, 7}},
		{1, []int{2}, []int{2}, []int{3}}, {1, []int{3}, []int{3}, []int{2}}, {1, []int{3, 2, 3}, []int{1}, nil},
		{48, []int{1<<49 - 1, 1<<49 - 2}, []int{1<<48 - 1}, fewestOfRun(48, run{0, 1<<48 - 3})}, {48, []int{3, 2}, []int{1}, nil},
	} {
		got, ok := Join(r.l, r.ids)
		holdList(t, "Join", []any{r.l, r.ids}, got, ok, r.joined, true)
		got, ok = Rest(r.l, r.ids)
		holdList(t, "Rest", []any{r.l, r.ids}, got, ok, r.off, true)
	}
}

func TestNoneOfWrongNodes(t *testing.T) {
	for _, wrong := range []int{0, -1, -5, 16, 17, 31, 1 << 48, 1 << 62, math.MaxInt, math.MinInt} {
		for _, ids := range [][]int{{wrong}, {wrong, 1}, {1, wrong}, {8, wrong, 15}, {1, 1, 1, wrong}, {5, 4, wrong, wrong}} {
			holdNone(t, 3, ids)
		}
	}
	for _, wrong := range []int{0, -1, 1 << 49, 1<<49 + 1, math.MaxInt} {
		for _, ids := range [][]int{{wrong}, {wrong, 2}, {2, 3, wrong}} {
			holdNone(t, 48, ids)
		}
	}
	for _, wrong := range []int{0, 4, 5} {
		holdNone(t, 1, []int{wrong})
		holdNone(t, 1, []int{1, wrong})
	}
}

func TestNoneOfWrongUniverses(t *testing.T) {
	for _, l := range wrongBits {
		for _, ids := range [][]int{nil, {}, {1}, {2, 3}, {8, 15}, {0}, {1 << 49}} {
			holdNone(t, l, ids)
		}
	}
}

// P5.3, P5.4, and P5.2 with them: all lists of different nodes of small universes, in four orders.

func TestAllSubsets(t *testing.T) {
	for l := 1; l <= 3; l++ {
		nodes := 2<<l - 1
		for set := range 1 << nodes {
			var ids []int
			for n := range nodes {
				if set>>n&1 == 1 {
					ids = append(ids, n+1)
				}
			}
			holdSet(t, l, ids)
			mixed := mix(ids, set)
			slices.Reverse(ids)
			holdSet(t, l, ids)
			holdSet(t, l, mixed)
			slices.SortFunc(ids, func(a, b int) int { return runOf(l, a).lo - runOf(l, b).lo })
			holdSet(t, l, ids)
			if t.Failed() {
				return
			}
		}
	}
}

// mix is ids in an order that hangs on turn, some of them twice.
func mix(ids []int, turn int) []int {
	var mixed []int
	for i, id := range ids {
		mixed = slices.Insert(mixed, (i*turn+turn/3)%(len(mixed)+1), id)
		if (i+turn)%4 == 0 {
			mixed = append(mixed, id)
		}
	}
	return mixed
}

func TestAllTriples(t *testing.T) {
	for a := 1; a < 32; a++ {
		for b := 1; b < 32; b++ {
			for c := 1; c < 32; c += 1 + (a+b)%3 {
				holdSet(t, 4, []int{a, b, c})
			}
		}
	}
}

// next is the number behind n in a row of numbers that looks mixed.
func next(n uint64) uint64 { return n*6364136223846793005 + 1442695040888963407 }

// someNodes are nodes of the universe of l bits, from depth top on, n of them.
func someNodes(l, top, n int, seed uint64) []int {
	var ids []int
	for range n {
		seed = next(seed)
		depth := top + int(seed>>33)%(l-top+1)
		seed = next(seed)
		ids = append(ids, 1<<depth+int(seed>>8)%(1<<depth))
	}
	return ids
}

// bunch are nodes that lie near one another, so that many of them touch, or make pairs.
func bunch(l, n int, seed uint64) []int {
	var ids []int
	middle := 1 << l / 3
	for range n {
		seed = next(seed)
		x := (middle + int(seed>>33)%(2*n)) % (1 << l)
		seed = next(seed)
		ids = append(ids, (1<<l+x)>>(int(seed>>40)%3))
	}
	return ids
}

func TestGreatUniverses(t *testing.T) {
	seed := uint64(5)
	for l := 2; l <= api.MaxL; l++ {
		for _, n := range []int{1, 2, 3, 10, 50} {
			seed = next(seed)
			holdRuns(t, l, someNodes(l, 0, n, seed))
			holdRuns(t, l, someNodes(l, l/2, n, seed))
			holdRuns(t, l, someNodes(l, l-1, n, seed))
			if l > 3 {
				holdRuns(t, l, bunch(l, n, seed))
			}
		}
	}
}

func TestManyNodes(t *testing.T) {
	const l = 17
	var all, every, late []int
	for leaf := 2<<l - 1; leaf >= 1<<l; leaf-- {
		all = append(all, leaf)
		if leaf%2 == 0 {
			every = append(every, leaf)
		}
		// Many tiles stand below on the stack here, while others become one.
		if leaf%2 == 0 || leaf >= 3<<(l-1) {
			late = append(late, leaf)
		}
	}
	for _, ids := range [][]int{all, every, late, someNodes(48, 40, 20000, 7)} {
		bits := l
		if ids[0] >= 2<<l {
			bits = 48
		}
		runs := runsOf(bits, ids)
		if got, ok := Join(bits, ids); !ok || !slices.Equal(got, fewestOfRuns(bits, runs)) {
			t.Errorf("Join of %d nodes is %d others, %v", len(ids), len(got), ok)
		}
		if got, ok := Rest(bits, ids); !ok || !slices.Equal(got, fewestOfRuns(bits, gapsOf(bits, runs))) {
			t.Errorf("Rest of %d nodes is %d others, %v", len(ids), len(got), ok)
		}
		if n, ok := Count(bits, ids); !ok || n != sizeOfRuns(runs) {
			t.Errorf("Count of %d nodes is %d, %v", len(ids), n, ok)
		}
	}
}

// P5.4

func TestHolds(t *testing.T) {
	for _, r := range []struct {
		l    int
		ids  []int
		x    int
		want bool
	}{
		{3, []int{5}, 3, true}, {3, []int{5}, 2, true}, {3, []int{5}, 1, false}, {3, []int{5}, 4, false}, {3, []int{1}, 0, true}, {3, []int{1}, 7, true}, {3, []int{15, 8}, 7, true}, {3, []int{15, 8}, 0, true}, {3, []int{15, 8}, 6, false},
		{3, []int{8, 8, 2, 2}, 3, true}, {3, []int{4, 7}, 3, false}, {3, nil, 0, false}, {3, []int{}, 3, false}, {48, []int{1}, 1<<48 - 1, true}, {48, []int{1<<49 - 1}, 1<<48 - 1, true}, {48, []int{1<<49 - 1}, 1<<48 - 2, false},
		{3, []int{1}, 8, false}, {3, []int{1}, -1, false}, {3, []int{1}, math.MinInt, false}, {3, []int{1}, math.MaxInt, false}, {48, []int{1}, 1 << 48, false}, {1, []int{1}, 1, true}, {1, []int{1}, 2, false},
		{3, []int{1, 0}, 3, false}, {3, []int{1, 16}, 3, false}, {3, []int{16, 1}, 3, false}, {3, []int{-1, 1}, 3, false}, {3, []int{1, 1, 99}, 0, false}, {3, []int{16}, 8, false},
		{0, []int{1}, 0, false}, {49, []int{1}, 0, false}, {-1, []int{1}, 0, false}, {64, []int{1}, 0, false}, {0, nil, 0, false},
	} {
		if got := Holds(r.l, r.ids, r.x); got != r.want {
			t.Errorf("Holds of %d, %v, %d is %v", r.l, r.ids, r.x, got)
		}
	}
}

func TestCount(t *testing.T) {
	for _, r := range []struct {
		l    int
		ids  []int
		want int
		ok   bool
	}{
		{4, []int{4, 8, 31}, 5, true}, {3, nil, 0, true}, {3, []int{}, 0, true}, {48, nil, 0, true}, {3, []int{1}, 8, true}, {3, []int{1, 1, 8}, 8, true}, {3, []int{8, 15}, 2, true}, {3, []int{15, 8, 15, 8}, 2, true}, {3, []int{2, 11, 12}, 5, true},
		{48, []int{1}, 1 << 48, true}, {48, []int{2, 3, 1}, 1 << 48, true}, {48, []int{1 << 48, 3}, 1<<47 + 1, true}, {1, []int{2}, 1, true}, {1, []int{1}, 2, true},
		{3, []int{0}, 0, false}, {3, []int{1, 0}, 0, false}, {3, []int{16, 1}, 0, false}, {3, []int{-1}, 0, false}, {48, []int{1 << 49}, 0, false}, {0, nil, 0, false}, {49, nil, 0, false}, {49, []int{1}, 0, false}, {-1, []int{}, 0, false},
	} {
		if n, ok := Count(r.l, r.ids); n != r.want || ok != r.ok {
			t.Errorf("Count of %d, %v is %d, %v, and should be %d, %v", r.l, r.ids, n, ok, r.want, r.ok)
		}
	}
}

// P5.5

func TestLawTwiceAsManyAsBits(t *testing.T) {
	for l := 1; l <= api.MaxL; l++ {
		// From the second value to the last but one there are the most.
		for _, r := range []run{{1, 1<<l - 2}, {0, 1<<l - 2}, {1, 1<<l - 1}, {0, 1<<l - 1}, {1 << l / 3, 1<<l - 1 - 1<<l/3}} {
			if r.lo > r.hi {
				continue
			}
			ids, ok := Of(l, r.lo, r.hi)
			if !ok || len(ids) < 1 || len(ids) > 2*l || !Right(l, ids) {
				t.Errorf("of %d bits, from %d to %d there are %d tiles: %v", l, r.lo, r.hi, len(ids), ids)
			}
			if n, ok := Count(l, ids); n != r.hi-r.lo+1 || !ok {
				t.Errorf("of %d bits, from %d to %d lie %d, %v", l, r.lo, r.hi, n, ok)
			}
		}
	}
}

func TestLawsOfJoinAndRest(t *testing.T) {
	seed := uint64(11)
	for l := 2; l <= api.MaxL; l++ {
		for n := range 20 {
			seed = next(seed)
			ids := someNodes(l, l/3, n, seed)
			joined, _ := Join(l, ids)
			again, ok := Join(l, joined)
			holdList(t, "Join of what is joined", []any{l, ids}, again, ok, joined, true)
			rest, _ := Rest(l, ids)
			again, ok = Rest(l, rest)
			holdList(t, "Rest of the rest", []any{l, ids}, again, ok, joined, true)
			all, ok := Join(l, slices.Concat(rest, ids))
			holdList(t, "Join with the rest", []any{l, ids}, all, ok, []int{1}, true)
			on, _ := Count(l, ids)
			off, _ := Count(l, rest)
			if on+off != 1<<l || !Right(l, joined) || !Right(l, rest) {
				t.Errorf("of %d bits, %v hold %d, and their rest %d", l, ids, on, off)
			}
			for _, id := range rest {
				if x := runOf(l, id).lo; Holds(l, ids, x) || !Holds(l, rest, x) {
					t.Errorf("of %d bits, %v and their rest don't part %d", l, ids, x)
				}
			}
		}
	}
}

func TestLawOfIsTheRestOfBothSides(t *testing.T) {
	for l := 2; l <= api.MaxL; l++ {
		n := 1 << l
		for _, r := range []run{{1, n - 2}, {n / 3, n / 2}, {n / 2, n / 2}, {n/2 - 1, n / 2}, {1, 1}} {
			left, _ := Of(l, 0, r.lo-1)
			right, _ := Of(l, r.hi+1, n-1)
			between, _ := Of(l, r.lo, r.hi)
			rest, ok := Rest(l, slices.Concat(right, left))
			holdList(t, "Rest of both sides", []int{l, r.lo, r.hi}, rest, ok, between, true)
		}
	}
}

// Of all calls: arguments stay as they are, answers are new memory.

func TestArgumentsStay(t *testing.T) {
	for _, ids := range [][]int{{15, 9, 8, 1, 5}, {8, 9, 10, 11}, {9, 5, 6, 14}, {8, 15}, {1}, {15, 0, 3}} {
		memory := append(slices.Clone(ids), 77, 16, -3)
		before := slices.Clone(memory)
		short := memory[:len(ids)]
		joined, _ := Join(3, short)
		rest, _ := Rest(3, short)
		Count(3, short)
		Right(3, short)
		Holds(3, short, 3)
		for _, answer := range [][]int{joined, rest} {
			for i := range answer {
				answer[i] = 99
			}
			_ = append(answer, 98)
		}
		if !slices.Equal(memory, before) {
			t.Errorf("%v has become %v", before, memory)
		}
	}
}

func TestAnswersAreNewMemory(t *testing.T) {
	calls := []struct {
		name string
		f    func() ([]int, bool)
	}{
		{"Of", func() ([]int, bool) { return Of(3, 1, 6) }},
		{"Of all", func() ([]int, bool) { return Of(3, 0, 7) }},
		{"Join", func() ([]int, bool) { return Join(3, []int{8, 9, 10, 12, 13, 14}) }},
		{"Join of tiles", func() ([]int, bool) { return Join(3, []int{9, 5, 6, 14}) }},
		{"Rest", func() ([]int, bool) { return Rest(3, []int{9, 12}) }},
	}
	for _, c := range calls {
		first, _ := c.f()
		want := slices.Clone(first)
		second, _ := c.f()
		for i := range first {
			first[i] = -1
		}
		_ = append(first, -1)
		third, _ := c.f()
		if !slices.Equal(second, want) || !slices.Equal(third, want) {
			t.Errorf("%s: what is done to one answer is seen in another one: %v, %v", c.name, second, third)
		}
	}
}

// Nodes that became their parent stand behind no answer's end.

func TestNothingStandsBehindAnswers(t *testing.T) {
	joined, _ := Join(3, []int{8, 9, 10, 11, 12, 14})
	full, _ := Join(3, []int{8, 9, 10, 11, 12, 13, 14, 15})
	rest, _ := Rest(3, []int{9})
	between, _ := Of(3, 1, 6)
	for _, answer := range [][]int{joined, full, rest, between} {
		for _, id := range answer[len(answer):cap(answer)] {
			if id != 0 {
				t.Errorf("behind %v stands %d", answer, id)
			}
		}
	}
}
