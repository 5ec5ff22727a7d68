package twig

import (
	"math"
	"strconv"
	"strings"
	"testing"

	"dewpond/api"
)

// edges are numbers at which nodes, universes, depths and steps end, and some ordinary and wrong ones. Each of them is tried as each argument.
var edges = []int{
	math.MinInt, math.MinInt + 1, -1 << 62, -1 << 48, -65, -49, -48, -47, -3, -2, -1,
	0, 1, 2, 3, 4, 5, 6, 7, 8, 9, 10, 11, 12, 13, 14, 15, 16, 17, 18, 23, 24, 29, 30, 31, 32, 33, 34,
	45, 46, 47, 48, 49, 50, 57, 58, 60, 61, 62, 63, 64, 65, 85, 127, 128, 255, 256, 1000, 1<<16 - 1, 1 << 16, 1 << 31, 1<<32 + 1,
	1<<47 - 1, 1 << 47, 1<<47 + 1, 1<<48 - 2, 1<<48 - 1, 1 << 48, 1<<48 + 1, 1<<49 - 2, 1<<49 - 1, 1 << 49, 1<<49 + 1,
	0x555555555555, 0xaaaaaaaaaaaa, 0x1555555555555, 0x5555555555555555, 0x2aaaaaaaaaaaaaaa, 0x1234567890abcd, 0x1234567890abce,
	1<<61 - 1, 1 << 61, 1<<62 - 1, 1 << 62, 1<<62 + 1, math.MaxInt - 1, math.MaxInt,
}

// A node is told here by its binary digits, of which each behind the first is a step down: what is above it begins it.

func digits(id int) (string, bool) {
	if id < 1 {
		return "", false
	}
	return strconv.FormatInt(int64(id), 2), true
}

func number(t *testing.T, digits string) int {
	t.Helper()
	n, err := strconv.ParseInt(digits, 2, 64)
	if err != nil {
		t.Fatal(err)
	}
	return int(n)
}

func zeros(n int) string { return strings.Repeat("0", n) }

func ones(n int) string { return strings.Repeat("1", n) }

// nodeOf is the digits of a node of the universe of l bits.
func nodeOf(l, id int) (string, bool) {
	s, ok := digits(id)
	if !ok || l < 1 || l > 48 || len(s) > l+1 {
		return "", false
	}
	return s, true
}

func wantLeaf(t *testing.T, l, x int) (int, bool) {
	if l < 1 || l > 48 || x < 0 {
		return 0, false
	}
	s := strconv.FormatInt(int64(x), 2)
	if len(s) > l {
		return 0, false
	}
	return number(t, "1"+zeros(l-len(s))+s), true
}

func wantValue(t *testing.T, l, id int) (int, bool) {
	s, ok := nodeOf(l, id)
	if !ok || len(s) != l+1 {
		return 0, false
	}
	return number(t, s[1:]), true
}

func wantUp(t *testing.T, id, by int) (int, bool) {
	s, ok := digits(id)
	if !ok || by < 0 || by >= len(s) {
		return 0, false
	}
	return number(t, s[:len(s)-by]), true
}

func wantMeet(t *testing.T, a, b int) (int, bool) {
	s, ok := digits(a)
	u, ok2 := digits(b)
	if !ok || !ok2 {
		return 0, false
	}
	n := 0
	for n < len(s) && n < len(u) && s[n] == u[n] {
		n++
	}
	return number(t, s[:n]), true
}

func wantGraft(t *testing.T, id, by int) (int, bool) {
	s, ok := digits(id)
	if !ok || by < 0 || by > 48 || len(s)-1+by > 48 {
		return 0, false
	}
	return number(t, "1"+zeros(by)+s[1:]), true
}

func wantPrune(t *testing.T, id, depth int) (int, bool) {
	s, ok := digits(id)
	if !ok || depth < 0 {
		return 0, false
	}
	if depth >= len(s)-1 {
		return id, true
	}
	return number(t, s[:depth+1]), true
}

func wantEnds(t *testing.T, l, id int) (lo, hi int, ok bool) {
	s, ok := nodeOf(l, id)
	if !ok {
		return 0, 0, false
	}
	left := l + 1 - len(s)
	return number(t, "0"+s[1:]+zeros(left)), number(t, "0"+s[1:]+ones(left)), true
}

func wantKids(t *testing.T, l, id int) (a, b int, ok bool) {
	s, ok := nodeOf(l, id)
	if !ok || len(s) == l+1 {
		return 0, 0, false
	}
	return number(t, s+"0"), number(t, s+"1"), true
}

// hold holds what a call answered against what it should.
func hold(t *testing.T, name string, args []int, got int, ok bool, want int, right bool) {
	t.Helper()
	if got != want || ok != right {
		t.Errorf("%s%v is %d, %v, and should be %d, %v", name, args, got, ok, want, right)
	}
}

func holdTwo(t *testing.T, name string, args []int, a, b int, ok bool, wantA, wantB int, right bool) {
	t.Helper()
	if a != wantA || b != wantB || ok != right {
		t.Errorf("%s%v is %d, %d, %v, and should be %d, %d, %v", name, args, a, b, ok, wantA, wantB, right)
	}
}

type row struct {
	a, b, want int
	ok         bool
}

func rows(t *testing.T, name string, f func(a, b int) (int, bool), l []row) {
	t.Helper()
	for _, r := range l {
		got, ok := f(r.a, r.b)
		hold(t, name, []int{r.a, r.b}, got, ok, r.want, r.ok)
	}
}

type rowTwo struct {
	l, id, a, b int
	ok          bool
}

func rowsTwo(t *testing.T, name string, f func(l, id int) (int, int, bool), l []rowTwo) {
	t.Helper()
	for _, r := range l {
		a, b, ok := f(r.l, r.id)
		holdTwo(t, name, []int{r.l, r.id}, a, b, ok, r.a, r.b, r.ok)
	}
}

type rowBool struct {
	a, b int
	want bool
}

func rowsBool(t *testing.T, name string, f func(a, b int) bool, l []rowBool) {
	t.Helper()
	for _, r := range l {
		if got := f(r.a, r.b); got != r.want {
			t.Errorf("%s(%d, %d) is %v", name, r.a, r.b, got)
		}
	}
}

// P2.1

func TestRight(t *testing.T) {
	rowsBool(t, "Right", Right, []rowBool{
		{3, 1, true}, {3, 5, true}, {3, 8, true}, {3, 15, true}, {3, 16, false}, {3, math.MaxInt, false},
		{1, 1, true}, {1, 2, true}, {1, 3, true}, {1, 4, false},
		{48, 1, true}, {48, 1 << 48, true}, {48, 1<<49 - 1, true}, {48, 1 << 49, false}, {47, 1 << 48, false}, {47, 1<<48 - 1, true},
		{3, 0, false}, {3, -1, false}, {3, -5, false}, {3, math.MinInt, false},
		{0, 1, false}, {-1, 1, false}, {49, 1, false}, {50, 1 << 49, false}, {62, 1 << 49, false}, {63, 1, false}, {64, 1, false},
		{math.MaxInt, 1, false}, {math.MinInt, 1, false}, {0, 0, false},
	})
}

func TestLeaf(t *testing.T) {
	rows(t, "Leaf", Leaf, []row{
		{3, 6, 14, true}, {3, 0, 8, true}, {3, 7, 15, true}, {3, 8, 0, false}, {3, -1, 0, false},
		{1, 0, 2, true}, {1, 1, 3, true}, {1, 2, 0, false},
		{48, 0, 1 << 48, true}, {48, 1<<48 - 1, 1<<49 - 1, true}, {48, 1 << 48, 0, false}, {47, 1<<47 - 1, 1<<48 - 1, true}, {47, 1 << 47, 0, false},
		{0, 0, 0, false}, {-1, 0, 0, false}, {49, 0, 0, false}, {62, 0, 0, false}, {63, 0, 0, false}, {64, 0, 0, false},
		{3, math.MaxInt, 0, false}, {3, math.MinInt, 0, false}, {48, math.MaxInt, 0, false}, {math.MaxInt, 0, 0, false}, {math.MinInt, 0, 0, false},
	})
}

func TestValue(t *testing.T) {
	rows(t, "Value", Value, []row{
		{3, 14, 6, true}, {3, 8, 0, true}, {3, 15, 7, true}, {3, 7, 0, false}, {3, 16, 0, false}, {3, 1, 0, false},
		{1, 2, 0, true}, {1, 3, 1, true}, {1, 1, 0, false}, {1, 4, 0, false},
		{48, 1 << 48, 0, true}, {48, 1<<49 - 1, 1<<48 - 1, true}, {48, 1<<48 - 1, 0, false}, {48, 1 << 49, 0, false},
		{0, 1, 0, false}, {-1, 1, 0, false}, {49, 1 << 49, 0, false}, {49, 1 << 48, 0, false}, {62, 1 << 62, 0, false}, {64, 1, 0, false},
		{3, 0, 0, false}, {3, -1, 0, false}, {3, -14, 0, false}, {3, math.MinInt, 0, false}, {3, math.MaxInt, 0, false}, {math.MaxInt, 8, 0, false},
	})
}

// P2.2

func TestDepth(t *testing.T) {
	for d := range 63 {
		first := 1 << d
		for _, id := range []int{first, first + first/2, first + (first - 1)} {
			got, ok := Depth(id)
			hold(t, "Depth", []int{id}, got, ok, d, true)
		}
	}
	for _, id := range []int{0, -1, -2, -8, math.MinInt} {
		got, ok := Depth(id)
		hold(t, "Depth", []int{id}, got, ok, 0, false)
	}
}

func TestEnds(t *testing.T) {
	rowsTwo(t, "Ends", Ends, []rowTwo{
		{3, 5, 2, 3, true}, {3, 1, 0, 7, true}, {3, 2, 0, 3, true}, {3, 3, 4, 7, true}, {3, 8, 0, 0, true}, {3, 14, 6, 6, true}, {3, 15, 7, 7, true},
		{1, 1, 0, 1, true}, {1, 2, 0, 0, true}, {1, 3, 1, 1, true},
		{48, 1, 0, 1<<48 - 1, true}, {48, 3, 1 << 47, 1<<48 - 1, true}, {48, 1 << 48, 0, 0, true}, {48, 1<<49 - 1, 1<<48 - 1, 1<<48 - 1, true},
		{48, 1<<48 - 1, 1<<48 - 2, 1<<48 - 1, true},
		{3, 16, 0, 0, false}, {1, 4, 0, 0, false}, {48, 1 << 49, 0, 0, false},
		{0, 1, 0, 0, false}, {-3, 1, 0, 0, false}, {49, 1, 0, 0, false}, {63, 1, 0, 0, false}, {64, 1, 0, 0, false},
		{3, 0, 0, 0, false}, {3, -5, 0, 0, false}, {3, math.MinInt, 0, 0, false}, {3, math.MaxInt, 0, 0, false}, {math.MaxInt, 1, 0, 0, false}, {math.MinInt, 1, 0, 0, false},
	})
}

// P2.3

func TestUp(t *testing.T) {
	rows(t, "Up", Up, []row{
		{5, 0, 5, true}, {5, 1, 2, true}, {5, 2, 1, true}, {5, 3, 0, false}, {29, 2, 7, true}, {14, 3, 1, true},
		{1, 0, 1, true}, {1, 1, 0, false}, {2, 1, 1, true}, {3, 1, 1, true}, {3, 2, 0, false},
		{1<<49 - 1, 48, 1, true}, {1<<49 - 1, 47, 3, true}, {1<<49 - 1, 49, 0, false},
		{math.MaxInt, 0, math.MaxInt, true}, {math.MaxInt, 1, 1<<62 - 1, true}, {math.MaxInt, 62, 1, true}, {math.MaxInt, 63, 0, false}, {math.MaxInt, 64, 0, false},
		{5, -1, 0, false}, {5, math.MinInt, 0, false}, {5, math.MaxInt, 0, false},
		{0, 0, 0, false}, {0, 1, 0, false}, {-1, 0, 0, false}, {-8, 2, 0, false}, {math.MinInt, 1, 0, false}, {math.MinInt, math.MinInt, 0, false},
	})
}

func TestPair(t *testing.T) {
	for _, r := range []row{
		{2, 0, 3, true}, {3, 0, 2, true}, {4, 0, 5, true}, {5, 0, 4, true}, {6, 0, 7, true}, {7, 0, 6, true}, {8, 0, 9, true}, {15, 0, 14, true},
		{1 << 48, 0, 1<<48 + 1, true}, {1<<49 - 1, 0, 1<<49 - 2, true}, {math.MaxInt, 0, math.MaxInt - 1, true}, {math.MaxInt - 1, 0, math.MaxInt, true},
		{1, 0, 0, false}, {0, 0, 0, false}, {-1, 0, 0, false}, {-2, 0, 0, false}, {-5, 0, 0, false}, {math.MinInt, 0, 0, false},
	} {
		got, ok := Pair(r.a)
		hold(t, "Pair", []int{r.a}, got, ok, r.want, r.ok)
	}
}

func TestKids(t *testing.T) {
	rowsTwo(t, "Kids", Kids, []rowTwo{
		{3, 1, 2, 3, true}, {3, 5, 10, 11, true}, {3, 7, 14, 15, true}, {3, 8, 0, 0, false}, {3, 14, 0, 0, false}, {3, 16, 0, 0, false},
		{1, 1, 2, 3, true}, {1, 2, 0, 0, false}, {1, 3, 0, 0, false}, {1, 4, 0, 0, false},
		{48, 1 << 47, 1 << 48, 1<<48 + 1, true}, {48, 1<<48 - 1, 1<<49 - 2, 1<<49 - 1, true}, {48, 1 << 48, 0, 0, false}, {48, 1 << 49, 0, 0, false},
		{0, 1, 0, 0, false}, {-1, 1, 0, 0, false}, {49, 1, 0, 0, false}, {64, 1, 0, 0, false},
		{3, 0, 0, 0, false}, {3, -1, 0, 0, false}, {3, math.MinInt, 0, 0, false}, {3, math.MaxInt, 0, 0, false}, {math.MaxInt, 1, 0, 0, false}, {math.MinInt, 1, 0, 0, false},
	})
}

// P2.4

func TestAbove(t *testing.T) {
	rowsBool(t, "Above", Above, []rowBool{
		{1, 9, true}, {9, 4, false}, {4, 9, true}, {2, 9, true}, {3, 9, false}, {5, 9, false}, {8, 9, false}, {9, 8, false}, {9, 9, true}, {9, 19, true}, {9, 20, false},
		{1, 1, true}, {2, 1, false}, {3, 2, false}, {2, 3, false},
		{1, 1<<49 - 1, true}, {3, 1<<49 - 1, true}, {2, 1<<49 - 1, false}, {1<<48 - 1, 1<<49 - 1, true}, {1<<48 - 2, 1<<49 - 1, false},
		{1, math.MaxInt, true}, {math.MaxInt, math.MaxInt, true}, {math.MaxInt, 1, false}, {math.MaxInt, math.MaxInt - 1, false}, {1<<62 - 1, math.MaxInt - 1, true},
		{0, 0, false}, {0, 1, false}, {1, 0, false}, {-1, -1, false}, {-1, 1, false}, {1, -1, false}, {0, -1, false}, {-1, -2, false},
		{math.MinInt, math.MinInt, false}, {1, math.MinInt, false}, {math.MinInt, 1, false},
	})
}

func TestMeet(t *testing.T) {
	rows(t, "Meet", Meet, []row{
		{10, 12, 1, true}, {10, 11, 5, true}, {8, 11, 2, true}, {9, 4, 4, true}, {4, 9, 4, true}, {9, 9, 9, true}, {19, 4, 4, true}, {5, 8, 2, true}, {8, 5, 2, true},
		{1, 1, 1, true}, {1, 15, 1, true}, {15, 1, 1, true}, {2, 3, 1, true}, {7, 14, 7, true}, {28, 15, 7, true},
		{1<<49 - 1, 1<<49 - 2, 1<<48 - 1, true}, {1 << 48, 1<<49 - 1, 1, true}, {1<<49 - 1, 3, 3, true},
		{math.MaxInt, math.MaxInt, math.MaxInt, true}, {math.MaxInt, math.MaxInt - 1, 1<<62 - 1, true}, {1 << 62, math.MaxInt, 1, true}, {math.MaxInt, 1, 1, true},
		{0, 1, 0, false}, {1, 0, 0, false}, {0, 0, 0, false}, {-1, -1, 0, false}, {-4, 4, 0, false}, {4, -4, 0, false},
		{math.MinInt, 1, 0, false}, {1, math.MinInt, 0, false}, {math.MinInt, math.MinInt, 0, false},
	})
}

// P2.5

func TestGraft(t *testing.T) {
	rows(t, "Graft", Graft, []row{
		{5, 2, 17, true}, {5, 0, 5, true}, {7, 1, 11, true}, {1, 0, 1, true}, {1, 1, 2, true}, {3, 2, 9, true},
		{1, 48, 1 << 48, true}, {1, 49, 0, false}, {3, 47, 1<<48 + 1, true}, {3, 48, 0, false},
		{1<<48 - 1, 1, 3<<47 - 1, true}, {1<<49 - 1, 0, 1<<49 - 1, true}, {1<<49 - 1, 1, 0, false},
		{1 << 49, 0, 0, false}, {math.MaxInt, 0, 0, false}, {math.MaxInt, math.MaxInt, 0, false}, {1, math.MaxInt, 0, false}, {2, math.MaxInt, 0, false}, {1, 64, 0, false},
		{5, -1, 0, false}, {5, -2, 0, false}, {5, math.MinInt, 0, false}, {1 << 49, -1, 0, false}, {math.MaxInt, -62, 0, false},
		{0, 0, 0, false}, {0, 1, 0, false}, {-5, 2, 0, false}, {-1, 0, 0, false}, {math.MinInt, 0, 0, false}, {math.MinInt, math.MaxInt, 0, false},
	})
}

func TestPrune(t *testing.T) {
	rows(t, "Prune", Prune, []row{
		{29, 2, 7, true}, {29, 0, 1, true}, {29, 1, 3, true}, {29, 3, 14, true}, {29, 4, 29, true}, {29, 5, 29, true}, {29, 48, 29, true}, {29, 49, 29, true}, {29, math.MaxInt, 29, true},
		{1, 0, 1, true}, {1, 1, 1, true}, {1, math.MaxInt, 1, true}, {2, 0, 1, true},
		{1<<49 - 1, 48, 1<<49 - 1, true}, {1<<49 - 1, 47, 1<<48 - 1, true}, {1<<49 - 1, 0, 1, true},
		{math.MaxInt, 0, 1, true}, {math.MaxInt, 48, 1<<49 - 1, true}, {math.MaxInt, 61, 1<<62 - 1, true}, {math.MaxInt, 62, math.MaxInt, true}, {math.MaxInt, 63, math.MaxInt, true},
		{29, -1, 0, false}, {29, math.MinInt, 0, false}, {1, -1, 0, false},
		{0, 0, 0, false}, {0, 5, 0, false}, {-1, 0, 0, false}, {-29, 2, 0, false}, {math.MinInt, math.MaxInt, 0, false}, {math.MinInt, math.MinInt, 0, false},
	})
}

// P2.1 to P2.5, and P1: what every call answers at all the edges, held against digits.

func TestOnesAgainstDigits(t *testing.T) {
	for _, id := range edges {
		s, node := digits(id)
		depth, pair, paired := 0, 0, node && len(s) > 1
		if node {
			depth = len(s) - 1
		}
		if paired {
			last := "1"
			if s[depth] == '1' {
				last = "0"
			}
			pair = number(t, s[:depth]+last)
		}
		got, ok := Depth(id)
		hold(t, "Depth", []int{id}, got, ok, depth, node)
		got, ok = Pair(id)
		hold(t, "Pair", []int{id}, got, ok, pair, paired)
	}
}

func TestTwosAgainstDigits(t *testing.T) {
	calls := []struct {
		name string
		f    func(a, b int) (int, bool)
		want func(t *testing.T, a, b int) (int, bool)
	}{
		{"Leaf", Leaf, wantLeaf}, {"Value", Value, wantValue}, {"Up", Up, wantUp},
		{"Meet", Meet, wantMeet}, {"Graft", Graft, wantGraft}, {"Prune", Prune, wantPrune},
	}
	for _, c := range calls {
		for _, a := range edges {
			for _, b := range edges {
				want, right := c.want(t, a, b)
				got, ok := c.f(a, b)
				hold(t, c.name, []int{a, b}, got, ok, want, right)
			}
		}
	}
}

func TestTwoAnswersAgainstDigits(t *testing.T) {
	calls := []struct {
		name string
		f    func(l, id int) (int, int, bool)
		want func(t *testing.T, l, id int) (int, int, bool)
	}{
		{"Ends", Ends, wantEnds}, {"Kids", Kids, wantKids},
	}
	for _, c := range calls {
		for _, l := range edges {
			for _, id := range edges {
				a, b, right := c.want(t, l, id)
				gotA, gotB, ok := c.f(l, id)
				holdTwo(t, c.name, []int{l, id}, gotA, gotB, ok, a, b, right)
			}
		}
	}
}

func TestBoolsAgainstDigits(t *testing.T) {
	for _, a := range edges {
		for _, b := range edges {
			_, right := nodeOf(a, b)
			if got := Right(a, b); got != right {
				t.Errorf("Right(%d, %d) is %v", a, b, got)
			}
			s, ok := digits(a)
			u, ok2 := digits(b)
			above := ok && ok2 && strings.HasPrefix(u, s)
			if got := Above(a, b); got != above {
				t.Errorf("Above(%d, %d) is %v", a, b, got)
			}
		}
	}
}

// tall is nodes of the universe of l bits at every depth: the first, the last, and some between.
func tall(l int) []int {
	var ids []int
	for d := range l + 1 {
		first := 1 << d
		for _, n := range []int{0, 1, first / 3, first / 2, first - 2, first - 1} {
			if n >= 0 && n < first {
				ids = append(ids, first+n)
			}
		}
	}
	return ids
}

// P2.1 to P2.3, over every universe.

func TestAllUniverses(t *testing.T) {
	for l := range 51 {
		ids := append(tall(50), 0, -1)
		for _, id := range ids {
			if _, want := nodeOf(l, id); Right(l, id) != want {
				t.Errorf("Right(%d, %d) isn't %v", l, id, want)
			}
			lo, hi, ok := Ends(l, id)
			wantLo, wantHi, right := wantEnds(t, l, id)
			holdTwo(t, "Ends", []int{l, id}, lo, hi, ok, wantLo, wantHi, right)
			a, b, ok := Kids(l, id)
			wantA, wantB, right := wantKids(t, l, id)
			holdTwo(t, "Kids", []int{l, id}, a, b, ok, wantA, wantB, right)
			got, ok := Value(l, id)
			want, right := wantValue(t, l, id)
			hold(t, "Value", []int{l, id}, got, ok, want, right)
			got, ok = Leaf(l, id)
			want, right = wantLeaf(t, l, id)
			hold(t, "Leaf", []int{l, id}, got, ok, want, right)
		}
	}
}

// P2.3 to P2.5: all steps and depths of nodes of each depth.

func TestAllStepsAndDepths(t *testing.T) {
	for _, id := range append(tall(62), 0, -1, math.MinInt) {
		for n := -2; n <= 66; n++ {
			got, ok := Up(id, n)
			want, right := wantUp(t, id, n)
			hold(t, "Up", []int{id, n}, got, ok, want, right)
			got, ok = Graft(id, n)
			want, right = wantGraft(t, id, n)
			hold(t, "Graft", []int{id, n}, got, ok, want, right)
			got, ok = Prune(id, n)
			want, right = wantPrune(t, id, n)
			hold(t, "Prune", []int{id, n}, got, ok, want, right)
		}
	}
}

// What a node holds, by the words of the chapter: the values whose leaf it is, or is above.

func TestHeldByWords(t *testing.T) {
	for l := 1; l <= 7; l++ {
		for id := 1; id < 2<<l; id++ {
			lo, hi, ok := Ends(l, id)
			if !ok {
				t.Fatalf("Ends(%d, %d) is false", l, id)
			}
			for x := range 1 << l {
				leaf, _ := Leaf(l, x)
				if held := lo <= x && x <= hi; Above(id, leaf) != held {
					t.Errorf("of %d bits, Ends of %d are %d, %d, but Above(%d, %d) is %v", l, id, lo, hi, id, leaf, !held)
				}
			}
		}
	}
}

func TestMeetByWords(t *testing.T) {
	for a := 1; a < 64; a++ {
		for b := 1; b < 64; b++ {
			want := 0
			for c := 1; c < 64; c++ {
				// A greater number is never less deep, and of each depth one node at most is above both.
				if Above(c, a) && Above(c, b) {
					want = c
				}
			}
			got, ok := Meet(a, b)
			hold(t, "Meet", []int{a, b}, got, ok, want, true)
		}
	}
}

func TestGraftByWords(t *testing.T) {
	for d := range 6 {
		for n := range 1 << d {
			for by := range 6 {
				got, ok := Graft(1<<d+n, by)
				hold(t, "Graft", []int{1<<d + n, by}, got, ok, 1<<(d+by)+n, true)
			}
		}
	}
}

func TestLeavesAndValuesTurn(t *testing.T) {
	for l := 1; l <= api.MaxL; l++ {
		for _, x := range []int{0, 1, (1 << l) / 3, (1 << l) - 2, (1 << l) - 1} {
			leaf, ok := Leaf(l, x)
			if !ok {
				t.Errorf("Leaf(%d, %d) is false", l, x)
			}
			back, ok := Value(l, leaf)
			hold(t, "Value", []int{l, leaf}, back, ok, x, true)
			lo, hi, ok := Ends(l, leaf)
			holdTwo(t, "Ends", []int{l, leaf}, lo, hi, ok, x, x, true)
		}
	}
}

// P2.6

func TestLawChildrenHoldIt(t *testing.T) {
	for l := 1; l <= api.MaxL; l++ {
		for _, id := range tall(l - 1) {
			lo, hi, ok := Ends(l, id)
			a, b, ok2 := Kids(l, id)
			if !ok || !ok2 {
				t.Fatalf("of %d bits, %d has no ends or no children", l, id)
			}
			loA, hiA, _ := Ends(l, a)
			loB, hiB, _ := Ends(l, b)
			if lo != loA || hiA+1 != loB || hiB != hi || loA > hiA || loB > hiB {
				t.Errorf("of %d bits, %d holds %d to %d, its children %d to %d and %d to %d", l, id, lo, hi, loA, hiA, loB, hiB)
			}
			pair, ok := Pair(a)
			hold(t, "Pair", []int{a}, pair, ok, b, true)
			up, ok := Up(b, 1)
			hold(t, "Up", []int{b, 1}, up, ok, id, true)
		}
	}
}

func TestLawGraftedHoldsTheSame(t *testing.T) {
	for l := 1; l <= api.MaxL; l++ {
		for b := range api.MaxL - l + 1 {
			for _, id := range tall(l) {
				lo, hi, _ := Ends(l, id)
				deep, ok := Graft(id, b)
				if !ok {
					t.Fatalf("Graft(%d, %d) is false", id, b)
				}
				loDeep, hiDeep, ok := Ends(l+b, deep)
				holdTwo(t, "Ends", []int{l + b, deep}, loDeep, hiDeep, ok, lo, hi, true)
			}
		}
	}
}

func TestLawPrunedHoldsHalves(t *testing.T) {
	for l := 1; l <= api.MaxL; l++ {
		for b := range l {
			for _, id := range tall(l) {
				lo, hi, _ := Ends(l, id)
				short, ok := Prune(id, l-b)
				if !ok {
					t.Fatalf("Prune(%d, %d) is false", id, l-b)
				}
				loShort, hiShort, ok := Ends(l-b, short)
				holdTwo(t, "Ends", []int{l - b, short}, loShort, hiShort, ok, lo>>b, hi>>b, true)
			}
		}
	}
}
