package vary

import (
	"math"
	"math/big"
	"slices"
	"strconv"
	"strings"
	"testing"

	"dewpond/api"
)

// good are numbers at which bytes, groups and words end, and some ordinary ones, rising; bad those that may not be.
func good() []int {
	l := []int{0, 1, 2, 3, 5, 10, 100, 300, 1000, 12345, 65535, 65536, 1<<32 - 1, 1 << 32, 1<<48 - 1, 1 << 48, 1<<56 - 1, Last / 2, Last/2 + 1, Last / 3, Last - 2, Last - 1, Last}
	for at := 7; at < 63; at += 7 {
		for n := 1<<at - 2; n <= 1<<at+2; n++ {
			l = append(l, n)
		}
	}
	for at := range 63 {
		l = append(l, 1<<at)
	}
	slices.Sort(l)
	return slices.Compact(l)
}

var bad = []int{-1, -2, -127, -128, -129, -1 << 32, -1 << 56, math.MinInt + 1, math.MinInt}

// mosts are numbers of numbers that may be the most, rising; wrong ones among them.
var mosts = []int{math.MinInt, -2, -1, 0, 1, 2, 3, 5, 100, 1 << 23, Last - 1, Last}

// next is the number behind n in a row of numbers that looks mixed.
func next(n uint64) uint64 { return n*6364136223846793005 + 1442695040888963407 }

// mixed is so many numbers, of all lengths.
func mixed(many int, seed uint64) []int {
	var l []int
	for range many {
		seed = next(seed)
		by := seed >> 58
		seed = next(seed)
		l = append(l, int(seed>>1)>>min(by, 62))
	}
	return l
}

// texts calls f with all texts of up to so many of these bytes.
func texts(long int, of string, f func(s string)) {
	text := make([]byte, 0, long)
	var grow func()
	grow = func() {
		f(string(text))
		if len(text) == long {
			return
		}
		for at := range len(of) {
			text = append(text, of[at])
			grow()
			text = text[:len(text)-1]
		}
	}
	grow()
}

// bytesOf is the bytes of a number, by its digits 0 and 1, seven of them a byte.
func bytesOf(n int) string {
	digits := strconv.FormatInt(int64(n), 2)
	digits = strings.Repeat("0", (7-len(digits)%7)%7) + digits
	var text []byte
	for len(digits) > 0 {
		last := digits[len(digits)-7:]
		digits = digits[:len(digits)-7]
		if len(digits) > 0 {
			last = "1" + last
		}
		b, _ := strconv.ParseUint(last, 2, 8)
		text = append(text, byte(b))
	}
	return string(text)
}

// joined is the bytes of all these numbers, by bytesOf.
func joined(l ...int) string {
	var s strings.Builder
	for _, n := range l {
		s.WriteString(bytesOf(n))
	}
	return s.String()
}

// got is what Get should be: of a number of any size, made of the bytes up to the first one below 128.
func got(s string) (n, size int, e api.Errno) {
	first := s[:min(len(s), 9)]
	at := slices.IndexFunc([]byte(first), func(b byte) bool { return b < 128 })
	switch {
	case at < 0 && len(first) == 9:
		return 0, 0, api.ErrForm
	case at < 0:
		return 0, 0, api.ErrShort
	case at > 0 && s[at] == 0:
		return 0, 0, api.ErrForm
	}
	sum := new(big.Int)
	for i := at; i >= 0; i-- {
		sum.Mul(sum, big.NewInt(128))
		sum.Add(sum, big.NewInt(int64(s[i]&127)))
	}
	if !sum.IsInt64() {
		panic("above all numbers: " + sum.String())
	}
	return int(sum.Int64()), at + 1, api.OK
}

// gotAll is what All should be.
func gotAll(s string) ([]int, api.Errno) {
	if s == "" {
		return nil, api.OK
	}
	n, size, e := got(s)
	if e != api.OK {
		return nil, e
	}
	l, e := gotAll(s[size:])
	if e != api.OK {
		return nil, e
	}
	return append([]int{n}, l...), api.OK
}

// fallen is what Falls should be: with sums of any size.
func fallen(s string, most int) ([]int, int, api.Errno) {
	many, size, e := got(s)
	if e != api.OK {
		return nil, 0, e
	}
	if many > most {
		return nil, 0, api.ErrCap
	}
	sum := new(big.Int)
	var l []int
	for len(l) < many {
		n, more, e := got(s[size:])
		if e != api.OK {
			return nil, 0, e
		}
		sum.Add(sum, big.NewInt(int64(n)))
		if n < 1 || !sum.IsInt64() {
			return nil, 0, api.ErrForm
		}
		size += more
		l = append(l, int(sum.Int64()))
	}
	return l, size, api.OK
}

// risen tells whether numbers rise, the first one from 1 on.
func risen(l []int) bool {
	for i, n := range l {
		if i == 0 && n < 1 || i > 0 && n <= l[i-1] {
			return false
		}
	}
	return true
}

// differences is how many numbers there are, and what each one is greater than the one ahead.
func differences(l []int) []int {
	out := []int{len(l)}
	for i, n := range l {
		if i > 0 {
			n -= l[i-1]
		}
		out = append(out, n)
	}
	return out
}

func holdGet(t *testing.T, s string) {
	t.Helper()
	n, size, e := Get(s)
	if num, many, err := got(s); n != num || size != many || e != err {
		t.Fatalf("Get(%x) is %d, %d, %d, and should be %d, %d, %d", s, n, size, e, num, many, err)
	}
}

func holdAll(t *testing.T, s string) {
	t.Helper()
	l, e := All(s)
	if want, err := gotAll(s); !slices.Equal(l, want) || e != err {
		t.Fatalf("All(%x) is %d, %d, and should be %d, %d", s, l, e, want, err)
	}
}

func holdFalls(t *testing.T, s string, most int) {
	t.Helper()
	l, size, e := Falls(s, most)
	if want, many, err := fallen(s, most); !slices.Equal(l, want) || size != many || e != err {
		t.Fatalf("Falls(%x, %d) is %d, %d, %d, and should be %d, %d, %d", s, most, l, size, e, want, many, err)
	}
}

// P22.1

func TestPut(t *testing.T) {
	for _, r := range []struct {
		l    []int
		want string
	}{
		{nil, ""}, {[]int{}, ""}, {[]int{0}, "\x00"}, {[]int{1}, "\x01"}, {[]int{127}, "\x7f"}, {[]int{128}, "\x80\x01"},
		{[]int{129}, "\x81\x01"}, {[]int{255}, "\xff\x01"}, {[]int{256}, "\x80\x02"}, {[]int{300}, "\xac\x02"},
		{[]int{16383}, "\xff\x7f"}, {[]int{16384}, "\x80\x80\x01"}, {[]int{1 << 56}, "\x80\x80\x80\x80\x80\x80\x80\x80\x01"},
		{[]int{1<<56 - 1}, "\xff\xff\xff\xff\xff\xff\xff\x7f"}, {[]int{Last}, "\xff\xff\xff\xff\xff\xff\xff\xff\x7f"},
		{[]int{0, 0, 0}, "\x00\x00\x00"}, {[]int{300, 0, 300}, "\xac\x02\x00\xac\x02"}, {[]int{5, 4, 200}, "\x05\x04\xc8\x01"},
	} {
		if s, e := Put(r.l...); s != r.want || e != api.OK {
			t.Errorf("Put(%d) is %x, %d, and should be %x", r.l, s, e, r.want)
		}
	}
}

func TestPutAll(t *testing.T) {
	for n := range 1 << 17 {
		if s, e := Put(n); s != bytesOf(n) || e != api.OK {
			t.Fatalf("Put(%d) is %x, %d", n, s, e)
		}
	}
	l := good()
	for _, n := range l {
		for _, m := range l {
			if s, e := Put(n, m); s != joined(n, m) || e != api.OK {
				t.Fatalf("Put(%d, %d) is %x, %d", n, m, s, e)
			}
		}
	}
	for _, many := range []int{0, 1, 2, 3, 10, 1000, 100000} {
		l := mixed(many, uint64(many))
		if s, e := Put(l...); s != joined(l...) || e != api.OK {
			t.Fatalf("%d mixed numbers are others as bytes: %d", many, e)
		}
	}
}

func TestPutWrong(t *testing.T) {
	for _, n := range bad {
		for _, l := range [][]int{{n}, {n, 0}, {0, n}, {1, 300, n}, {n, 300, 1}, {Last, n, Last}, {n, n}} {
			if s, e := Put(l...); s != "" || e != api.ErrArg {
				t.Errorf("Put(%d) is %x, %d", l, s, e)
			}
		}
	}
}

func TestSize(t *testing.T) {
	for size := 1; size <= 9; size++ {
		first, last := 0, 1<<(7*size)-1
		if size > 1 {
			first = 1 << (7 * (size - 1))
		}
		for _, n := range []int{first, first + 1, first + (last-first)/2, last - 1, last} {
			if Size(n) != size {
				t.Errorf("Size(%d) is %d, and should be %d", n, Size(n), size)
			}
		}
	}
	for _, n := range good() {
		if Size(n) != len(bytesOf(n)) {
			t.Errorf("Size(%d) is %d", n, Size(n))
		}
	}
	for _, n := range bad {
		if Size(n) != 0 {
			t.Errorf("Size(%d) is %d", n, Size(n))
		}
	}
	if Size(Last) != 9 || Last != math.MaxInt64 {
		t.Errorf("the greatest number is %d, with %d bytes", Last, Size(Last))
	}
}

// P22.2

func TestGet(t *testing.T) {
	eight := strings.Repeat("\x80", 8)
	full := strings.Repeat("\xff", 8)
	for _, r := range []struct {
		s       string
		n, size int
		e       api.Errno
	}{
		{"\x00", 0, 1, api.OK}, {"\x00\x00", 0, 1, api.OK}, {"\x00\x80", 0, 1, api.OK}, {"\x05\xff", 5, 1, api.OK}, {"\x7f", 127, 1, api.OK},
		{"\x80\x01", 128, 2, api.OK}, {"\xac\x02", 300, 2, api.OK}, {"\xac\x02\x80", 300, 2, api.OK}, {"\x80\x80\x01", 16384, 3, api.OK}, {"\x81\x80\x01\x00", 16385, 3, api.OK},
		{eight + "\x01", 1 << 56, 9, api.OK}, {full + "\x7f", Last, 9, api.OK}, {full + "\x7f\x80", Last, 9, api.OK}, {full + "\x01", 1<<57 - 1, 9, api.OK}, {eight + "\x40", 1 << 62, 9, api.OK},
		{"", 0, 0, api.ErrShort}, {"\x80", 0, 0, api.ErrShort}, {"\xff", 0, 0, api.ErrShort}, {"\x80\x80", 0, 0, api.ErrShort}, {eight, 0, 0, api.ErrShort}, {full, 0, 0, api.ErrShort},
		{"\x80\x00", 0, 0, api.ErrForm}, {"\xff\x00", 0, 0, api.ErrForm}, {"\x80\x00\x05", 0, 0, api.ErrForm}, {"\x80\x80\x00", 0, 0, api.ErrForm}, {"\xac\x82\x00", 0, 0, api.ErrForm},
		{eight + "\x00", 0, 0, api.ErrForm}, {full + "\x00", 0, 0, api.ErrForm}, {eight[1:] + "\x00", 0, 0, api.ErrForm},
		{eight + "\x80", 0, 0, api.ErrForm}, {full + "\xff", 0, 0, api.ErrForm}, {eight + "\x80\x01", 0, 0, api.ErrForm}, {full + "\x80\x00", 0, 0, api.ErrForm}, {full + full + full, 0, 0, api.ErrForm},
	} {
		if n, size, e := Get(r.s); n != r.n || size != r.size || e != r.e {
			t.Errorf("Get(%x) is %d, %d, %d, and should be %d, %d, %d", r.s, n, size, e, r.n, r.size, r.e)
		}
	}
}

func TestGetAll(t *testing.T) {
	every := make([]byte, 256)
	for i := range every {
		every[i] = byte(i)
	}
	texts(2, string(every), func(s string) { holdGet(t, s) })
	texts(5, "\x00\x01\x02\x3f\x40\x7e\x7f\x80\x81\xbf\xc0\xfe\xff", func(s string) { holdGet(t, s) })
	texts(10, "\x00\x01\xff", func(s string) { holdGet(t, s) })
	texts(11, "\x7f\x80", func(s string) { holdGet(t, s) })
}

func TestGetLong(t *testing.T) {
	for long := range 40 {
		for _, b := range []string{"\x80", "\x81", "\xc0", "\xff"} {
			for _, last := range []string{"", "\x00", "\x01", "\x02", "\x3f", "\x40", "\x7f"} {
				for _, behind := range []string{"", "\x00", "\x80", "\xff\x01"} {
					holdGet(t, strings.Repeat(b, long)+last+behind)
				}
			}
		}
	}
}

// P22.3

func TestAll(t *testing.T) {
	form := strings.Repeat("\xff", 9)
	for _, r := range []struct {
		s string
		l []int
		e api.Errno
	}{
		{"", nil, api.OK}, {"\x00", []int{0}, api.OK}, {"\x00\x00", []int{0, 0}, api.OK}, {"\xac\x02", []int{300}, api.OK}, {"\x05\xac\x02\x04", []int{5, 300, 4}, api.OK},
		{form[:8] + "\x7f" + form[:8] + "\x7f", []int{Last, Last}, api.OK}, {"\x05\x80\x80\x01", []int{5, 16384}, api.OK},
		{"\x80", nil, api.ErrShort}, {"\x05\x80", nil, api.ErrShort}, {"\x05\x80\x00", nil, api.ErrForm}, {"\x80\x00\x05", nil, api.ErrForm},
		{"\x05" + form, nil, api.ErrForm}, {form, nil, api.ErrForm}, {"\x80\x00\x80", nil, api.ErrForm}, {"\x05" + form[:8], nil, api.ErrShort}, {"\x80\x00" + form, nil, api.ErrForm},
	} {
		if l, e := All(r.s); !slices.Equal(l, r.l) || e != r.e {
			t.Errorf("All(%x) is %d, %d, and should be %d, %d", r.s, l, e, r.l, r.e)
		}
	}
	texts(5, "\x00\x01\x05\x7f\x80\x81\xff", func(s string) { holdAll(t, s) })
	texts(11, "\x01\x80", func(s string) { holdAll(t, s) })
	texts(12, "\x00\xff", func(s string) { holdAll(t, s) })
}

func TestAllMixed(t *testing.T) {
	for _, many := range []int{1, 2, 3, 50, 1000} {
		for seed := range uint64(20) {
			l := mixed(many, seed)
			s := joined(l...)
			if back, e := All(s); !slices.Equal(back, l) || e != api.OK {
				t.Fatalf("All(%x) is %d, %d", s, back, e)
			}
			if back, e := All(s + "\x80"); len(back) != 0 || e != api.ErrShort {
				t.Fatalf("with half a number behind %x, All is %d, %d", s, back, e)
			}
			if back, e := All("\x80\x00" + s); len(back) != 0 || e != api.ErrForm {
				t.Fatalf("with a wrong number ahead of %x, All is %d, %d", s, back, e)
			}
		}
	}
}

// P22.4

func TestRises(t *testing.T) {
	for _, r := range []struct {
		l []int
		s string
		e api.Errno
	}{
		{nil, "\x00", api.OK}, {[]int{}, "\x00", api.OK}, {[]int{1}, "\x01\x01", api.OK}, {[]int{3, 10, 11}, "\x03\x03\x07\x01", api.OK},
		{[]int{5, 6}, "\x02\x05\x01", api.OK}, {[]int{300, 600}, "\x02\xac\x02\xac\x02", api.OK}, {[]int{Last}, "\x01\xff\xff\xff\xff\xff\xff\xff\xff\x7f", api.OK},
		{[]int{Last - 1, Last}, "\x02\xfe\xff\xff\xff\xff\xff\xff\xff\x7f\x01", api.OK}, {[]int{1, Last}, "\x02\x01\xfe\xff\xff\xff\xff\xff\xff\xff\x7f", api.OK},
		{[]int{0}, "", api.ErrForm}, {[]int{0, 1}, "", api.ErrForm}, {[]int{-1}, "", api.ErrForm}, {[]int{-1, 1}, "", api.ErrForm}, {[]int{math.MinInt}, "", api.ErrForm}, {[]int{math.MinInt, math.MinInt + 1}, "", api.ErrForm},
		{[]int{1, 1}, "", api.ErrForm}, {[]int{2, 1}, "", api.ErrForm}, {[]int{1, 2, 2}, "", api.ErrForm}, {[]int{1, 3, 2}, "", api.ErrForm}, {[]int{3, 10, 9, 11}, "", api.ErrForm}, {[]int{Last, Last}, "", api.ErrForm}, {[]int{Last, math.MinInt}, "", api.ErrForm}, {[]int{1, -1}, "", api.ErrForm}, {[]int{5, 0}, "", api.ErrForm},
	} {
		if s, e := Rises(r.l); s != r.s || e != r.e {
			t.Errorf("Rises(%d) is %x, %d, and should be %x, %d", r.l, s, e, r.s, r.e)
		}
	}
}

func holdRises(t *testing.T, l []int) {
	t.Helper()
	want, err := "", api.ErrForm
	if risen(l) {
		want, err = joined(differences(l)...), api.OK
	}
	s, e := Rises(l)
	if s != want || e != err {
		t.Fatalf("Rises(%d) is %x, %d, and should be %x, %d", l, s, e, want, err)
	}
	if e != api.OK {
		return
	}
	for _, most := range mosts {
		holdFalls(t, s+"\x80", most)
	}
	if back, size, e := Falls(s+"\x00\x01", len(l)); !slices.Equal(back, l) || size != len(s) || e != api.OK {
		t.Fatalf("of %d as bytes Falls is %d, %d, %d", l, back, size, e)
	}
	if back, size, e := Falls(s, len(l)-1); len(back) != 0 || size != 0 || e != api.ErrCap {
		t.Fatalf("of %d as bytes, of one less at most, Falls is %d, %d, %d", l, back, size, e)
	}
}

func TestRisesAll(t *testing.T) {
	of := []int{math.MinInt, -1, 0, 1, 2, 3, 127, 128, 129, 256, 1 << 32, Last - 128, Last - 1, Last}
	var l []int
	var grow func()
	grow = func() {
		holdRises(t, l)
		if len(l) == 4 {
			return
		}
		for _, n := range of {
			l = append(l, n)
			grow()
			l = l[:len(l)-1]
		}
	}
	grow()
	edges := good()
	holdRises(t, edges)
	holdRises(t, edges[1:])
	for _, a := range edges {
		for _, b := range edges {
			holdRises(t, []int{a, b})
		}
	}
}

func TestRisesMixed(t *testing.T) {
	for _, many := range []int{1, 2, 10, 127, 128, 129, 1000, 16383, 16384} {
		for seed := range uint64(5) {
			var l []int
			ahead := 0
			for range many {
				seed = next(seed)
				ahead += 1 + int(seed>>20)%(1<<(seed>>60+20))
				l = append(l, ahead)
			}
			holdRises(t, l)
			l[len(l)/2] = 0
			holdRises(t, l)
		}
	}
}

func TestFalls(t *testing.T) {
	last := strings.Repeat("\xff", 8) + "\x7f"
	most := "\xfe" + last[1:]
	for _, r := range []struct {
		s    string
		most int
		l    []int
		size int
		e    api.Errno
	}{
		{"\x00", 0, nil, 1, api.OK}, {"\x00\x05", 9, nil, 1, api.OK}, {"\x03\x03\x07\x01", 3, []int{3, 10, 11}, 4, api.OK}, {"\x02\x05\x01\x09", 2, []int{5, 6}, 3, api.OK}, {"\x02\xac\x02\x01\x80", Last, []int{300, 301}, 4, api.OK},
		{"\x01" + last, 1, []int{Last}, 10, api.OK}, {"\x02" + most + "\x01", 2, []int{Last - 1, Last}, 11, api.OK}, {"\x02\x01" + most, 2, []int{1, Last}, 11, api.OK},
		{"", 5, nil, 0, api.ErrShort}, {"\x80", 5, nil, 0, api.ErrShort}, {"\x80\x00", 5, nil, 0, api.ErrForm}, {last[:8] + "\xff", 5, nil, 0, api.ErrForm},
		{"", -1, nil, 0, api.ErrShort}, {"\x80\x00", -1, nil, 0, api.ErrForm},
		{"\x00", -1, nil, 0, api.ErrCap}, {"\x00", math.MinInt, nil, 0, api.ErrCap}, {"\x01", 0, nil, 0, api.ErrCap}, {"\x03", 2, nil, 0, api.ErrCap}, {"\x03\x00", 2, nil, 0, api.ErrCap}, {"\x03\x80\x00", 2, nil, 0, api.ErrCap}, {"\x03\x05\x01\x09", 2, nil, 0, api.ErrCap}, {last, Last - 1, nil, 0, api.ErrCap},
		{"\x01", 1, nil, 0, api.ErrShort}, {"\x03\x05\x01", 3, nil, 0, api.ErrShort}, {"\x03\x05\x01\x80", 3, nil, 0, api.ErrShort}, {last, Last, nil, 0, api.ErrShort}, {last + "\x05", Last, nil, 0, api.ErrShort},
		{"\x01\x00", 1, nil, 0, api.ErrForm}, {"\x02\x05\x00", 2, nil, 0, api.ErrForm}, {"\x02\x00", 2, nil, 0, api.ErrForm}, {"\x02\x00\x80", 2, nil, 0, api.ErrForm}, {"\x02\x80\x00\x80", 2, nil, 0, api.ErrForm}, {"\x03\x05\x00\x80", 3, nil, 0, api.ErrForm},
		{"\x02\x80", 2, nil, 0, api.ErrShort}, {"\x02" + last + "\x01", 2, nil, 0, api.ErrForm}, {"\x02\x01" + last, 2, nil, 0, api.ErrForm}, {"\x02" + last + last, 2, nil, 0, api.ErrForm}, {"\x03" + most + "\x01\x01", 3, nil, 0, api.ErrForm}, {"\x03" + last + "\x01\x80", 3, nil, 0, api.ErrForm}, {"\x02" + most + "\x02", 2, nil, 0, api.ErrForm},
		{"\x03" + last + "\x80", 3, nil, 0, api.ErrShort}, {"\x02" + last + "\x00", 2, nil, 0, api.ErrForm},
	} {
		if l, size, e := Falls(r.s, r.most); !slices.Equal(l, r.l) || size != r.size || e != r.e {
			t.Errorf("Falls(%x, %d) is %d, %d, %d, and should be %d, %d, %d", r.s, r.most, l, size, e, r.l, r.size, r.e)
		}
	}
}

func TestFallsAll(t *testing.T) {
	texts(5, "\x00\x01\x02\x03\x7f\x80\x81\xff", func(s string) {
		for _, most := range mosts {
			holdFalls(t, s, most)
		}
	})
	// Numbers at whose sums Last is come to, or gone past.
	ends := []string{"\x00", "\x01", "\x80", "\x80\x00", bytesOf(Last), bytesOf(Last - 1), bytesOf(Last/2 + 1), bytesOf(Last / 2), bytesOf(Last / 3), strings.Repeat("\xff", 9)}
	for _, many := range []string{"\x00", "\x01", "\x02", "\x03", "\x04", "\x05", bytesOf(Last)} {
		for _, a := range ends {
			for _, b := range ends {
				for _, c := range ends {
					for _, d := range ends {
						for _, most := range mosts {
							holdFalls(t, many+a+b+c+d, most)
						}
					}
				}
			}
		}
	}
}

// P22.5

func TestLaws(t *testing.T) {
	check := func(n int) {
		s, e := Put(n)
		if e != api.OK || len(s) < 1 || len(s) > 9 || len(s) != Size(n) {
			t.Fatalf("Put(%d) is %x, %d, and Size %d", n, s, e, Size(n))
		}
		for _, behind := range []string{"", "\x00", "\x80", "\xff\xff\xff\xff\xff\xff\xff\xff\xff"} {
			if back, size, e := Get(s + behind); back != n || size != len(s) || e != api.OK {
				t.Fatalf("Get(%x) is %d, %d, %d, and %d was put", s+behind, back, size, e, n)
			}
		}
		for short := range len(s) {
			if back, size, e := Get(s[:short]); back != 0 || size != 0 || e != api.ErrShort {
				t.Fatalf("Get(%x) is %d, %d, %d", s[:short], back, size, e)
			}
		}
	}
	for n := range 1 << 17 {
		check(n)
	}
	for _, n := range append(good(), mixed(100000, 1)...) {
		check(n)
	}
}

func TestReadHasJustTheseBytes(t *testing.T) {
	texts(6, "\x00\x01\x02\x7f\x80\xff", func(s string) {
		if n, size, e := Get(s); e == api.OK {
			if back, e := Put(n); back != s[:size] || e != api.OK {
				t.Fatalf("Get(%x) is %d, whose bytes are %x, %d", s, n, back, e)
			}
		}
		if l, e := All(s); e == api.OK {
			if back, e := Put(l...); back != s || e != api.OK {
				t.Fatalf("All(%x) is %d, whose bytes are %x, %d", s, l, back, e)
			}
		}
		if l, size, e := Falls(s, 3); e == api.OK {
			if back, e := Rises(l); back != s[:size] || e != api.OK {
				t.Fatalf("Falls(%x) is %d, whose bytes are %x, %d", s, l, back, e)
			}
		}
	})
}

// What is handed in stays as it is, and what lies behind its length has no part in it; answers are on their own.

func TestMemory(t *testing.T) {
	kept := []int{3, 10, 11, -5, -6, -7}
	l := kept[:3]
	if s, e := Put(l...); s != "\x03\x0a\x0b" || e != api.OK {
		t.Errorf("Put is %x, %d", s, e)
	}
	if s, e := Rises(l); s != "\x03\x03\x07\x01" || e != api.OK {
		t.Errorf("Rises is %x, %d", s, e)
	}
	if s, e := Rises(kept[:0]); s != "\x00" || e != api.OK {
		t.Errorf("Rises is %x, %d", s, e)
	}
	if s, e := Put(kept...); s != "" || e != api.ErrArg {
		t.Errorf("Put is %x, %d", s, e)
	}
	if s, e := Rises(kept); s != "" || e != api.ErrForm {
		t.Errorf("Rises is %x, %d", s, e)
	}
	if !slices.Equal(kept, []int{3, 10, 11, -5, -6, -7}) {
		t.Errorf("what was handed in is %d now", kept)
	}
	for _, read := range []func() []int{
		func() []int { l, _ := All("\x05\x06\x07"); return l },
		func() []int { l, _, _ := Falls("\x03\x05\x01\x01", 3); return l },
	} {
		one, other := read(), read()
		clear(one)
		_ = append(one, 9)
		if !slices.Equal(other, []int{5, 6, 7}) || !slices.Equal(read(), []int{5, 6, 7}) {
			t.Errorf("one answer is written to another: %d", other)
		}
	}
}

// Of a number of numbers that is only said no room is made: there would be none.

func TestFallsRoom(t *testing.T) {
	for _, many := range []int{1 << 40, 1 << 60, Last} {
		for _, behind := range []string{"", "\x01", "\x01\x01\x80"} {
			if l, size, e := Falls(bytesOf(many)+behind, Last); len(l) != 0 || size != 0 || e != api.ErrShort {
				t.Errorf("of %d numbers, of which only %x is there, Falls is %d, %d, %d", many, behind, l, size, e)
			}
		}
	}
}

// Many numbers are written and read in a time that grows as they do.

func TestMany(t *testing.T) {
	var l []int
	for n := range 1 << 20 {
		l = append(l, 3*n+1)
	}
	s, e := Rises(l)
	if e != api.OK {
		t.Fatal(e)
	}
	if back, size, e := Falls(s, len(l)); !slices.Equal(back, l) || size != len(s) || e != api.OK {
		t.Fatalf("of %d numbers %d are read, of %d bytes %d: %d", len(l), len(back), len(s), size, e)
	}
	if back, e := All(s); len(back) != len(l)+1 || e != api.OK {
		t.Fatalf("%d numbers are read: %d", len(back), e)
	}
}
