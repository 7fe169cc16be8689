package trim

import (
	"fmt"
	"math"
	"math/big"
	"slices"
	"testing"
)

const (
	least    = math.MinInt64
	greatest = math.MaxInt64
)

// counts are the numbers that the chapter's edges of Fault are, and some about them.
var counts = []int{math.MinInt, math.MinInt + 1, -2, -1, 0, 1, 2, 3, 4, 5, 6, 7, math.MaxInt - 2, math.MaxInt - 1, math.MaxInt}

// edges are readings out of which all short lists are made. Most sums of them are no int64.
var edges = []int64{least, least + 1, -1, 0, 1, greatest - 1, greatest}

// wild are numbers all over int64.
var wild = []int64{
	least, least + 1, least + 2, least + 3, -1<<62 - 1, -1 << 62, -1<<62 + 1, -1 << 60, -1<<53 - 1, -1 << 40,
	-1<<32 - 1, -1 << 32, -1<<32 + 1, math.MinInt32 - 1, math.MinInt32, -1 << 16, -1025, -1024, -100, -10, -5, -4, -3, -2, -1,
	0, 1, 2, 3, 4, 5, 10, 100, 1024, 1025, 1 << 16, math.MaxInt32, 1 << 31, 1<<32 - 1, 1 << 32, 1<<32 + 1,
	1 << 40, 1<<53 + 1, 1 << 60, 1<<62 - 1, 1 << 62, 1<<62 + 1, greatest - 3, greatest - 2, greatest - 1, greatest,
}

// chance answers numbers of no rule, the same ones each time.
func chance(x uint64) func() uint64 {
	return func() uint64 {
		x ^= x << 13
		x ^= x >> 7
		x ^= x << 17
		return x >> 8
	}
}

// below draws a number from 0 on below n.
func below(next func() uint64, n int) int { return int(next() % uint64(n)) }

// whole draws a number out of the whole of int64, most of them by few bits.
func whole(next func() uint64) int64 {
	switch below(next, 4) {
	case 0:
		return wild[below(next, len(wild))]
	case 1:
		return wild[below(next, len(wild))] + int64(below(next, 5)) - 2 // it may go round: that is a number, too
	}
	return int64(next()<<8^next()) >> below(next, 64)
}

// drawn draws a list: of numbers all over int64, near one another, near one end of it, or out of few.
func drawn(next func() uint64, n int) []int64 {
	kind, about := below(next, 5), whole(next)>>1
	l := make([]int64, n)
	for k := range l {
		switch kind {
		case 0:
			l[k] = whole(next)
		case 1:
			l[k] = about + int64(below(next, 50)) - 25
		case 2:
			l[k] = greatest - int64(below(next, 2*n+2))
		case 3:
			l[k] = least + int64(below(next, 2*n+2))
		default:
			l[k] = int64(below(next, 4)) - 2
		}
	}
	return l
}

// mixed is a list in an order of no rule.
func mixed(next func() uint64, l []int64) []int64 {
	l = slices.Clone(l)
	for k := range l {
		j := below(next, k+1)
		l[k], l[j] = l[j], l[k]
	}
	return l
}

// lists goes over all lists of n numbers out of some. One list is used for all of them.
func lists(out []int64, n int, ask func(l []int64)) {
	l := make([]int64, n)
	var fill func(k int)
	fill = func(k int) {
		if k == n {
			ask(l)
			return
		}
		for _, x := range out {
			l[k] = x
			fill(k + 1)
		}
	}
	fill(0)
}

// many is n readings, all alike.
func many(n int, x int64) []int64 {
	l := make([]int64, n)
	for k := range l {
		l[k] = x
	}
	return l
}

// faults are all f that are asked of n readings: from -1 to one more than there are, and both ends.
func faults(n int) []int {
	l := []int{math.MinInt, math.MaxInt}
	for f := -1; f <= n+1; f++ {
		l = append(l, f)
	}
	return l
}

// The chapter read plainly, by whole numbers without ends, and by taking one after the other.

func plainFault(m, f int) int {
	if m < 1 || f < 1 {
		return 0
	}
	most := new(big.Int).Sub(big.NewInt(int64(m)), big.NewInt(1))
	most.Div(most, big.NewInt(2))
	if big.NewInt(int64(f)).Cmp(most) > 0 {
		return int(most.Int64())
	}
	return f
}

// plainSort puts each one behind all that are not greater.
func plainSort(l []int64) []int64 {
	var rising []int64
	for _, x := range l {
		k := 0
		for k < len(rising) && rising[k] <= x {
			k++
		}
		rising = slices.Insert(rising, k, x)
	}
	return rising
}

// plainTrim strikes out the least and the greatest of what is left, again and again.
func plainTrim(f int, l []int64) []int64 {
	left := slices.Clone(l)
	for range plainFault(len(l), f) {
		lo, hi := 0, 0
		for k, x := range left {
			if x < left[lo] {
				lo = k
			}
			if x >= left[hi] {
				hi = k
			}
		}
		left = slices.Delete(left, max(lo, hi), max(lo, hi)+1)
		left = slices.Delete(left, min(lo, hi), min(lo, hi)+1)
	}
	return plainSort(left)
}

func plainSum(l []int64) *big.Int {
	sum := new(big.Int)
	for _, x := range l {
		sum.Add(sum, big.NewInt(x))
	}
	return sum
}

// plainMean is rounded down: big's Div is, by a number above 0.
func plainMean(l []int64) *big.Int { return new(big.Int).Div(plainSum(l), big.NewInt(int64(len(l)))) }

func plainMiddle(f int, l []int64) (int64, bool) {
	if len(l) == 0 {
		return 0, false
	}
	x := plainMean(plainTrim(f, l))
	if !x.IsInt64() {
		panic("a mean is no int64")
	}
	return x.Int64(), true
}

// faulty, sorts, trims and middles hold a call against what is wanted.

func faulty(t *testing.T, m, f, want int) {
	t.Helper()
	if got := Fault(m, f); got != want {
		t.Fatalf("Fault(%d, %d): %d; wanted %d", m, f, got, want)
	}
}

func sorts(t *testing.T, l, want []int64) {
	t.Helper()
	was := slices.Clone(l)
	if got := Sort(l...); !slices.Equal(got, want) {
		t.Fatalf("Sort(%s): %s; wanted %s", some(was), some(got), some(want))
	}
	stays(t, "Sort", was, l)
}

func trims(t *testing.T, f int, l, want []int64) {
	t.Helper()
	was := slices.Clone(l)
	if got := Trim(f, l...); !slices.Equal(got, want) {
		t.Fatalf("Trim(%d, %s): %s; wanted %s", f, some(was), some(got), some(want))
	}
	stays(t, "Trim", was, l)
}

func middles(t *testing.T, f int, l []int64, want int64, is bool) {
	t.Helper()
	was := slices.Clone(l)
	if got, ok := Middle(f, l...); got != want || ok != is {
		t.Fatalf("Middle(%d, %s): %d, %v; wanted %d, %v", f, some(was), got, ok, want, is)
	}
	stays(t, "Middle", was, l)
}

// stays is whether a list is as it was.
func stays(t *testing.T, call string, was, is []int64) {
	t.Helper()
	if !slices.Equal(was, is) {
		t.Fatalf("behind %s the list %s is %s", call, some(was), some(is))
	}
}

// some is a list as text, or the beginning of a long one.
func some(l []int64) string {
	if len(l) > 40 {
		return fmt.Sprintf("%d and so on, %d of them", l[:40], len(l))
	}
	return fmt.Sprint(l)
}

// plainly holds all calls about a list against the chapter read plainly.
func plainly(t *testing.T, f int, l []int64) {
	t.Helper()
	faulty(t, len(l), f, plainFault(len(l), f))
	sorts(t, l, plainSort(l))
	trims(t, f, l, plainTrim(f, l))
	want, is := plainMiddle(f, l)
	middles(t, f, l, want, is)
}

// The chapter's examples.
func TestExample(t *testing.T) {
	l := []int64{5, -100, 7, 6}
	trims(t, 1, l, []int64{5, 6})
	middles(t, 1, l, 5, true)
	faulty(t, 4, 3, 1)
}

// P24.1

func TestFaultByHand(t *testing.T) {
	const top = math.MaxInt
	for _, r := range []struct{ m, f, want int }{
		{0, 0, 0}, {0, 1, 0}, {1, 0, 0}, {1, 1, 0}, {1, 2, 0}, {2, 1, 0}, {2, 2, 0}, {2, top, 0}, // nothing may be left out
		{3, 0, 0}, {3, 1, 1}, {3, 2, 1}, {3, 3, 1}, {3, top, 1},
		{4, 0, 0}, {4, 1, 1}, {4, 2, 1}, {4, 3, 1}, {4, 4, 1}, {4, top, 1},
		{5, 1, 1}, {5, 2, 2}, {5, 3, 2}, {5, 4, 2}, {5, 5, 2}, {5, top, 2},
		{6, 1, 1}, {6, 2, 2}, {6, 3, 2}, {7, 2, 2}, {7, 3, 3}, {7, 4, 3},
		{64, 3, 3}, {64, 30, 30}, {64, 31, 31}, {64, 32, 31}, {63, 30, 30}, {63, 31, 31}, {63, 32, 31},
		{top, 1, 1}, {top, 5, 5}, {top, top/2 - 1, top/2 - 1}, {top, top / 2, top / 2}, {top, top/2 + 1, top / 2}, {top, top, top / 2}, // odd
		{top - 1, top/2 - 2, top/2 - 2}, {top - 1, top/2 - 1, top/2 - 1}, {top - 1, top / 2, top/2 - 1}, {top - 1, top, top/2 - 1}, // even
		{-1, 1, 0}, {-1, 0, 0}, {-1, -1, 0}, {-5, 5, 0}, {-5, -5, 0}, {0, -1, 0}, {1, -1, 0}, {5, -1, 0}, {5, -2, 0}, {5, -5, 0},
		{math.MinInt, math.MinInt, 0}, {math.MinInt, 5, 0}, {5, math.MinInt, 0}, {0, math.MinInt, 0}, {math.MinInt, 0, 0},
		{math.MinInt, top, 0}, {top, math.MinInt, 0}, {top, -1, 0}, {-1, top, 0}, {top, 0, 0}, {0, top, 0}, {1, top, 0},
	} {
		faulty(t, r.m, r.f, r.want)
	}
}

func TestFaultAtTheEdges(t *testing.T) {
	for _, m := range counts {
		for _, f := range counts {
			faulty(t, m, f, plainFault(m, f))
		}
	}
	for _, m := range wild {
		for _, f := range wild {
			faulty(t, int(m), int(f), plainFault(int(m), int(f)))
		}
	}
	for m := -5; m <= 300; m++ {
		for f := -5; f <= 310; f++ {
			faulty(t, m, f, plainFault(m, f))
		}
	}
}

// About half of m - 1, of small and great m, even and odd ones.
func TestFaultAboutHalf(t *testing.T) {
	for bit := range 63 {
		for more := -3; more <= 3; more++ {
			m := 1<<bit + more
			if m < 1 {
				continue
			}
			half := m / 2 // of an odd m
			if m%2 == 0 {
				half--
			}
			for f := max(half-3, 1); f <= half; f++ {
				faulty(t, m, f, f)
			}
			for f := half + 1; f <= half+3; f++ {
				faulty(t, m, f, half)
			}
			faulty(t, m, m, half)
		}
	}
}

func TestFaultByChance(t *testing.T) {
	next := chance(241)
	var cut, kept, none int
	for range 200000 {
		m, f := int(whole(next)), int(whole(next))
		if below(next, 3) == 0 {
			f = m/2 + below(next, 5) - 2
		}
		want := plainFault(m, f)
		faulty(t, m, f, want)
		switch {
		case want == 0:
			none++
		case want == f:
			kept++
		default:
			cut++
		}
	}
	if cut < 10000 || kept < 10000 || none < 10000 {
		t.Error("too few:", cut, kept, none)
	}
}

// P24.2

func TestSortByHand(t *testing.T) {
	for _, r := range []struct{ l, want []int64 }{
		{nil, nil},
		{[]int64{}, nil},
		{[]int64{0}, []int64{0}},
		{[]int64{least}, []int64{least}},
		{[]int64{greatest}, []int64{greatest}},
		{[]int64{7, 7}, []int64{7, 7}},
		{[]int64{1, 2}, []int64{1, 2}},
		{[]int64{2, 1}, []int64{1, 2}},
		{[]int64{greatest, least}, []int64{least, greatest}},
		{[]int64{3, 3, 3, 3, 3}, []int64{3, 3, 3, 3, 3}},
		{[]int64{1, 2, 3, 4, 5}, []int64{1, 2, 3, 4, 5}},
		{[]int64{5, 4, 3, 2, 1}, []int64{1, 2, 3, 4, 5}},
		{[]int64{5, -100, 7, 6}, []int64{-100, 5, 6, 7}},
		{[]int64{2, -1, 2, -1, 0, 2}, []int64{-1, -1, 0, 2, 2, 2}},
		{[]int64{0, greatest, -1, least, 1, greatest, least}, []int64{least, least, -1, 0, 1, greatest, greatest}},
	} {
		sorts(t, r.l, r.want)
	}
}

func TestTrimByHand(t *testing.T) {
	const top = math.MaxInt
	for _, r := range []struct {
		f       int
		l, want []int64
	}{
		{0, nil, nil}, {1, nil, nil}, {-1, nil, nil}, {top, nil, nil}, {math.MinInt, nil, nil}, {1, []int64{}, nil},
		{0, []int64{9}, []int64{9}}, {1, []int64{9}, []int64{9}}, {-1, []int64{9}, []int64{9}}, {top, []int64{9}, []int64{9}},
		{0, []int64{9, 8}, []int64{8, 9}}, {1, []int64{9, 8}, []int64{8, 9}}, {2, []int64{8, 9}, []int64{8, 9}}, {top, []int64{9, 8}, []int64{8, 9}},
		{1, []int64{8, 8}, []int64{8, 8}},
		{0, []int64{3, 1, 2}, []int64{1, 2, 3}}, {1, []int64{3, 1, 2}, []int64{2}}, {2, []int64{3, 1, 2}, []int64{2}}, {top, []int64{3, 1, 2}, []int64{2}},
		{1, []int64{1, 2, 3}, []int64{2}}, {1, []int64{3, 2, 1}, []int64{2}}, {1, []int64{1, 1, 3}, []int64{1}}, {1, []int64{1, 3, 3}, []int64{3}},
		{1, []int64{4, 1, 3, 2}, []int64{2, 3}}, {2, []int64{4, 1, 3, 2}, []int64{2, 3}}, {4, []int64{4, 1, 3, 2}, []int64{2, 3}}, {5, []int64{4, 1, 3, 2}, []int64{2, 3}},
		{1, []int64{5, 1, 4, 2, 3}, []int64{2, 3, 4}}, {2, []int64{5, 1, 4, 2, 3}, []int64{3}}, {3, []int64{5, 1, 4, 2, 3}, []int64{3}},
		{-1, []int64{5, 1, 4, 2, 3}, []int64{1, 2, 3, 4, 5}}, {math.MinInt, []int64{5, 1, 4, 2, 3}, []int64{1, 2, 3, 4, 5}}, {0, []int64{5, 1, 4, 2, 3}, []int64{1, 2, 3, 4, 5}},
		{2, []int64{6, 1, 5, 2, 4, 3}, []int64{3, 4}}, {3, []int64{6, 1, 5, 2, 4, 3}, []int64{3, 4}}, {6, []int64{6, 1, 5, 2, 4, 3}, []int64{3, 4}}, {7, []int64{6, 1, 5, 2, 4, 3}, []int64{3, 4}},
		{1, []int64{6, 6, 6, 6}, []int64{6, 6}}, {2, []int64{6, 6, 6, 6, 6, 6}, []int64{6, 6}},
		{1, []int64{greatest, least, 0}, []int64{0}}, {1, []int64{greatest, least, least}, []int64{least}}, {1, []int64{greatest, least, greatest}, []int64{greatest}},
		{0, []int64{greatest, least, 0}, []int64{least, 0, greatest}},
		{1, []int64{greatest, least, greatest, least}, []int64{least, greatest}},
	} {
		trims(t, r.f, r.l, r.want)
	}
}

// What Sort tells is all that was handed in and nothing else, told without sorting anything.
func TestSortHasAll(t *testing.T) {
	next := chance(242)
	for n := range 400 {
		l := drawn(next, n)
		were := map[int64]int{}
		for _, x := range l {
			were[x]++
		}
		got := Sort(l...)
		for k, x := range got {
			were[x]--
			if were[x] < 0 || k > 0 && got[k-1] > x {
				t.Fatalf("Sort(%d): %d", l, got)
			}
		}
		if len(got) != len(l) {
			t.Fatalf("Sort(%d): %d", l, got)
		}
	}
}

// Of n numbers in a row, in three orders: what is left lies about the middle.
func TestTrimOfRows(t *testing.T) {
	next := chance(243)
	for n := range 100 {
		var row []int64
		for k := range n {
			row = append(row, int64(k)-40)
		}
		falling := slices.Clone(row)
		slices.Reverse(falling)
		for _, f := range faults(n) {
			out := 0
			if n > 0 {
				out = min(max(f, 0), (n-1)/2)
			}
			want := row[out : n-out]
			if n > 0 && len(want) < 1 || n > 1 && n%2 == 0 && len(want) < 2 {
				t.Fatal("too few are left:", n, f)
			}
			trims(t, f, row, want)
			trims(t, f, falling, want)
			trims(t, f, mixed(next, row), want)
		}
	}
}

// However many may be wrong, one or two are left, if there is any.
func TestSomeAreLeft(t *testing.T) {
	for n := 1; n < 50; n++ {
		for _, f := range []int{n / 2, n/2 + 1, n - 1, n, n + 1, 2 * n, math.MaxInt/2 + 1, math.MaxInt - 1, math.MaxInt} {
			if got, want := len(Trim(f, many(n, 3)...)), 2-n%2; got != want {
				t.Errorf("of %d, %d of them wrong: %d are left; wanted %d", n, f, got, want)
			}
		}
	}
}

// P24.3

func TestMiddleByHand(t *testing.T) {
	const top = math.MaxInt
	for _, r := range []struct {
		f    int
		l    []int64
		want int64
		is   bool
	}{
		{0, nil, 0, false}, {1, nil, 0, false}, {-1, nil, 0, false}, {top, nil, 0, false}, {math.MinInt, nil, 0, false}, {1, []int64{}, 0, false},
		{0, []int64{0}, 0, true}, {1, []int64{0}, 0, true},
		{0, []int64{5}, 5, true}, {1, []int64{5}, 5, true}, {-1, []int64{-5}, -5, true}, {top, []int64{-5}, -5, true}, {math.MinInt, []int64{1}, 1, true},
		{0, []int64{least}, least, true}, {1, []int64{least}, least, true}, {0, []int64{greatest}, greatest, true}, {top, []int64{greatest}, greatest, true},
		{0, []int64{1, 2}, 1, true}, {0, []int64{2, 1}, 1, true}, {1, []int64{1, 2}, 1, true}, {0, []int64{4, 7}, 5, true}, // odd sums
		{0, []int64{-1, -2}, -2, true}, {0, []int64{-2, -1}, -2, true}, {0, []int64{-4, -7}, -6, true}, {0, []int64{-1, 0}, -1, true}, {0, []int64{0, 1}, 0, true},
		{0, []int64{-3, 2}, -1, true}, {0, []int64{3, -2}, 0, true}, {0, []int64{-1, 1}, 0, true}, {0, []int64{-1, -1}, -1, true},
		{0, []int64{0, 0, -1}, -1, true}, {0, []int64{0, 0, 0, 0, -1}, -1, true}, {0, []int64{0, 0, 2}, 0, true}, {0, []int64{-1, -1, -2}, -2, true},
		{0, []int64{-1, -2, -3}, -2, true}, {0, []int64{-1, -1, 1}, -1, true}, {0, []int64{1, 1, -1}, 0, true},
		{0, []int64{5, -100, 7, 6}, -21, true}, {0, []int64{5, -100, 7, 8}, -20, true}, {1, []int64{5, -100, 7, 8}, 6, true},
		{1, []int64{9, 1, 4}, 4, true}, {2, []int64{9, 1, 4}, 4, true}, {-1, []int64{9, 1, 4}, 4, true}, {0, []int64{9, 1, 5}, 5, true},
		{0, []int64{greatest, greatest}, greatest, true}, {0, []int64{greatest, greatest - 1}, greatest - 1, true}, {0, []int64{greatest, greatest, greatest - 1}, greatest - 1, true},
		{0, []int64{least, least}, least, true}, {0, []int64{least, least + 1}, least, true}, {0, []int64{least, least, least + 2}, least, true}, {0, []int64{least, least, least + 3}, least + 1, true},
		{0, []int64{least, greatest}, -1, true}, {0, []int64{greatest, least}, -1, true}, {0, []int64{least, 0, greatest}, -1, true}, {1, []int64{least, 0, greatest}, 0, true},
		{0, []int64{greatest, greatest, greatest}, greatest, true}, {0, []int64{least, least, least}, least, true}, // of three, quotients that are rounded down come too low
		{0, []int64{greatest, greatest, least}, 3074457345618258602, true}, {0, []int64{greatest, least, least}, -3074457345618258603, true},
		{1, []int64{greatest, greatest, least, least}, -1, true}, {0, []int64{greatest, least, 1, 0}, 0, true},
		{0, []int64{greatest, 1}, 1 << 62, true}, {0, []int64{greatest, 2}, 1 << 62, true}, {0, []int64{greatest, 3}, 1<<62 + 1, true},
		{0, []int64{least, -1}, -1<<62 - 1, true}, {0, []int64{least, -2}, -1<<62 - 1, true},
	} {
		middles(t, r.f, r.l, r.want, r.is)
	}
}

// All short lists out of small numbers and out of edges, with all f.
func TestShortLists(t *testing.T) {
	for n := range 5 {
		lists(edges, n, func(l []int64) {
			for _, f := range faults(n) {
				plainly(t, f, l)
			}
		})
	}
	for n := range 7 {
		lists([]int64{-2, -1, 0, 3}, n, func(l []int64) {
			for f := -1; f <= n+1; f++ {
				plainly(t, f, l)
			}
		})
	}
	for n := range 10 {
		lists([]int64{least, greatest}, n, func(l []int64) {
			for f := -1; f <= n+1; f++ {
				plainly(t, f, l)
			}
		})
	}
}

func TestPairs(t *testing.T) {
	for _, a := range wild {
		for _, b := range wild {
			for _, f := range []int{-1, 0, 1, 2} {
				plainly(t, f, []int64{a, b})
			}
			plainly(t, 0, []int64{a, b, a})
			plainly(t, 1, []int64{b, b, a, a})
			for _, c := range wild {
				want, is := plainMiddle(0, []int64{a, b, c})
				middles(t, 0, []int64{a, b, c}, want, is)
			}
		}
	}
}

// By chance, with every f from -1 to one more than there are.
func TestListsByChance(t *testing.T) {
	next := chance(244)
	for n := range 41 {
		for range 60 {
			l := drawn(next, n)
			for _, f := range faults(n) {
				plainly(t, f, l)
			}
		}
	}
	for range 300 {
		n := 1 + below(next, 300)
		plainly(t, below(next, n+3)-1, drawn(next, n))
	}
}

// Sums beyond both ends of int64, by what each list is made of: all alike, all but one alike, and many of both ends.
func TestSumsBeyondTheEnds(t *testing.T) {
	next := chance(245)
	for n := 1; n < 300; n++ {
		for _, x := range []int64{least, least + 1, -1 << 62, 1 << 62, greatest - 1, greatest} {
			middles(t, n%7, many(n, x), x, true)
		}
		middles(t, 0, append(many(n, greatest), greatest-1), greatest-1, true)
		middles(t, 0, append(many(n, least), least+int64(n)), least, true)
		middles(t, 0, append(many(n, least), least+int64(n)+1), least+1, true)
		middles(t, 0, append(many(n, greatest), many(n, least)...), -1, true)
		for _, l := range [][]int64{
			append(many(n, greatest), many(n+1, least)...),
			append(many(n, least), many(n+1, greatest)...),
			append(many(n, greatest), 0, least),
			append(many(n, least), 0, greatest),
			append(many(n, greatest), many(1+below(next, n), least)...),
			append(many(n, least), many(1+below(next, n), greatest-5)...),
		} {
			l = mixed(next, l)
			for _, f := range []int{0, 1, n % 5, n / 2} {
				want, is := plainMiddle(f, l)
				middles(t, f, l, want, is)
			}
		}
	}
}

// Each number of readings, and each sum that leaves less than so many: the middle is rounded down, on either side of 0 and
// near both ends of int64.
func TestRoundedDown(t *testing.T) {
	next := chance(254)
	for n := 1; n < 60; n++ {
		for _, x := range []int64{least, least + 1000, -1 << 40, -1000, -1, 0, 1, 1000, 1 << 40, greatest - 1000, greatest - 60} {
			for more := range n {
				l := many(n, x)
				for k := range more {
					l[k]++
				}
				middles(t, 0, mixed(next, l), x, true)
				l = many(n, x)
				l[below(next, n)] += int64(more)
				middles(t, 0, l, x, true)
			}
			l := many(n, x)
			l[below(next, n)] += int64(n)
			middles(t, 0, l, x+1, true)
		}
	}
}

// As many readings as a test can bear.
func TestMany(t *testing.T) {
	n := 1 << 24
	if testing.Short() {
		n = 1 << 16
	}
	ask := func(f int, l []int64, want int64) {
		t.Helper()
		if got, ok := Middle(f, l...); got != want || !ok {
			t.Errorf("Middle(%d, %d of them, the first one %d): %d, %v; wanted %d", f, len(l), l[0], got, ok, want)
		}
	}
	l := many(n, greatest)
	ask(0, l, greatest)
	ask(n/3, l, greatest)
	ask(math.MaxInt, l, greatest)
	l[n/2] = greatest - 1
	ask(0, l, greatest-1)
	ask(1, l, greatest)
	ask(0, l[1:], greatest-1) // an odd number of them
	for k := range l {
		l[k] = least
	}
	ask(0, l, least)
	ask(n/3, l, least)
	l[n/2] = least + int64(n) - 1
	ask(0, l, least)
	l[n/2]++
	ask(0, l, least+1)
	ask(1, l, least)
	for k := range l {
		l[k] = []int64{greatest, least}[k%2]
	}
	ask(0, l, -1)
	ask(math.MaxInt, l, -1)
	ask(0, l[1:], oneMore(n-1, least, -1))
	ask(0, l[:n-1], oneMore(n-1, greatest, -1))
	ask(math.MaxInt, l[1:], least)
	ask(math.MaxInt, l[:n-1], greatest)
}

// oneMore is the mean of n readings, of which one is x and all others, two by two, come to a sum.
func oneMore(n int, x, two int64) int64 {
	sum := new(big.Int).Mul(big.NewInt(int64(n/2)), big.NewInt(two))
	sum.Add(sum, big.NewInt(x))
	return sum.Div(sum, big.NewInt(int64(n))).Int64()
}

// Many readings of no rule; what Trim leaves is told by a count of those that are less.
func TestManyByChance(t *testing.T) {
	next := chance(246)
	const n = 1<<17 + 1
	for _, shift := range []int{0, 1, 8, 40, 56} {
		l := make([]int64, n)
		for k := range l {
			l[k] = int64(next()<<8^next()) >> shift
		}
		was := slices.Clone(l)
		for _, f := range []int{-1, 0, 1, n / 3, n/2 - 1, n / 2, n, math.MaxInt} {
			out := plainFault(n, f)
			left := Trim(f, l...)
			if len(left) != n-2*out || !slices.IsSorted(left) {
				t.Fatal("Trim", f, len(left))
			}
			within(t, l, left, out)
			want := plainMean(left).Int64()
			if got, ok := Middle(f, l...); got != want || !ok {
				t.Errorf("Middle(%d) of many: %d, %v; wanted %d", f, got, ok, want)
			}
		}
		stays(t, "all calls", was, l)
	}
}

// within is whether just as many of a list are out at each end of what is left as shall be, those that are alike at an end
// counted to either side.
func within(t *testing.T, l, left []int64, out int) {
	t.Helper()
	lo, hi := left[0], left[len(left)-1]
	var under, notOver, over, notUnder int
	for _, x := range l {
		if x < lo {
			under++
		}
		if x <= lo {
			notOver++
		}
		if x > hi {
			over++
		}
		if x >= hi {
			notUnder++
		}
	}
	if under > out || notOver <= out || over > out || notUnder <= out {
		t.Fatal("what is left lies elsewhere:", under, notOver, over, notUnder, out)
	}
}

// The order in which readings come changes nothing.
func TestNoOrder(t *testing.T) {
	next := chance(247)
	for range 2000 {
		n := 1 + below(next, 20)
		l, f := drawn(next, n), below(next, n+3)-1
		rising, left := Sort(l...), Trim(f, l...)
		mid, _ := Middle(f, l...)
		for range 5 {
			l = mixed(next, l)
			sorts(t, l, rising)
			trims(t, f, l, left)
			middles(t, f, l, mid, true)
		}
	}
}

// Lists that are handed in stay, also beyond their length; and no answer shares anything with them, or with another answer.

func TestListsStay(t *testing.T) {
	for _, n := range []int{0, 1, 2, 3, 4, 5, 12, 13, 100, 1000} {
		all := make([]int64, n+8)
		for k := range all {
			all[k] = int64(7*k%(n+8)) - 3
		}
		was := slices.Clone(all)
		for _, f := range faults(min(n, 20)) {
			l := all[4 : 4+n] // there is room on either side
			Sort(l...)
			stays(t, "Sort", was, all)
			Trim(f, l...)
			stays(t, "Trim", was, all)
			Middle(f, l...)
			stays(t, "Middle", was, all)
		}
	}
}

func TestNothingIsShared(t *testing.T) {
	next := chance(248)
	for n := range 40 {
		for kind := range 3 {
			l := drawn(next, n)
			switch kind {
			case 1:
				slices.Sort(l)
			case 2:
				l = many(n, 5)
			}
			l = append(l, 1, 2, 3, 4)[:n] // with room behind
			for _, f := range faults(n) {
				apart(t, l, func(l []int64) []int64 { return Trim(f, l...) })
			}
			apart(t, l, func(l []int64) []int64 { return Sort(l...) })
		}
	}
}

// apart is whether two answers of a call and the list that was handed in share nothing, up to their capacities.
func apart(t *testing.T, l []int64, call func(l []int64) []int64) {
	t.Helper()
	all := slices.Clone(l[:cap(l)])
	one, two := call(l), call(l)
	was := slices.Clone(two)
	spoil(one)
	stays(t, "a spoiled answer", all, l[:cap(l)])
	stays(t, "another spoiled answer", was, two)
	spoil(l)
	stays(t, "a spoiled list", was, two)
	copy(l[:cap(l)], all)
}

// spoil changes all of a list, and what may be written behind it.
func spoil(l []int64) {
	l = l[:cap(l)]
	for k := range l {
		l[k] ^= 0x5555
	}
}

// What was answered once is answered again: nothing is kept.
func TestAgain(t *testing.T) {
	a, b := []int64{5, -100, 7, 6}, []int64{1, 2, 3}
	for range 3 {
		trims(t, 1, a, []int64{5, 6})
		trims(t, 1, b, []int64{2})
		middles(t, 1, a, 5, true)
		middles(t, 1, b, 2, true)
		middles(t, 1, nil, 0, false)
		faulty(t, 5, 2, 2)
		faulty(t, 4, 2, 1)
	}
}

// P24.4

// between is whether Middle of a list lies from the least to the greatest one of others.
func between(t *testing.T, f int, l, others []int64) {
	t.Helper()
	x, ok := Middle(f, l...)
	if !ok || x < slices.Min(others) || x > slices.Max(others) {
		t.Fatalf("Middle(%d, %s): %d, %v; the others: %s", f, some(l), x, ok, some(others))
	}
}

func TestMiddleWithinTrim(t *testing.T) {
	next := chance(249)
	for n := 1; n < 60; n++ {
		for range 40 {
			l := drawn(next, n)
			for f := -1; f <= n+1; f++ {
				between(t, f, l, Trim(f, l...))
			}
		}
	}
	for n := 1; n < 6; n++ {
		lists([]int64{least, -1, 0, greatest}, n, func(l []int64) {
			for f := -1; f <= n+1; f++ {
				between(t, f, l, Trim(f, l...))
			}
		})
	}
}

// size is how far two numbers are apart.
func size(a, b int64) uint64 { return uint64(max(a, b)) - uint64(min(a, b)) }

// shifted is a number and another one, kept within int64.
func shifted(x, by int64) int64 {
	switch {
	case by > 0 && x > greatest-by:
		return greatest
	case by < 0 && x < least-by:
		return least
	}
	return x + by
}

// Each reading is changed by at most d: by chance, by just d all one way, and by turns.
func TestChangedByLittle(t *testing.T) {
	next := chance(250)
	for range 30000 {
		n := 1 + below(next, 25)
		l, d := drawn(next, n), whole(next)&greatest
		if below(next, 2) == 0 {
			d = int64(below(next, 60))
		}
		m, kind := slices.Clone(l), below(next, 5)
		for k := range m {
			by := []int64{d, -d, d - 2*d*int64(k%2), 0, 0}[kind]
			if kind == 3 {
				by = int64(next()<<8^next()) % max(d, 1)
			}
			if kind == 4 && k == n/2 {
				by = d
			}
			m[k] = shifted(l[k], by)
		}
		for f := -1; f <= n+1; f++ {
			little(t, f, l, m, uint64(d))
		}
	}
}

// little is whether Middle is changed by at most d from a list to another one.
func little(t *testing.T, f int, l, m []int64, d uint64) {
	t.Helper()
	x, ok := Middle(f, l...)
	y, is := Middle(f, m...)
	if !ok || !is || size(x, y) > d {
		t.Fatalf("Middle(%d) of %s and of %s: %d and %d; changed by %d at most", f, some(l), some(m), x, y, d)
	}
}

// All one way by just d: Middle is, too.
func TestMovedTogether(t *testing.T) {
	next := chance(251)
	for range 5000 {
		n := 1 + below(next, 25)
		l := make([]int64, n)
		for k := range l {
			l[k] = (int64(next()<<8^next()) >> (2 + below(next, 61)))
		}
		d := whole(next) >> 1 >> below(next, 60)
		m := slices.Clone(l)
		for k := range m {
			m[k] += d
		}
		for f := -1; f <= n+1; f++ {
			x, _ := Middle(f, l...)
			middles(t, f, m, x+d, true)
		}
	}
}

// All short lists, each reading changed by one or not, in all ways.
func TestChangedByOne(t *testing.T) {
	for n := 1; n < 5; n++ {
		lists([]int64{-2, -1, 0, 1}, n, func(l []int64) {
			m := slices.Clone(l)
			lists([]int64{-1, 0, 1}, n, func(by []int64) {
				for k := range m {
					m[k] = l[k] + by[k]
				}
				for f := range n {
					little(t, f, l, m, 1)
				}
			})
		})
	}
}

// wrong is what a wrong reading may be.
func wrong(next func() uint64, kind, k int) int64 {
	switch kind {
	case 0:
		return least
	case 1:
		return greatest
	case 2: // on both sides
		return []int64{least, greatest}[k%2]
	case 3: // on both sides, near
		return []int64{-2000, 2000}[k%2]
	}
	return whole(next)
}

// At most Fault of the readings are anything at all.
func TestFewWrongOnes(t *testing.T) {
	next := chance(252)
	asked := 0
	for range 20000 {
		n := 1 + below(next, 30)
		l, f := drawn(next, n), below(next, n+2)
		if below(next, 2) == 0 {
			for k := range l {
				l[k] = int64(below(next, 1000)) - 500
			}
		}
		for kind := range 5 {
			bad := below(next, Fault(n, f)+1)
			if kind%2 == 0 {
				bad = Fault(n, f)
			}
			m := slices.Clone(l)
			for k := range bad {
				m[k] = wrong(next, kind, k)
			}
			between(t, f, m, l[bad:])
			between(t, f, mixed(next, m), l[bad:])
			if bad > 0 {
				asked++
			}
		}
	}
	if asked < 30000 {
		t.Error("too few:", asked)
	}
}

// All short lists of good readings, with all wrong ones out of few.
func TestFewWrongOnesOfShortLists(t *testing.T) {
	for n := 1; n < 7; n++ {
		for bad := range (n-1)/2 + 1 {
			l := make([]int64, n)
			lists([]int64{-1, 0, 2}, n-bad, func(good []int64) {
				copy(l, good)
				lists([]int64{least, -2, 1, greatest}, bad, func(others []int64) {
					copy(l[n-bad:], others)
					between(t, bad, l, good)
					between(t, n, l, good)
				})
			})
		}
	}
}

// One more that is wrong than are left out may move it beyond the others: the tests above would tell.
func TestOneMoreMovesIt(t *testing.T) {
	for n := 1; n < 30; n++ {
		for f := range n/2 + 1 {
			bad := Fault(n, f) + 1
			l := append(many(n-bad, 10), many(bad, greatest)...)
			if x, _ := Middle(f, l...); x <= 10 {
				t.Errorf("%d of %d are wrong, %d left out: Middle is %d", bad, n, bad-1, x)
			}
		}
	}
}

// The readings of the chapter that all is held against, by hand.
func TestPlain(t *testing.T) {
	if plainFault(4, 3) != 1 || plainFault(5, 2) != 2 || plainFault(5, 9) != 2 || plainFault(5, -1) != 0 || plainFault(math.MinInt, 2) != 0 {
		t.Error("plainFault")
	}
	if !slices.Equal(plainSort([]int64{3, least, 3, -1}), []int64{least, -1, 3, 3}) {
		t.Error("plainSort")
	}
	if !slices.Equal(plainTrim(1, []int64{5, -100, 7, 6}), []int64{5, 6}) || !slices.Equal(plainTrim(9, []int64{4, 4, 4, 4}), []int64{4, 4}) {
		t.Error("plainTrim")
	}
	if x, ok := plainMiddle(1, []int64{5, -100, 7, 6}); x != 5 || !ok {
		t.Error("plainMiddle", x, ok)
	}
	if x, ok := plainMiddle(0, []int64{-1, -2}); x != -2 || !ok {
		t.Error("plainMiddle below 0", x, ok)
	}
	if _, ok := plainMiddle(0, nil); ok {
		t.Error("plainMiddle of none")
	}
}
