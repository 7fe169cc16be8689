package nodes

import (
	"fmt"
	"math"
	"slices"
	"strings"
	"testing"

	"angelus/api"
)

const (
	none = api.Set(0)
	full = api.Set(math.MaxUint64)
)

// strays are numbers that are no nodes; some would be one, if only their lower bits were taken or their sign lost.
var strays = []int{
	math.MinInt, math.MinInt + 1, math.MinInt32, -1 << 32, -129, -128, -65, -64, -63, -2, -1,
	64, 65, 67, 127, 128, 256, 259, 1 << 16, math.MaxInt32, 1 << 32, 1<<32 + 3, math.MaxInt - 1, math.MaxInt,
}

// numbers are the strays and all nodes.
func numbers() []int {
	l := slices.Clone(strays)
	for i := 0; i < 64; i++ {
		l = append(l, i)
	}
	return l
}

// sets are none, all, each node alone, all but it, all below it and from it on, some pairs, and some of no rule.
func sets() []api.Set {
	l := []api.Set{none, full, 0x5555555555555555, 0xaaaaaaaaaaaaaaaa, 1<<63 | 1, 1<<32 | 1<<31, 1<<63 | 1<<62, 3}
	for i := 0; i < 64; i++ {
		one := api.Set(1) << i
		l = append(l, one, full-one, one-1, full-(one-1))
	}
	x := uint64(0x0123456789abcdef)
	for i := 0; i < 200; i++ {
		x ^= x << 13
		x ^= x >> 7
		x ^= x << 17
		l = append(l, api.Set(x), api.Set(x&(x>>9)), api.Set(x|(x<<5)))
	}
	return l
}

// in is what api says of a set: node i is in it, if bit i is 1.
func in(s api.Set, i int) bool {
	if i < 0 || i > 63 {
		return false
	}
	for ; i > 0; i-- {
		s /= 2
	}
	return s%2 == 1
}

// members are the nodes of a set, rising.
func members(s api.Set) []int {
	l := []int{}
	for i := 0; i < 64; i++ {
		if in(s, i) {
			l = append(l, i)
		}
	}
	return l
}

// lists are handed in to Of, With and Without: in order and out of it, with twins, with strays among them, with strays alone.
func lists() [][]int {
	l := [][]int{
		nil, {}, {0}, {63}, {0, 63}, {63, 0}, {5, 5}, {5, 5, 5, 0, 5}, {3, 1, 64}, {-1, 0, 63, 64},
		strays, numbers(), {1, 3, 5}, {5, 3, 1}, {31, 32, 33},
	}
	for _, x := range strays {
		l = append(l, []int{x}, []int{7, x, 2})
	}
	return l
}

// P3.1

func TestOf(t *testing.T) {
	for _, r := range []struct {
		l    []int
		want api.Set
	}{
		{nil, none},
		{[]int{}, none},
		{[]int{0}, 1},
		{[]int{1}, 2},
		{[]int{63}, 1 << 63},
		{[]int{0, 63}, 1<<63 + 1},
		{[]int{3, 1, 64}, 10}, // the chapter's example
		{[]int{1, 3, 5}, 42},
		{[]int{5, 3, 1}, 42},
		{[]int{4, 4, 4}, 16},
		{[]int{-1}, none}, // wrong ones
		{[]int{64}, none},
		{[]int{-1, 2, 64}, 4},
		{strays, none},
		{numbers(), full},
	} {
		if s := Of(r.l...); s != r.want {
			t.Errorf("Of(%v): %#x; wanted %#x", r.l, s, r.want)
		}
	}
	for _, l := range lists() {
		s := Of(l...)
		for i := 0; i < 64; i++ {
			if in(s, i) != slices.Contains(l, i) {
				t.Errorf("Of(%v): %#x is wrong of %d", l, s, i)
			}
		}
	}
}

func TestAll(t *testing.T) {
	for _, r := range []struct {
		n    int
		want api.Set
	}{
		{0, none},
		{1, 1},
		{2, 3},
		{3, 7},
		{10, 1023},
		{32, 1<<32 - 1},
		{62, 1<<62 - 1},
		{63, 1<<63 - 1},
		{64, full},
		{-1, none}, // beyond the ends
		{-64, none},
		{-3, none},
		{math.MinInt, none},
		{65, full},
		{128, full},
		{99, full},
		{1 << 32, full},
		{math.MaxInt, full},
	} {
		if s := All(r.n); s != r.want {
			t.Errorf("All(%d): %#x; wanted %#x", r.n, s, r.want)
		}
	}
	for _, n := range numbers() {
		s := All(n)
		for i := 0; i < 64; i++ {
			if in(s, i) != (i < n) {
				t.Errorf("All(%d): %#x is wrong of %d", n, s, i)
			}
		}
	}
}

func TestHas(t *testing.T) {
	for _, r := range []struct {
		s    api.Set
		i    int
		want bool
	}{
		{none, 0, false},
		{none, 63, false},
		{1, 0, true},
		{1, 1, false},
		{2, 1, true},
		{1 << 63, 63, true},
		{1 << 63, 62, false},
		{full, 0, true},
		{full, 63, true},
		{full, -1, false}, // wrong ones
		{full, 64, false},
		{full, 128, false},
		{full, math.MinInt, false},
		{full, math.MaxInt, false},
	} {
		if got := Has(r.s, r.i); got != r.want {
			t.Errorf("Has(%#x, %d): %v", r.s, r.i, got)
		}
	}
	for _, s := range sets() {
		for _, i := range numbers() {
			if got := Has(s, i); got != in(s, i) {
				t.Errorf("Has(%#x, %d): %v", s, i, got)
			}
		}
	}
}

func TestWithAndWithout(t *testing.T) {
	for _, r := range []struct {
		s             api.Set
		l             []int
		with, without api.Set
	}{
		{none, nil, none, none},
		{full, nil, full, full},
		{42, nil, 42, 42},
		{none, []int{0}, 1, none},
		{none, []int{63}, 1 << 63, none},
		{full, []int{0}, full, full - 1},
		{full, []int{63}, full, 1<<63 - 1},
		{full, []int{63, 0, 63}, full, 1<<63 - 2},
		{42, []int{3, 3, 0}, 43, 34},
		{42, []int{5, 3, 1}, 42, none},
		{42, []int{0, 2, 4}, 63, 42},
		{none, numbers(), full, none},
		{full, numbers(), full, none},
		{none, strays, none, none}, // wrong ones do nothing
		{full, strays, full, full},
		{42, []int{-1, 3, 64}, 42, 34},
		{42, []int{-1, 2, 64}, 46, 42},
	} {
		if s := With(r.s, r.l...); s != r.with {
			t.Errorf("With(%#x, %v): %#x; wanted %#x", r.s, r.l, s, r.with)
		}
		if s := Without(r.s, r.l...); s != r.without {
			t.Errorf("Without(%#x, %v): %#x; wanted %#x", r.s, r.l, s, r.without)
		}
	}
	for _, s := range sets() {
		for _, l := range lists() {
			with, without := With(s, l...), Without(s, l...)
			for i := 0; i < 64; i++ {
				if in(with, i) != (in(s, i) || slices.Contains(l, i)) {
					t.Errorf("With(%#x, %v): %#x is wrong of %d", s, l, with, i)
				}
				if in(without, i) != (in(s, i) && !slices.Contains(l, i)) {
					t.Errorf("Without(%#x, %v): %#x is wrong of %d", s, l, without, i)
				}
			}
		}
	}
}

// What is handed in is not changed.
func TestNodesHandedInStay(t *testing.T) {
	for _, l := range lists() {
		was := slices.Clone(l)
		Of(l...)
		With(42, l...)
		Without(full, l...)
		if !slices.Equal(l, was) {
			t.Errorf("%v was changed to %v", was, l)
		}
	}
}

// P3.2

func TestCountLeastList(t *testing.T) {
	for _, r := range []struct {
		s            api.Set
		count, least int
		list         []int
	}{
		{none, 0, -1, nil},
		{1, 1, 0, []int{0}},
		{2, 1, 1, []int{1}},
		{10, 2, 1, []int{1, 3}}, // the chapter's example
		{42, 3, 1, []int{1, 3, 5}},
		{1 << 63, 1, 63, []int{63}},
		{1<<63 + 1, 2, 0, []int{0, 63}},
		{1<<32 + 1<<31, 2, 31, []int{31, 32}},
		{1<<63 + 1<<40 + 1<<7, 3, 7, []int{7, 40, 63}},
	} {
		if n := Count(r.s); n != r.count {
			t.Errorf("Count(%#x): %d; wanted %d", r.s, n, r.count)
		}
		if i := Least(r.s); i != r.least {
			t.Errorf("Least(%#x): %d; wanted %d", r.s, i, r.least)
		}
		if l := List(r.s); !slices.Equal(l, r.list) {
			t.Errorf("List(%#x): %v; wanted %v", r.s, l, r.list)
		}
	}
	if Count(full) != 64 || Least(full) != 0 || len(List(full)) != 64 {
		t.Errorf("all 64: %d, %d, %v", Count(full), Least(full), List(full))
	}
	for _, s := range sets() {
		want, least := members(s), -1
		if len(want) > 0 {
			least = want[0]
		}
		if n := Count(s); n != len(want) {
			t.Errorf("Count(%#x): %d; wanted %d", s, n, len(want))
		}
		if i := Least(s); i != least {
			t.Errorf("Least(%#x): %d; wanted %d", s, i, least)
		}
		if l := List(s); !slices.Equal(l, want) {
			t.Errorf("List(%#x): %v; wanted %v", s, l, want)
		}
	}
}

// Lists share nothing, so that whoever has one may change it.
func TestListsAreNew(t *testing.T) {
	a, b := List(42), List(42)
	clear(a)
	if want := []int{1, 3, 5}; !slices.Equal(b, want) || !slices.Equal(List(42), want) {
		t.Errorf("List(0x2a): %v, %v, when another was changed", b, List(42))
	}
}

func TestEach(t *testing.T) {
	for _, s := range sets() {
		want, all := members(s), Each(s)
		for time := 1; time <= 2; time++ { // what Each answers may be gone over again
			var got []int
			for i := range all {
				got = append(got, i)
			}
			if !slices.Equal(got, want) {
				t.Errorf("Each(%#x), time %d: %v; wanted %v", s, time, got, want)
			}
		}
	}
}

func TestEachLeftEarly(t *testing.T) {
	for _, s := range sets() {
		want, all := members(s), Each(s)
		for k := 1; k <= len(want); k++ {
			var got []int
			all(func(i int) bool { // no range statement: it would hide what comes behind its end
				got = append(got, i)
				return len(got) < k
			})
			if !slices.Equal(got, want[:k]) {
				t.Errorf("Each(%#x), left at number %d: %v; wanted %v", s, k, got, want[:k])
			}
		}
		var again []int
		for i := range all {
			again = append(again, i)
		}
		if !slices.Equal(again, want) {
			t.Errorf("Each(%#x), behind one that was left early: %v; wanted %v", s, again, want)
		}
	}
}

// One going amid another over the same nodes does not disturb it.
func TestEachAmidEach(t *testing.T) {
	all := Each(Of(0, 31, 63))
	var got []int
	for a := range all {
		for b := range all {
			if b > a {
				break
			}
			got = append(got, a, b)
		}
	}
	if want := []int{0, 0, 31, 0, 31, 31, 63, 0, 63, 31, 63, 63}; !slices.Equal(got, want) {
		t.Errorf("Each amid Each: %v; wanted %v", got, want)
	}
}

// P3.3

func TestFirst(t *testing.T) {
	for _, r := range []struct {
		s    api.Set
		k    int
		want api.Set
	}{
		{none, 0, none},
		{none, 1, none},
		{none, 64, none},
		{none, math.MaxInt, none},
		{none, math.MinInt, none},
		{42, 1, 2},
		{42, 2, 10}, // the chapter's example
		{42, 3, 42},
		{42, 4, 42}, // beyond all
		{42, 64, 42},
		{42, 65, 42},
		{42, 1 << 32, 42},
		{42, math.MaxInt, 42},
		{42, 0, none}, // below 1
		{42, -1, none},
		{42, -3, none},
		{42, math.MinInt, none},
		{full, 0, none},
		{full, 1, 1},
		{full, 63, 1<<63 - 1},
		{full, 64, full},
		{full, 65, full},
		{full, -1, none},
		{1 << 63, 1, 1 << 63},
		{1<<63 + 1, 1, 1},
		{1<<63 + 1, 2, 1<<63 + 1},
	} {
		if s := First(r.s, r.k); s != r.want {
			t.Errorf("First(%#x, %d): %#x; wanted %#x", r.s, r.k, s, r.want)
		}
	}
	for _, s := range sets() {
		all := members(s)
		for _, k := range numbers() {
			want := all[:min(max(k, 0), len(all))]
			if got := members(First(s, k)); !slices.Equal(got, want) {
				t.Errorf("First(%#x, %d): %v; wanted %v", s, k, got, want)
			}
		}
	}
}

func TestBelow(t *testing.T) {
	for _, r := range []struct {
		s       api.Set
		i, want int
	}{
		{none, 0, 0},
		{none, 63, 0},
		{none, math.MaxInt, 0},
		{10, 3, 1}, // the chapter's example
		{10, 0, 0},
		{10, 1, 0},
		{10, 2, 1},
		{10, 4, 2},
		{10, 63, 2},
		{full, 0, 0},
		{full, 1, 1},
		{full, 32, 32},
		{full, 63, 63},
		{1 << 63, 63, 0},
		{full, 64, 64}, // beyond all nodes: all are below
		{full, 65, 64},
		{full, 99, 64},
		{1 << 63, 64, 1},
		{full, 1 << 32, 64},
		{full, math.MaxInt, 64},
		{full, -1, 0}, // ahead of them: none is
		{full, -64, 0},
		{full, math.MinInt, 0},
	} {
		if n := Below(r.s, r.i); n != r.want {
			t.Errorf("Below(%#x, %d): %d; wanted %d", r.s, r.i, n, r.want)
		}
	}
	for _, s := range sets() {
		all := members(s)
		for _, i := range numbers() {
			want := 0
			for _, m := range all {
				if m < i {
					want++
				}
			}
			if n := Below(s, i); n != want {
				t.Errorf("Below(%#x, %d): %d; wanted %d", s, i, n, want)
			}
		}
	}
}

// P3.4

func TestText(t *testing.T) {
	for _, r := range []struct {
		s    api.Set
		want string
	}{
		{none, "-"},
		{1, "0"},
		{2, "1"},
		{10, "1,3"}, // the chapter's example
		{1 << 9, "9"},
		{1<<9 + 1<<10, "9,10"},
		{1 << 63, "63"},
		{1<<63 + 1, "0,63"},
		{1<<63 + 1<<5 + 1, "0,5,63"},
		{full, "0,1,2,3,4,5,6,7,8,9,10,11,12,13,14,15,16,17,18,19,20,21,22,23,24,25,26,27,28,29,30,31," +
			"32,33,34,35,36,37,38,39,40,41,42,43,44,45,46,47,48,49,50,51,52,53,54,55,56,57,58,59,60,61,62,63"},
	} {
		if got := Text(r.s); got != r.want {
			t.Errorf("Text(%#x): %q; wanted %q", r.s, got, r.want)
		}
	}
	for _, s := range sets() {
		if s == none {
			continue
		}
		want := strings.ReplaceAll(strings.Trim(fmt.Sprint(members(s)), "[]"), " ", ",")
		if got := Text(s); got != want {
			t.Errorf("Text(%#x): %q; wanted %q", s, got, want)
		}
	}
}

// P3.5

func TestSetIsOfItsList(t *testing.T) {
	for _, s := range sets() {
		l := List(s)
		if got := Of(l...); got != s {
			t.Errorf("Of(List(%#x)): %#x", s, got)
		}
		slices.Reverse(l)
		if got := Of(append(l, l...)...); got != s {
			t.Errorf("Of(List(%#x)), falling and twice: %#x", s, got)
		}
	}
}

func TestWhatFirstLeaves(t *testing.T) {
	for _, s := range sets() {
		for _, k := range numbers() {
			first := First(s, k)
			if n, want := Count(first), min(max(k, 0), Count(s)); n != want {
				t.Errorf("First(%#x, %d): %d nodes; wanted %d", s, k, n, want)
			}
			for i := range Each(first) {
				if !Has(s, i) {
					t.Errorf("First(%#x, %d): %d is none of the set", s, k, i)
				}
			}
			left := Without(s, List(first)...)
			for i := range Each(first) {
				if Below(left, i) != 0 {
					t.Errorf("First(%#x, %d): what is left, %s, has nodes below %d", s, k, Text(left), i)
				}
			}
		}
	}
}
