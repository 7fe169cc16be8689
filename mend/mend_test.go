package mend

import (
	"fmt"
	"math"
	"math/big"
	"slices"
	"testing"

	"angelus/api"
	"angelus/trim"
)

const (
	least    = math.MinInt64
	greatest = math.MaxInt64
	span     = 1 << 40 // the greatest number that is not kept
	all      = api.Set(math.MaxUint64)
)

// ends are the numbers that the chapter names, and those beside them.
var ends = []int64{least, -span - 1, -span, -span + 1, -1, 0, 1, span - 1, span, span + 1, greatest}

// few are those out of which all short lists are made.
var few = []int64{least, -span - 1, -1, 0, span, greatest}

// wild are numbers all over int64.
var wild = []int64{
	least, least + 1, -1<<62 - 1, -1 << 62, -1 << 60, -1<<53 - 1, -1<<41 - 1, -1 << 41, -1<<40 - 1, -1 << 40, -1<<40 + 1, -1 << 39,
	-1<<32 - 1, -1 << 32, math.MinInt32, -1 << 16, -1025, -1024, -1000, -100, -65, -64, -63, -10, -5, -3, -2, -1, 0, 1, 2, 3, 5, 10,
	62, 63, 64, 65, 100, 1000, 1023, 1024, 1025, 1 << 16, 1 << 30, math.MaxInt32, 1 << 31, 1<<32 + 1, 1 << 39, 1<<40 - 1, 1 << 40,
	1<<40 + 1, 1<<41 - 1, 1 << 41, 1<<53 + 1, 1 << 60, 1<<62 - 1, 1 << 62, greatest - 1, greatest,
}

// chance answers numbers of no rule, the same ones each time.
func chance(x uint64) func() uint64 {
	return func() uint64 {
		x ^= x << 13
		x ^= x >> 7
		x ^= x << 17
		return x >> 8
	}
}

// below draws a number from 0 on below n.
func below(next func() uint64, n int) int { return int(next() % uint64(n)) }

// from draws a number from lo to hi.
func from(next func() uint64, lo, hi int64) int64 { return lo + int64(next()%uint64(hi-lo+1)) }

// whole draws a number out of the whole of int64, most of them by few bits.
func whole(next func() uint64) int64 {
	switch below(next, 4) {
	case 0:
		return wild[below(next, len(wild))]
	case 1:
		return wild[below(next, len(wild))] + int64(below(next, 5)) - 2 // it may go round: that is a number, too
	}
	return int64(next()<<8^next()) >> below(next, 64)
}

// bits draws a set: of all nodes, of few, of those ahead of some node, or of any.
func bits(next func() uint64) api.Set {
	any := api.Set(next()<<40 ^ next())
	switch below(next, 5) {
	case 0:
		return all
	case 1:
		return any & api.Set(next()<<40^next()) & api.Set(next()<<40^next())
	case 2:
		return all >> below(next, 64)
	}
	return any
}

// drawn draws n numbers: all over int64, near one another, near an end, or out of few.
func drawn(next func() uint64, n int) []int64 {
	kind, about := below(next, 6), from(next, -span, span)
	l := make([]int64, n)
	for k := range l {
		switch kind {
		case 0:
			l[k] = whole(next)
		case 1:
			l[k] = about + from(next, -25, 25)
		case 2:
			l[k] = span + from(next, -4, 4)
		case 3:
			l[k] = -span + from(next, -4, 4)
		case 4:
			l[k] = ends[below(next, len(ends))]
		default:
			l[k] = from(next, -2, 2)
		}
	}
	return l
}

// rows draws by how much readings are wrong of about n clocks: none, fewer or more rows, some of them nil, shorter or longer.
func rows(next func() uint64, n int) [][]int64 {
	if below(next, 6) == 0 {
		return nil
	}
	err := make([][]int64, near(next, n))
	for p := range err {
		if below(next, 5) > 0 {
			err[p] = drawn(next, near(next, n))
		}
	}
	return err
}

// near draws how long a list is beside n clocks.
func near(next func() uint64, n int) int {
	switch below(next, 4) {
	case 0:
		return below(next, n+1)
	case 1:
		return n + below(next, 4)
	}
	return n
}

// turn draws one of n clocks.
func turn(next func() uint64, n int) Turn {
	t := Turn{Set: bits(next), Err: rows(next, n)}
	if below(next, 6) > 0 {
		t.Drift = drawn(next, near(next, n))
	}
	return t
}

// fault draws an f, most of them about half of a few.
func fault(next func() uint64) int {
	switch below(next, 8) {
	case 0:
		return []int{math.MinInt, -1, math.MaxInt, 1 << 32, -1 << 32, 64}[below(next, 6)]
	case 1:
		return below(next, 40)
	}
	return below(next, 5)
}

// same is n numbers, all alike.
func same(n int, x int64) []int64 {
	l := make([]int64, n)
	for k := range l {
		l[k] = x
	}
	return l
}

// square is n rows of n numbers, all alike.
func square(n int, x int64) [][]int64 {
	err := make([][]int64, n)
	for p := range err {
		err[p] = same(n, x)
	}
	return err
}

// set adds up what each node's bit counts.
func set(l ...int) api.Set {
	var s api.Set
	for _, i := range l {
		bit := api.Set(1)
		for range i {
			bit *= 2
		}
		s |= bit
	}
	return s
}

// in is whether a node is in a set, told by halving it.
func in(s api.Set, i int) bool {
	for range i {
		s /= 2
	}
	return s%2 == 1
}

// plain is the number at a place of a list as it counts, without an end.
func plain(l []int64, k int) *big.Int {
	x := new(big.Int)
	if k < len(l) {
		x.SetInt64(l[k])
	}
	end := big.NewInt(span)
	if x.Cmp(end) > 0 {
		return end
	}
	if end.Neg(end); x.Cmp(end) < 0 {
		return end
	}
	return x
}

// plainMiddle is the mean, rounded down, of what is left once the least and the greatest were struck out f times, as long as
// one is left. Of none it is 0.
func plainMiddle(f int, l []*big.Int) *big.Int {
	left := slices.Clone(l)
	slices.SortFunc(left, func(a, b *big.Int) int { return a.Cmp(b) })
	for ; f > 0 && len(left) > 2; f-- {
		left = left[1 : len(left)-1]
	}
	sum := new(big.Int)
	if len(left) == 0 {
		return sum
	}
	for _, x := range left {
		sum.Add(sum, x)
	}
	return sum.Div(sum, big.NewInt(int64(len(left)))) // big's Div is rounded down, by a number above 0
}

// plainOne is P27.1 word by word.
func plainOne(c []int64, t Turn, f int) []int64 {
	var behind []int64
	for p := range c {
		var l []*big.Int
		for q := range c {
			if q > 63 || !in(t.Set, q) {
				continue
			}
			x := new(big.Int).Sub(plain(c, q), plain(c, p))
			if p < len(t.Err) {
				x.Add(x, plain(t.Err[p], q))
			}
			l = append(l, x)
		}
		x := plainMiddle(f, l)
		x.Add(x, plain(c, p))
		x.Add(x, plain(t.Drift, p))
		behind = append(behind, x.Int64())
	}
	return behind
}

// plainRun is P27.2's.
func plainRun(c []int64, f int, l []Turn) []int64 {
	for _, t := range l {
		c = plainOne(c, t, f)
	}
	return c
}

// plainSpread is the greatest difference of any two.
func plainSpread(c []int64, s api.Set) (int64, bool) {
	apart, is := new(big.Int), false
	for p := range min(len(c), 64) {
		for q := range min(len(c), 64) {
			if !in(s, p) || !in(s, q) {
				continue
			}
			is = true
			if x := new(big.Int).Sub(plain(c, p), plain(c, q)); x.Cmp(apart) > 0 {
				apart = x
			}
		}
	}
	return apart.Int64(), is
}

// copied is a turn that shares nothing with another.
func copied(t Turn) Turn {
	t.Drift = slices.Clone(t.Drift)
	t.Err = slices.Clone(t.Err)
	for p, l := range t.Err {
		t.Err[p] = slices.Clone(l)
	}
	return t
}

// alike is whether two turns are the same.
func alike(a, b Turn) bool {
	return a.Set == b.Set && slices.Equal(a.Drift, b.Drift) && slices.EqualFunc(a.Err, b.Err, slices.Equal[[]int64])
}

// some is a list as text, or the beginning of a long one.
func some[T any](l []T) string {
	if len(l) > 12 {
		return fmt.Sprintf("%v and so on, %d of them", l[:12], len(l))
	}
	return fmt.Sprint(l)
}

// one holds One against what is wanted, and against what was handed in, which it shall not change.
func one(t *testing.T, c []int64, turn Turn, f int, want []int64) {
	t.Helper()
	was, had := slices.Clone(c), copied(turn)
	got := One(c, turn, f)
	if !slices.Equal(got, want) {
		t.Fatalf("One(%s, {Set %x, Err %s, Drift %s}, %d): %s; wanted %s", some(c), turn.Set, some(turn.Err), some(turn.Drift), f, some(got), some(want))
	}
	if !slices.Equal(c, was) || !alike(turn, had) {
		t.Fatalf("One changed what it was handed: %s and %v; was %s and %v", some(c), turn, some(was), had)
	}
}

// ones holds One against the chapter read plainly.
func ones(t *testing.T, c []int64, turn Turn, f int) {
	t.Helper()
	one(t, c, turn, f, plainOne(c, turn, f))
}

// runs holds Run against the chapter read plainly, and against One again and again.
func runs(t *testing.T, c []int64, f int, l ...Turn) {
	t.Helper()
	was := slices.Clone(c)
	var had []Turn
	for _, x := range l {
		had = append(had, copied(x))
	}
	got, want, again := Run(c, f, l...), plainRun(c, f, l), c
	for _, x := range l {
		again = One(again, x, f)
	}
	if !slices.Equal(got, want) || !slices.Equal(got, again) {
		t.Fatalf("Run(%s, %d, %d turns): %s; wanted %s; One again and again: %s", some(c), f, len(l), some(got), some(want), some(again))
	}
	if !slices.Equal(c, was) || !slices.EqualFunc(l, had, alike) {
		t.Fatalf("Run changed what it was handed: %s; was %s", some(c), some(was))
	}
}

// apart holds Spread against what is wanted.
func apart(t *testing.T, c []int64, s api.Set, want int64, is bool) {
	t.Helper()
	was := slices.Clone(c)
	if got, ok := Spread(c, s); got != want || ok != is {
		t.Fatalf("Spread(%s, %x): %d, %v; wanted %d, %v", some(c), s, got, ok, want, is)
	}
	if !slices.Equal(c, was) {
		t.Fatalf("Spread changed what it was handed: %s; was %s", some(c), some(was))
	}
}

// aparts holds Spread against the chapter read plainly.
func aparts(t *testing.T, c []int64, s api.Set) {
	t.Helper()
	want, is := plainSpread(c, s)
	apart(t, c, s, want, is)
}

// halves are all f that are asked of a Set with n clocks: half of them, one less and one more, and the ends.
func halves(n int) []int {
	l := []int{math.MinInt, math.MinInt + 1, -1, 0, 1, 2, n/2 - 1, n / 2, n/2 + 1, n - 1, n, n + 1, math.MaxInt - 1, math.MaxInt}
	slices.Sort(l)
	return slices.Compact(l)
}

// lists goes over all lists of n numbers out of some. One list is used for all of them.
func lists(out []int64, n int, ask func(l []int64)) {
	l := make([]int64, n)
	var fill func(k int)
	fill = func(k int) {
		if k == n {
			ask(l)
			return
		}
		for _, x := range out {
			l[k] = x
			fill(k + 1)
		}
	}
	fill(0)
}

// sets are those that are asked of n clocks: none, each end, all, some, and such as have nodes that are no clocks.
func sets(n int) []api.Set {
	l := []api.Set{0, 1, 2, set(63), set(0, 63), all, all - 1, all / 2, 0x5555555555555555, 0xaaaaaaaaaaaaaaaa, set(1, 5, 7, 40)}
	if n < 64 {
		clocks := set(n) - 1
		l = append(l, clocks, ^clocks, set(n), clocks|set(n), clocks/2)
	}
	return l
}

// The limit that the chapter's numbers are kept by.
func TestLimits(t *testing.T) {
	if api.MaxSpan != span || api.MaxNodes != 64 {
		t.Error(api.MaxSpan, api.MaxNodes)
	}
}

// The plain readings by hand.
func TestPlain(t *testing.T) {
	for _, x := range []struct {
		f    int
		l    []int64
		want int64
	}{
		{0, nil, 0}, {1, []int64{7}, 7}, {0, []int64{1, 2}, 1}, {5, []int64{-1, -2}, -2}, {1, []int64{9, 1, 5}, 5},
		{1, []int64{5, 7, -100, 6}, 5}, {2, []int64{1, 2, 30, 4, 5}, 4}, {1, []int64{1, 2, 30, 4, 5}, 3}, {-1, []int64{3, 3, 3, 2}, 2},
	} {
		var l []*big.Int
		for _, y := range x.l {
			l = append(l, big.NewInt(y))
		}
		if got := plainMiddle(x.f, l); got.Int64() != x.want {
			t.Errorf("the plain middle of %v with f %d: %d; wanted %d", x.l, x.f, got, x.want)
		}
		if got, _ := trim.Middle(x.f, x.l...); got != x.want {
			t.Errorf("Middle(%d, %v): %d; wanted %d", x.f, x.l, got, x.want)
		}
	}
	for x, want := range map[int64]int64{least: -span, -span - 1: -span, -span: -span, -span + 1: -span + 1, 0: 0, span - 1: span - 1, span: span, span + 1: span, greatest: span} {
		if got := plain([]int64{5, x}, 1).Int64(); got != want {
			t.Errorf("%d counts as %d; wanted %d", x, got, want)
		}
	}
	if x := plain([]int64{5}, 1).Int64(); x != 0 {
		t.Error("what a list does not have counts as", x)
	}
	if set() != 0 || set(0) != 1 || set(63) != 1<<63 || set(1, 3, 1) != 10 || in(5, 1) || !in(5, 2) || !in(1<<63, 63) || in(1<<62, 63) {
		t.Error("sets")
	}
	if got := plainOne([]int64{10, 40, 70}, Turn{Set: 7}, 1); !slices.Equal(got, []int64{40, 40, 40}) {
		t.Error(got)
	}
	if x, ok := plainSpread([]int64{10, 40, 75}, 6); x != 35 || !ok {
		t.Error(x, ok)
	}
	if x, ok := plainSpread([]int64{10, 40, 75}, 8); x != 0 || ok {
		t.Error(x, ok)
	}
}

// The chapter's example.
func TestExample(t *testing.T) {
	one(t, []int64{10, 40, 70}, Turn{Set: 7}, 1, []int64{40, 40, 40})
}

// P27.1

func TestOneByHand(t *testing.T) {
	for _, x := range []struct {
		c    []int64
		turn Turn
		f    int
		want []int64
	}{
		{[]int64{10, 40, 70}, Turn{Set: 7, Drift: []int64{1, -2, 3}}, 1, []int64{41, 38, 43}},
		{[]int64{10, 40, 70}, Turn{Set: 7, Err: square(3, 5)}, 1, []int64{45, 45, 45}},
		{[]int64{10, 40, 71}, Turn{Set: 7}, 0, []int64{40, 40, 40}},
		{[]int64{-10, -40, -71}, Turn{Set: 7}, 0, []int64{-41, -41, -41}},      // rounded down
		{[]int64{10, 41}, Turn{Set: 3}, 5, []int64{25, 25}},                    // of two none is left out
		{[]int64{10, 40, 70, 1000}, Turn{Set: 7}, 1, []int64{40, 40, 40, 40}},  // 3 goes by the Set, and is not in it
		{[]int64{10, 40, 70, 1000}, Turn{Set: 15}, 1, []int64{55, 55, 55, 55}}, // of four one at each end is left out
		{[]int64{10, 40, 70, 1000}, Turn{Set: 15}, 0, []int64{280, 280, 280, 280}},
		{[]int64{10, 40, 70}, Turn{Set: 1}, 1, []int64{10, 10, 10}},
		{[]int64{10, 40, 70}, Turn{Set: 4}, 1, []int64{70, 70, 70}},
		{[]int64{10, 40, 70}, Turn{Set: 0}, 1, []int64{10, 40, 70}},
		{[]int64{10, 40, 70}, Turn{Set: 1 << 3}, 1, []int64{10, 40, 70}},
		{[]int64{10, 40, 70}, Turn{Set: 1<<3 | 1<<1}, 1, []int64{40, 40, 40}},
		{[]int64{10, 40, 70}, Turn{Set: 0, Drift: []int64{5, 6}}, 1, []int64{15, 46, 70}},                          // Drift alone
		{[]int64{10, 40, 70}, Turn{Set: 0, Err: square(3, 9), Drift: []int64{5, 6, 7, 8}}, 1, []int64{15, 46, 77}}, // Err is of none
		{[]int64{100, 200}, Turn{Set: 3, Err: [][]int64{{10, 20}, {30, 40}}}, 0, []int64{165, 185}},                // one's own reading counts
		{[]int64{100, 200}, Turn{Set: 3, Err: [][]int64{{10}}}, 0, []int64{155, 150}},
		{[]int64{100, 200}, Turn{Set: 2, Err: [][]int64{{10}, {20}}}, 0, []int64{200, 200}}, // that of a clock that is not in the Set counts nothing
		{[]int64{100, 200}, Turn{Set: 1, Err: [][]int64{{10, 1}, {20, 2}}}, 0, []int64{110, 120}},
		{[]int64{7}, Turn{Set: 1, Err: [][]int64{{-3}}, Drift: []int64{50}}, 3, []int64{54}},
		{[]int64{span + 5, -span - 5}, Turn{}, 0, []int64{span, -span}},                            // kept as they come in
		{[]int64{span, -span}, Turn{Drift: []int64{span, -span}}, 0, []int64{2 * span, -2 * span}}, // not as they are answered
		{[]int64{span, -span}, Turn{Set: 2, Err: square(2, span), Drift: []int64{greatest, least}}, 0, []int64{span, -span}},
		{[]int64{span, span}, Turn{Set: 3, Err: square(2, span), Drift: []int64{span, span + 1}}, 0, []int64{3 * span, 3 * span}},
		{[]int64{least, least}, Turn{Set: 3, Err: square(2, least), Drift: []int64{least, least}}, 0, []int64{-3 * span, -3 * span}},
		{[]int64{least, greatest}, Turn{Set: 3}, 0, []int64{0, 0}}, // a difference of 2^41 is not kept
		{[]int64{least, greatest}, Turn{Set: 2}, 0, []int64{span, span}},
	} {
		one(t, x.c, x.turn, x.f, x.want)
		if got := plainOne(x.c, x.turn, x.f); !slices.Equal(got, x.want) {
			t.Errorf("read plainly, One(%v, %v, %d) is %v; wanted %v", x.c, x.turn, x.f, got, x.want)
		}
	}
}

// Of no clock nothing is told, whatever the turn has.
func TestOneOfNone(t *testing.T) {
	for _, c := range [][]int64{nil, {}, make([]int64, 0, 8)} {
		for _, s := range sets(0) {
			for _, f := range halves(0) {
				one(t, c, Turn{Set: s}, f, nil)
				one(t, c, Turn{Set: s, Err: [][]int64{{1}}, Drift: []int64{1}}, f, nil)
			}
		}
	}
}

// One clock: what it tells is at an end, its error and its drift are, each alone and together, and it is in the Set or not.
func TestOneOfOne(t *testing.T) {
	lists(ends, 3, func(l []int64) {
		for _, s := range []api.Set{0, 1, 2, all, all - 1} {
			for _, f := range []int{math.MinInt, -1, 0, 1, math.MaxInt} {
				ones(t, l[:1], Turn{Set: s, Err: [][]int64{{l[1]}}, Drift: l[2:]}, f)
			}
		}
	})
}

// Two and three clocks, at ends, with errors that are there or not.
func TestOneOfFew(t *testing.T) {
	lists(few, 3, func(l []int64) {
		for s := range api.Set(8) {
			for f := range 3 {
				ones(t, l, Turn{Set: s}, f)
				ones(t, l[:2], Turn{Set: s, Drift: l[1:]}, f)
				ones(t, l[1:], Turn{Set: s, Err: [][]int64{l, {l[1], l[0]}}, Drift: []int64{l[2]}}, f)
			}
		}
	})
}

// Three clocks with all nine errors, each alone at an end.
func TestOneErr(t *testing.T) {
	c := []int64{10, 40, 70}
	for p := range 3 {
		for q := range 3 {
			for _, x := range ends {
				err := square(3, 0)
				err[p][q] = x
				for s := range api.Set(8) {
					for f := range 3 {
						ones(t, c, Turn{Set: s, Err: err}, f)
					}
				}
			}
		}
	}
	// Each error is told apart from each other one.
	err := [][]int64{{1000, 2000, 4000}, {8000, 16000, 32000}, {64000, 128000, 256000}}
	for p := range 3 {
		for q := range 3 {
			if got, want := One(c, Turn{Set: set(q), Err: err}, 0)[p], c[q]+err[p][q]; got != want {
				t.Errorf("%d reads %d: %d; wanted %d", p, q, got, want)
			}
		}
	}
}

// One number alone at an end, in each place that there is, with all others near 0.
func TestOneAlone(t *testing.T) {
	for _, n := range []int{1, 2, 5, 65} {
		for _, x := range ends {
			for _, k := range []int{0, n / 2, n - 1} {
				for _, f := range []int{0, 1, 2} {
					c, drift, err := same(n, 3), same(n, -2), square(n, 1)
					c[k] = x
					ones(t, c, Turn{Set: all, Err: err, Drift: drift}, f)
					c[k] = 3
					drift[k] = x
					ones(t, c, Turn{Set: all, Err: err, Drift: drift}, f)
					drift[k] = -2
					err[k][n-1-k] = x
					ones(t, c, Turn{Set: all, Err: err, Drift: drift}, f)
				}
			}
		}
	}
}

// All at an end together.
func TestOneTogether(t *testing.T) {
	for _, n := range []int{1, 2, 3, 63, 64, 65, 70} {
		for _, x := range ends {
			for _, y := range ends {
				for _, z := range ends {
					if n > 3 && x != y && y != z && z != x {
						continue // many clocks are slow to read plainly
					}
					ones(t, same(n, x), Turn{Set: all, Err: [][]int64{same(n, y), same(n+1, y)}, Drift: same(n, z)}, 1)
				}
			}
			turn := Turn{Set: all, Err: square(n, x), Drift: same(n, x)}
			ones(t, same(n, x), turn, 0)
			want := same(n, 3*plain([]int64{x}, 0).Int64())
			one(t, same(n, x), turn, n, want)
		}
	}
}

// Each f about half of how many clocks the Set has, of each n up to more than 64, and each set.
func TestOneFault(t *testing.T) {
	next := chance(271)
	for _, n := range []int{0, 1, 2, 3, 4, 5, 6, 7, 8, 9, 10, 33, 63, 64, 65, 67} {
		c := drawn(next, n)
		for _, s := range sets(n) {
			count := 0
			for q := range min(n, 64) {
				if in(s, q) {
					count++
				}
			}
			for _, f := range halves(count) {
				ones(t, c, Turn{Set: s}, f)
			}
		}
	}
}

// f leaves out what is furthest off: of clocks each of which is ten times as far off as the last, each f has a middle of its own.
func TestOneFaultByHand(t *testing.T) {
	c := []int64{0, 1, 10, 100, 1000, 10000, 100000}
	for f, want := range map[int]int64{math.MinInt: 15873, -1: 15873, 0: 15873, 1: 2222, 2: 370, 3: 100, 4: 100, 7: 100, math.MaxInt: 100} {
		one(t, c, Turn{Set: 127}, f, same(7, want))
	}
	c = c[:6]
	for f, want := range map[int]int64{math.MinInt: 1851, 0: 1851, 1: 277, 2: 55, 3: 55, 4: 55, math.MaxInt: 55} {
		one(t, c, Turn{Set: 63}, f, same(6, want))
		one(t, c, Turn{Set: 63 | 1<<6 | 1<<63}, f, same(6, want)) // nodes that are no clocks are not counted
	}
}

// A Set with only nodes that are no clock of the list, and no Set, move nothing but by Drift.
func TestOneNoReading(t *testing.T) {
	next := chance(272)
	for range 300 {
		n := 1 + below(next, 63)
		c, drift := drawn(next, n), drawn(next, near(next, n))
		for _, s := range []api.Set{0, ^(set(n) - 1), set(63)} {
			want := make([]int64, n)
			for p := range c {
				want[p] = plain(c, p).Int64() + plain(drift, p).Int64()
			}
			one(t, c, Turn{Set: s &^ (set(n) - 1), Err: rows(next, n), Drift: drift}, below(next, 4), want)
		}
	}
}

// 64 clocks, and more: 0 and 63 are nodes, from 64 on none is. Those go by the others, and nothing goes by them.
func TestOneOfMany(t *testing.T) {
	c := make([]int64, 130)
	for p := range c {
		c[p] = int64(p) * 1000
	}
	for _, n := range []int{64, 65, 127, 128, 129, 130} {
		one(t, c[:n], Turn{Set: set(63)}, 0, same(n, 63000))
		one(t, c[:n], Turn{Set: 1}, 0, same(n, 0))
		one(t, c[:n], Turn{Set: set(0, 63)}, 0, same(n, 31500))
		one(t, c[:n], Turn{Set: all}, 0, same(n, 31500))
		one(t, c[:n], Turn{Set: all}, 31, same(n, 31500))
		one(t, c[:n], Turn{Set: all - 1}, 31, same(n, 32000))
		one(t, c[:n], Turn{}, 0, c[:n])
		err := square(n, 0)
		for p := range err {
			for q := 64; q < n; q++ {
				err[p][q] = 1 << 30 // no reading is of them
			}
			err[p][0] = int64(p)
		}
		got := One(c[:n], Turn{Set: 1, Err: err}, 0)
		for p, x := range got {
			if x != int64(p) {
				t.Fatalf("%d clocks: %d tells %d; wanted %d", n, p, x, p)
			}
		}
	}
	one(t, c[:63], Turn{Set: set(63)}, 0, c[:63])
}

// Lists that are shorter or longer than the clocks are many, each row by itself.
func TestOneLengths(t *testing.T) {
	c := []int64{10, 20, 30, 45}
	long := [][]int64{{1, 2, 3, 4}, {5, 6, 7, 8}, {9, 10, 11, 12}, {13, 14, 15, 16}}
	for have := range 7 {
		for wide := range 7 {
			var err [][]int64
			full := square(4, 0)
			for p := range have {
				l := make([]int64, wide)
				for q := range l {
					l[q] = 99999
					if p < 4 && q < 4 {
						l[q], full[p][q] = long[p][q], long[p][q]
					}
				}
				err = append(err, l)
			}
			for drifts := range 7 {
				drift, whole := same(drifts, 77), same(4, 0)
				copy(whole, drift)
				for _, s := range []api.Set{15, 5, 8, 16, 31, all} {
					one(t, c, Turn{Set: s, Err: err, Drift: drift}, 1, plainOne(c, Turn{Set: s, Err: full, Drift: whole}, 1))
				}
			}
		}
	}
	for _, err := range [][][]int64{{nil}, {nil, nil, nil, nil, nil}, {{1}, nil, {2, 3}, nil, {5, 6, 7, 8, 9}}, {nil, {1, 2, 3, 4, 5, 6}}, {{}, {}, {4}}, {}} {
		for f := range 3 {
			ones(t, c, Turn{Set: 15, Err: err}, f)
			ones(t, c, Turn{Set: all, Err: err, Drift: []int64{}}, f)
		}
	}
}

// All go by what was told ahead of the turn: the last one, too, and in whatever order the clocks stand.
func TestOneAhead(t *testing.T) {
	c := []int64{0, 90, 300}
	err := [][]int64{{1000, 1000, 1000}}
	one(t, c, Turn{Set: 7, Err: err}, 0, []int64{1130, 130, 130})
	one(t, c, Turn{Set: 7, Err: [][]int64{nil, nil, {1000, 1000, 1000}}}, 0, []int64{130, 130, 1130})
	one(t, c, Turn{Set: 1, Drift: []int64{7, 0, 0}}, 0, []int64{7, 0, 0})
	one(t, c, Turn{Set: 4, Drift: []int64{0, 0, 7}}, 0, []int64{300, 300, 307})
	next := chance(273)
	for range 200 {
		n := 2 + below(next, 10)
		c, turn := drawn(next, n), turn(next, n)
		turn.Set |= 1
		got := One(c, turn, 1)
		for k := range 30 { // what one tells behind the turn changes nothing of what another does
			p := k % n
			alone := copied(turn)
			for q := range alone.Err {
				if q != p {
					alone.Err[q] = nil
				}
			}
			if x := One(c, alone, 1)[p]; x != got[p] {
				t.Fatalf("%d tells %d with the others' errors, %d without", p, got[p], x)
			}
		}
	}
}

// By chance: each answer against the chapter read plainly.
func TestOneByChance(t *testing.T) {
	next := chance(274)
	for range 6000 {
		n := below(next, 9)
		ones(t, drawn(next, n), turn(next, n), fault(next))
	}
	for range 120 {
		n := 55 + below(next, 20)
		ones(t, drawn(next, n), turn(next, n), fault(next))
	}
}

// What was handed in and what was told share nothing: whichever is written to, the other stays.
func TestOneShares(t *testing.T) {
	next := chance(275)
	for range 500 {
		n := 1 + below(next, 70)
		c, turn, f := drawn(next, n), turn(next, n), fault(next)
		if below(next, 3) == 0 {
			turn = Turn{} // nothing is changed but by what is kept
		}
		was, had := slices.Clone(c), copied(turn)
		got := One(c, turn, f)
		told := slices.Clone(got)
		write(got)
		if !slices.Equal(c, was) || !alike(turn, had) {
			t.Fatal("what was handed in changed as the answer was written to")
		}
		got = One(c, turn, f)
		write(c)
		write(turn.Drift)
		for _, l := range turn.Err {
			write(l)
		}
		clear(turn.Err)
		if !slices.Equal(got, told) {
			t.Fatal("what was told changed as what was handed in was written to")
		}
	}
}

// write writes to all that a list has room for, also behind its end.
func write(l []int64) {
	l = l[:cap(l)]
	for k := range l {
		l[k] ^= 0x5a5a
	}
}

// What stands behind a list's end is neither read nor written.
func TestBehindTheEnd(t *testing.T) {
	c := []int64{10, 20, 30, 1000, 2000}
	drift := []int64{1, 2, 3, 4, 5}
	wide := []int64{1, 2, 3, 4, 5}
	err := [][]int64{wide[:1], wide[:2], {7}}
	one(t, c[:3], Turn{Set: 15, Err: err[:2], Drift: drift[:2]}, 0, []int64{21, 23, 20})
	if x, ok := Spread(c[:3], 31); x != 20 || !ok {
		t.Error(x, ok)
	}
	got := Run(c[:3], 0)
	got = append(got, 5)
	got[0] = 77
	if !slices.Equal(c, []int64{10, 20, 30, 1000, 2000}) || !slices.Equal(drift, []int64{1, 2, 3, 4, 5}) || !slices.Equal(wide, []int64{1, 2, 3, 4, 5}) {
		t.Error(c, drift, wide)
	}
}

// P27.2

// Of no turn: c as it is, not kept, and a list of one's own.
func TestRunOfNoTurn(t *testing.T) {
	for n := range 70 {
		for shift := range ends {
			c := make([]int64, n)
			for p := range c {
				c[p] = ends[(p+shift)%len(ends)]
			}
			for _, f := range []int{math.MinInt, 0, 1, math.MaxInt} {
				was := slices.Clone(c)
				got := Run(c, f)
				if !slices.Equal(got, was) || !slices.Equal(Run(c, f, []Turn{}...), was) {
					t.Fatalf("Run(%s, %d): %s", some(c), f, some(got))
				}
				write(got)
				if !slices.Equal(c, was) {
					t.Fatalf("what was handed in changed as the answer was written to: %s; was %s", some(c), some(was))
				}
				got = Run(c, f)
				write(c)
				if !slices.Equal(got, was) {
					t.Fatalf("what was told changed as what was handed in was written to: %s; wanted %s", some(got), some(was))
				}
				copy(c, was)
			}
		}
	}
	if len(Run(nil, 1)) != 0 || len(Run([]int64{}, 1)) != 0 {
		t.Error("clocks out of none")
	}
}

// Of one turn: the same as One. A turn of nothing keeps the clocks.
func TestRunOfOneTurn(t *testing.T) {
	next := chance(276)
	for range 2000 {
		n := below(next, 9)
		c, x, f := drawn(next, n), turn(next, n), fault(next)
		runs(t, c, f, x)
		if got := Run(c, f, x); !slices.Equal(got, One(c, x, f)) {
			t.Fatal(got)
		}
	}
	runs(t, nil, 1, Turn{Set: 1})
	if got := Run([]int64{least, 5, greatest}, 1, Turn{}); !slices.Equal(got, []int64{-span, 5, span}) {
		t.Error(got)
	}
}

func TestRunByHand(t *testing.T) {
	for _, x := range []struct {
		c    []int64
		f    int
		l    []Turn
		want []int64
	}{
		{[]int64{10, 40, 70}, 1, []Turn{{Set: 7}, {Set: 7}}, []int64{40, 40, 40}},
		{[]int64{10, 40, 70}, 1, []Turn{{Set: 7, Drift: []int64{0, 1, 5}}, {Set: 7, Drift: []int64{-1, 0, 1}}}, []int64{40, 41, 42}},
		{[]int64{10, 40, 70}, 1, []Turn{{Set: 1, Drift: []int64{0, 1, 5}}, {Set: 4}}, []int64{15, 15, 15}}, // by different sets
		{[]int64{10, 40, 70}, 1, []Turn{{Set: 4}, {Set: 1, Drift: []int64{0, 1, 5}}}, []int64{70, 71, 75}}, // one behind the other
		{[]int64{span, 0}, 0, []Turn{{Drift: []int64{span, 1}}, {}}, []int64{span, 1}},                     // what came in again is kept
		{[]int64{span, 0}, 0, []Turn{{Drift: []int64{span, 1}}, {Drift: []int64{-5, 1}}}, []int64{span - 5, 2}},
		{[]int64{0, 0}, 0, []Turn{{Drift: []int64{5}}, {Set: 1}, {Drift: []int64{0, 5}}, {Set: 2}}, []int64{10, 10}},
		{[]int64{1, 2}, 0, []Turn{{Set: 1 << 2}, {Set: 0}, {Set: 1 << 63}}, []int64{1, 2}},
	} {
		if got := Run(x.c, x.f, x.l...); !slices.Equal(got, x.want) {
			t.Errorf("Run(%v, %d, %v): %v; wanted %v", x.c, x.f, x.l, got, x.want)
		}
		runs(t, x.c, x.f, x.l...)
	}
}

// Many turns, each by its own set.
func TestRunByChance(t *testing.T) {
	next := chance(277)
	for range 600 {
		n := below(next, 8)
		l := make([]Turn, below(next, 7))
		for k := range l {
			l[k] = turn(next, n)
		}
		runs(t, drawn(next, n), fault(next), l...)
	}
	for range 4 {
		n := 62 + below(next, 5)
		l := make([]Turn, 5)
		for k := range l {
			l[k] = turn(next, n)
		}
		runs(t, drawn(next, n), fault(next), l...)
	}
	l := make([]Turn, 400)
	for k := range l {
		l[k] = turn(next, 5)
	}
	runs(t, drawn(next, 5), 1, l...)
}

// What was handed in of many turns stays, and what was told, too.
func TestRunShares(t *testing.T) {
	next := chance(278)
	for range 300 {
		n := 1 + below(next, 9)
		c, l, f := drawn(next, n), []Turn{turn(next, n), turn(next, n), turn(next, n)}, fault(next)
		was, told := slices.Clone(c), slices.Clone(Run(c, f, l...))
		had := []Turn{copied(l[0]), copied(l[1]), copied(l[2])}
		got := Run(c, f, l...)
		write(got)
		if !slices.Equal(c, was) || !slices.EqualFunc(l, had, alike) {
			t.Fatal("what was handed in changed as the answer was written to")
		}
		got = Run(c, f, l...)
		write(c)
		for _, x := range l {
			write(x.Drift)
			for _, row := range x.Err {
				write(row)
			}
		}
		clear(l)
		if !slices.Equal(got, told) {
			t.Fatal("what was told changed as what was handed in was written to")
		}
	}
}

func TestSpreadByHand(t *testing.T) {
	for _, x := range []struct {
		c    []int64
		s    api.Set
		want int64
		is   bool
	}{
		{nil, 0, 0, false}, {nil, all, 0, false}, {[]int64{}, 1, 0, false},
		{[]int64{5}, 1, 0, true}, {[]int64{5}, 0, 0, false}, {[]int64{5}, 2, 0, false}, {[]int64{5}, 3, 0, true}, {[]int64{5}, all - 1, 0, false},
		{[]int64{5, 9, 1}, 7, 8, true}, {[]int64{5, 9, 1}, 3, 4, true}, {[]int64{5, 9, 1}, 5, 4, true}, {[]int64{5, 9, 1}, 6, 8, true},
		{[]int64{5, 9, 1}, 2, 0, true}, {[]int64{5, 9, 1}, 8, 0, false}, {[]int64{5, 9, 1}, 9, 0, true}, {[]int64{5, 9, 1}, all, 8, true},
		{[]int64{-5, -9, -1}, 7, 8, true}, {[]int64{-5, 9}, 3, 14, true}, {[]int64{9, -5}, 3, 14, true},
		{[]int64{least, greatest}, 3, 2 * span, true}, {[]int64{least, 0}, 3, span, true}, {[]int64{greatest, 0}, 3, span, true},
		{[]int64{least, -span}, 3, 0, true}, {[]int64{greatest, span}, 3, 0, true}, {[]int64{least, -span + 1}, 3, 1, true},
		{[]int64{span + 1, span - 1}, 3, 1, true}, {[]int64{least, least + 1}, 3, 0, true},
	} {
		apart(t, x.c, x.s, x.want, x.is)
		aparts(t, x.c, x.s)
	}
}

// Clocks at all ends, by all their sets.
func TestSpreadEnds(t *testing.T) {
	lists(ends, 3, func(l []int64) {
		for s := range api.Set(16) {
			aparts(t, l, s)
		}
		aparts(t, l, all)
		aparts(t, l[:2], all)
		aparts(t, l[:1], all)
	})
}

// 64 clocks and more: from 64 on none is in a set.
func TestSpreadOfMany(t *testing.T) {
	c := make([]int64, 130)
	for p := range c {
		c[p] = int64(p) * int64(p)
	}
	for _, n := range []int{64, 65, 128, 129, 130} {
		apart(t, c[:n], all, 63*63, true)
		apart(t, c[:n], set(0, 63), 63*63, true)
		apart(t, c[:n], set(63), 0, true)
		apart(t, c[:n], set(62, 63), 125, true)
		apart(t, c[:n], all/2, 62*62, true)
		apart(t, c[:n], 0, 0, false)
	}
	apart(t, c[:63], all, 62*62, true)
	apart(t, c[:63], set(63), 0, false)
	next := chance(279)
	for range 800 {
		n := below(next, 70)
		c := drawn(next, n)
		aparts(t, c, bits(next))
		for _, s := range sets(n) {
			want, is := plainSpread(c[:min(n, 9)], s)
			apart(t, c[:min(n, 9)], s, want, is)
		}
	}
}

// P27.3

// within draws errors or drifts within a bound, either way, often at it.
func within(next func() uint64, n int, by int64) []int64 {
	l := make([]int64, n)
	for k := range l {
		switch below(next, 4) {
		case 0:
			l[k] = by
		case 1:
			l[k] = -by
		default:
			l[k] = from(next, -by, by)
		}
	}
	return l
}

// goal is one play: clocks, a turn whose errors are within e and whose drifts are within d, and an f.
type goal struct {
	c    []int64
	turn Turn
	f    int
	e, d int64
}

// held is whether behind the turn any two are apart by 2 e and 2 d at most, and each is, but for its Drift, between the
// least and the greatest of the Set's, e more or less at most.
func (g goal) held(t *testing.T) {
	t.Helper()
	var among []int64
	for q := range min(len(g.c), 64) {
		if in(g.turn.Set, q) {
			among = append(among, plain(g.c, q).Int64())
		}
	}
	lo, hi := slices.Min(among), slices.Max(among)
	got := One(g.c, g.turn, g.f)
	if x := slices.Max(got) - slices.Min(got); x > 2*g.e+2*g.d {
		t.Fatalf("clocks %s are apart by %d behind a turn of e %d, d %d: %s", some(g.c), x, g.e, g.d, some(got))
	}
	for p, x := range got {
		if x -= plain(g.turn.Drift, p).Int64(); x < lo-g.e || x > hi+g.e {
			t.Fatalf("of clocks from %d to %d, %d tells %d but for its drift, by e %d", lo, hi, p, x, g.e)
		}
	}
	if g.e == 0 && g.d == 0 && slices.Max(got) != slices.Min(got) {
		t.Fatalf("without errors and drifts not all are the same: %s", some(got))
	}
}

// play draws one. Its set has at least one clock.
func play(next func() uint64, n int, e, d int64) goal {
	g := goal{c: drawn(next, n), turn: Turn{Set: bits(next) | set(below(next, min(n, 64)))}, f: fault(next), e: e, d: d}
	for range n {
		g.turn.Err = append(g.turn.Err, within(next, n, e))
	}
	g.turn.Drift = within(next, n, d)
	return g
}

func TestNear(t *testing.T) {
	next := chance(280)
	bounds := []int64{0, 1, 2, 3, 10, 1000, 1 << 20, 1 << 39, span - 1, span}
	for _, e := range bounds {
		for _, d := range bounds {
			for range 60 {
				play(next, 1+below(next, 9), e, d).held(t)
			}
			play(next, 60+below(next, 8), e, d).held(t)
		}
	}
}

// Clocks that are as far apart as may be, whatever they told ahead.
func TestNearFarApart(t *testing.T) {
	next := chance(281)
	for range 1500 {
		g := play(next, 2+below(next, 9), from(next, 0, 5), from(next, 0, 5))
		for p := range g.c {
			g.c[p] = []int64{least, -span, span, greatest}[below(next, 4)]
		}
		g.held(t)
	}
}

// No nearer bound holds: there are clocks that are apart by just as much.
func TestNearAtTheBound(t *testing.T) {
	for _, x := range [][2]int64{{0, 0}, {7, 0}, {0, 9}, {7, 9}, {1 << 39, 1 << 39}} {
		e, d := x[0], x[1]
		err := [][]int64{same(3, e), same(3, -e), same(3, 0)}
		g := goal{c: []int64{10, 40, 70}, turn: Turn{Set: 7, Err: err, Drift: []int64{d, -d, 0}}, f: 1, e: e, d: d}
		g.held(t)
		got := One(g.c, g.turn, g.f)
		if x := slices.Max(got) - slices.Min(got); x != 2*e+2*d {
			t.Errorf("by e %d and d %d they are apart by %d", e, d, x)
		}
	}
	// The one clock that is in the Set, and one that goes by it.
	one(t, []int64{100, 500}, Turn{Set: 1, Err: [][]int64{{7}, {-7}}, Drift: []int64{9, -9}}, 0, []int64{116, 84})
}

// Turn behind turn clocks stay together by as much, and go on by what drifts are.
func TestNearThroughTurns(t *testing.T) {
	next := chance(282)
	for range 60 {
		n, f := 3+below(next, 6), below(next, 2)
		c := drawn(next, n)
		for range 20 {
			e, d := from(next, 0, 30), from(next, 0, 30)
			g := play(next, n, e, d)
			g.c, g.f = c, f
			g.held(t)
			c = Run(c, f, g.turn)
			if x, ok := Spread(c, all); x > 2*e+2*d || !ok {
				t.Fatal(x, ok)
			}
		}
	}
}

// At most Fault of the Set's that tell anything at all move no other from between the rest, without errors and drifts.
func TestNearLiars(t *testing.T) {
	next := chance(283)
	for range 2000 {
		f := 1 + below(next, 3)
		n := 2*f + 1 + below(next, 6)
		c := make([]int64, n)
		for p := range c {
			c[p] = from(next, 1000, 1050)
		}
		for range f {
			c[below(next, n)] = whole(next)
		}
		rest := slices.DeleteFunc(slices.Clone(c), func(x int64) bool { return x < 1000 || x > 1050 })
		got := One(c, Turn{Set: all}, f)
		for _, x := range got {
			if x < slices.Min(rest) || x > slices.Max(rest) {
				t.Fatalf("One(%v) with f %d: %v", c, f, got)
			}
		}
	}
}
