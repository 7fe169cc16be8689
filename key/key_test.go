package key

import (
	"fmt"
	"math"
	"math/big"
	"slices"
	"strings"
	"testing"

	"angelus/api"
)

// chance answers numbers of no rule, the same ones each time.
func chance(x uint64) func() uint64 {
	return func() uint64 {
		x ^= x << 13
		x ^= x >> 7
		x ^= x << 17
		return x
	}
}

// times, froms and seqs rise; they have the edges of each, both sides of them, and numbers of which only the lower bits look like others here.
var times = []int64{
	math.MinInt64, math.MinInt64 + 1, -api.MaxTime - 1, -api.MaxTime, -1 << 32, -5, -1,
	0, 1, 5, 1<<32 - 1, 1 << 32, 1<<32 + 5, api.MaxTime - 1, api.MaxTime, api.MaxTime + 1, math.MaxInt64 - 1, math.MaxInt64,
}

var froms = []int{
	math.MinInt, -1<<32 + 5, -64, -1, 0, 1, 2, 5, 62, 63, 64, 65, 128, 256, 1 << 32, 1<<32 + 5, math.MaxInt,
}

var seqs = []uint32{0, 1, 2, 5, 9, 255, 256, 1<<16 + 5, 1<<31 - 1, 1 << 31, math.MaxUint32 - 1, math.MaxUint32}

// inOrder are keys of all times, froms and seqs that are told here, each once. By the way it is made it stands in order: by T, then From, then Seq.
func inOrder(times []int64, froms []int, seqs []uint32) []api.Key {
	var l []api.Key
	for _, t := range times {
		for _, f := range froms {
			for _, s := range seqs {
				l = append(l, api.Key{T: t, From: f, Seq: s})
			}
		}
	}
	return l
}

// all are all keys that these tests know, in order, each once.
func all() []api.Key { return inOrder(times, froms, seqs) }

// few are some edges of all, in order, each once: few enough for all pairs.
func few() []api.Key {
	return inOrder(
		[]int64{math.MinInt64, -api.MaxTime, -1, 0, 1, 1<<32 + 1, api.MaxTime, math.MaxInt64},
		[]int{math.MinInt, -1, 0, 1, 63, 64, 1 << 32, math.MaxInt},
		[]uint32{0, 1, 1 << 31, math.MaxUint32},
	)
}

// wasAhead tells whether k stands in l.
func wasAhead(l []api.Key, k api.Key) bool {
	for _, x := range l {
		if x.T == k.T && x.From == k.From && x.Seq == k.Seq {
			return true
		}
	}
	return false
}

// slowTwice is P6.3's Twice, word by word.
func slowTwice(l []api.Key) (api.Key, bool) {
	for i, k := range l {
		if wasAhead(l[:i], k) {
			return k, true
		}
	}
	return api.Key{}, false
}

// slowAhead is P6.1's order, word by word.
func slowAhead(a, b api.Key) bool {
	if a.T != b.T {
		return a.T < b.T
	}
	if a.From != b.From {
		return a.From < b.From
	}
	return a.Seq < b.Seq
}

// slowSort puts each key that is not there yet behind all that are ahead of it.
func slowSort(l []api.Key) []api.Key {
	var out []api.Key
	for _, k := range l {
		if wasAhead(out, k) {
			continue
		}
		i := 0
		for i < len(out) && slowAhead(out[i], k) {
			i++
		}
		out = slices.Insert(out, i, k)
	}
	return out
}

// slowRising holds each key against all that are behind it, not the next one alone.
func slowRising(l []api.Key) bool {
	for i, a := range l {
		for _, b := range l[i+1:] {
			if !slowAhead(a, b) {
				return false
			}
		}
	}
	return true
}

// P6.1

func TestGood(t *testing.T) {
	for _, r := range []struct {
		k    api.Key
		want bool
	}{
		{api.Key{}, true},
		{api.Key{T: 5, From: 1, Seq: 9}, true},
		{api.Key{T: 1}, true},
		{api.Key{T: api.MaxTime - 1}, true},
		{api.Key{T: api.MaxTime}, true},
		{api.Key{T: api.MaxTime + 1}, false},
		{api.Key{T: -1}, false},
		{api.Key{T: -api.MaxTime}, false},
		{api.Key{T: math.MinInt64}, false},
		{api.Key{T: math.MinInt64 + 1}, false},
		{api.Key{T: math.MaxInt64}, false},
		{api.Key{From: 1}, true},
		{api.Key{From: 62}, true},
		{api.Key{From: 63}, true},
		{api.Key{From: 64}, false},
		{api.Key{From: 65}, false},
		{api.Key{From: -1}, false},
		{api.Key{From: -64}, false},
		{api.Key{From: 256}, false},
		{api.Key{From: 1 << 32}, false},
		{api.Key{From: 1<<32 + 5}, false},
		{api.Key{From: -1<<32 + 5}, false},
		{api.Key{From: math.MaxInt}, false},
		{api.Key{From: math.MinInt}, false},
		{api.Key{Seq: 1}, true},
		{api.Key{Seq: math.MaxUint32}, true},
		{api.Key{T: api.MaxTime, From: 63, Seq: math.MaxUint32}, true},
		{api.Key{T: api.MaxTime + 1, From: 63, Seq: math.MaxUint32}, false},
		{api.Key{T: api.MaxTime, From: 64, Seq: math.MaxUint32}, false},
		{api.Key{T: -1, From: 64}, false},
		{api.Key{T: -1, From: -1}, false},
		{api.Key{T: math.MaxInt64, From: math.MaxInt}, false},
	} {
		if got := Good(r.k); got != r.want {
			t.Errorf("Good(%v): %t; wanted %t", r.k, got, r.want)
		}
	}
}

// T and From each say it alone, and Seq says nothing.
func TestGoodOfAll(t *testing.T) {
	goodTimes := []int64{0, 1, 5, 1<<32 - 1, 1 << 32, 1<<32 + 5, api.MaxTime - 1, api.MaxTime}
	goodFroms := []int{0, 1, 2, 5, 62, 63}
	for _, k := range all() {
		want := slices.Contains(goodTimes, k.T) && slices.Contains(goodFroms, k.From)
		if got := Good(k); got != want {
			t.Errorf("Good(%v): %t; wanted %t", k, got, want)
		}
	}
	for i := -300; i < 300; i++ {
		if got, want := Good(api.Key{T: 7, From: i, Seq: 7}), i >= 0 && i <= 63; got != want {
			t.Errorf("Good of From %d: %t", i, got)
		}
	}
}

// asks checks Compare and Less of two keys, both ways round.
func asks(t *testing.T, a, b api.Key, want int) {
	t.Helper()
	if got := Compare(a, b); got != want {
		t.Errorf("Compare(%v, %v): %d; wanted %d", a, b, got, want)
	}
	if got := Compare(b, a); got != -want {
		t.Errorf("Compare(%v, %v): %d; wanted %d", b, a, got, -want)
	}
	if got := Less(a, b); got != (want < 0) {
		t.Errorf("Less(%v, %v): %t", a, b, got)
	}
	if got := Less(b, a); got != (want > 0) {
		t.Errorf("Less(%v, %v): %t", b, a, got)
	}
}

func TestCompare(t *testing.T) {
	for _, r := range []struct {
		a, b api.Key
		want int
	}{
		{api.Key{T: 5, From: 1, Seq: 9}, api.Key{T: 5, From: 2, Seq: 0}, -1}, // the chapter's example
		// in none
		{api.Key{}, api.Key{}, 0},
		{api.Key{T: 5, From: 1, Seq: 9}, api.Key{T: 5, From: 1, Seq: 9}, 0},
		{api.Key{T: math.MinInt64, From: math.MinInt}, api.Key{T: math.MinInt64, From: math.MinInt}, 0},
		{api.Key{T: math.MaxInt64, From: math.MaxInt, Seq: math.MaxUint32}, api.Key{T: math.MaxInt64, From: math.MaxInt, Seq: math.MaxUint32}, 0},
		// in T alone
		{api.Key{T: 5, From: 1, Seq: 9}, api.Key{T: 6, From: 1, Seq: 9}, -1},
		{api.Key{T: 5, From: 1, Seq: 9}, api.Key{T: 900, From: 1, Seq: 9}, -1},
		{api.Key{T: -1}, api.Key{T: 0}, -1},
		{api.Key{T: api.MaxTime}, api.Key{T: api.MaxTime + 1}, -1},
		{api.Key{T: math.MinInt64}, api.Key{T: math.MaxInt64}, -1},
		{api.Key{T: math.MinInt64}, api.Key{T: 1}, -1},
		{api.Key{T: -2}, api.Key{T: math.MaxInt64}, -1},
		{api.Key{T: 0}, api.Key{T: 1 << 32}, -1},
		// in From alone
		{api.Key{T: 5, From: 0, Seq: 9}, api.Key{T: 5, From: 1, Seq: 9}, -1},
		{api.Key{T: 5, From: 62, Seq: 9}, api.Key{T: 5, From: 63, Seq: 9}, -1},
		{api.Key{From: 63}, api.Key{From: 64}, -1},
		{api.Key{From: -1}, api.Key{From: 0}, -1},
		{api.Key{From: 0}, api.Key{From: 1 << 32}, -1},
		{api.Key{From: math.MinInt}, api.Key{From: math.MaxInt}, -1},
		{api.Key{From: math.MinInt}, api.Key{From: 1}, -1},
		// in Seq alone
		{api.Key{T: 5, From: 1, Seq: 8}, api.Key{T: 5, From: 1, Seq: 9}, -1},
		{api.Key{Seq: 0}, api.Key{Seq: 1}, -1},
		{api.Key{Seq: 0}, api.Key{Seq: math.MaxUint32}, -1},
		{api.Key{Seq: 1}, api.Key{Seq: 1 << 31}, -1},
		{api.Key{Seq: 1<<31 - 1}, api.Key{Seq: math.MaxUint32}, -1},
		// From or Seq say otherwise than what stands ahead of them
		{api.Key{T: 5, From: 63, Seq: math.MaxUint32}, api.Key{T: 6, From: 0, Seq: 0}, -1},
		{api.Key{T: 5, From: 63, Seq: 4}, api.Key{T: 6, From: 0, Seq: 4}, -1},
		{api.Key{T: 5, From: 3, Seq: 9}, api.Key{T: 6, From: 3, Seq: 0}, -1},
		{api.Key{T: 5, From: 3, Seq: 9}, api.Key{T: 5, From: 4, Seq: 0}, -1},
		{api.Key{T: 5, From: 3, Seq: math.MaxUint32}, api.Key{T: 5, From: 4, Seq: 0}, -1},
		{api.Key{T: -1, From: math.MaxInt, Seq: math.MaxUint32}, api.Key{T: 0, From: math.MinInt, Seq: 0}, -1},
		{api.Key{T: math.MinInt64, From: math.MaxInt, Seq: math.MaxUint32}, api.Key{T: math.MaxInt64, From: math.MinInt, Seq: 0}, -1},
	} {
		asks(t, r.a, r.b, r.want)
	}
}

// The list stands in order by the way it is made, so that the places of two keys in it tell their order.
func TestCompareOfAll(t *testing.T) {
	l := few()
	for i, a := range l {
		for j, b := range l {
			want := 0
			if i < j {
				want = -1
			} else if i > j {
				want = 1
			}
			if got := Compare(a, b); got != want {
				t.Fatalf("Compare(%v, %v): %d; wanted %d", a, b, got, want)
			}
			if got := Less(a, b); got != (i < j) {
				t.Fatalf("Less(%v, %v): %t", a, b, got)
			}
		}
	}
	l = all()
	for i, k := range l[1:] {
		asks(t, l[i], k, -1)
		asks(t, k, k, 0)
	}
}

// P6.2

func TestArray(t *testing.T) {
	for _, r := range []struct {
		k    api.Key
		want [3]int64
	}{
		{api.Key{}, [3]int64{}},
		{api.Key{T: 5, From: 1, Seq: 9}, [3]int64{5, 1, 9}},
		{api.Key{T: -5, From: 63}, [3]int64{-5, 63, 0}},
		{api.Key{Seq: 1 << 31}, [3]int64{0, 0, 1 << 31}},
		{api.Key{Seq: math.MaxUint32}, [3]int64{0, 0, 4294967295}},
		{api.Key{T: api.MaxTime, From: 64, Seq: 1}, [3]int64{1 << 60, 64, 1}},
		{api.Key{T: math.MinInt64, From: -1}, [3]int64{math.MinInt64, -1, 0}},
		{api.Key{T: math.MaxInt64, From: math.MaxInt, Seq: math.MaxUint32}, [3]int64{math.MaxInt64, math.MaxInt, math.MaxUint32}},
		{api.Key{From: math.MinInt}, [3]int64{0, math.MinInt, 0}},
	} {
		if got := Array(r.k); got != r.want {
			t.Errorf("Array(%v): %v; wanted %v", r.k, got, r.want)
		}
	}
	for _, k := range all() {
		if got := Array(k); got[0] != k.T || got[1] != int64(k.From) || got[2] != int64(k.Seq) {
			t.Errorf("Array(%v): %v", k, got)
		}
	}
}

func TestOf(t *testing.T) {
	for _, r := range []struct {
		a    [3]int64
		want api.Key
		ok   bool
	}{
		{[3]int64{}, api.Key{}, true},
		{[3]int64{5, 1, 9}, api.Key{T: 5, From: 1, Seq: 9}, true},
		// T may be any
		{[3]int64{-1, 1, 9}, api.Key{T: -1, From: 1, Seq: 9}, true},
		{[3]int64{api.MaxTime, 1, 9}, api.Key{T: api.MaxTime, From: 1, Seq: 9}, true},
		{[3]int64{api.MaxTime + 1, 1, 9}, api.Key{T: api.MaxTime + 1, From: 1, Seq: 9}, true},
		{[3]int64{math.MinInt64, 1, 9}, api.Key{T: math.MinInt64, From: 1, Seq: 9}, true},
		{[3]int64{math.MaxInt64, 1, 9}, api.Key{T: math.MaxInt64, From: 1, Seq: 9}, true},
		// From just within, just beyond, below 0, far off
		{[3]int64{7, 0, 9}, api.Key{T: 7, From: 0, Seq: 9}, true},
		{[3]int64{7, 63, 9}, api.Key{T: 7, From: 63, Seq: 9}, true},
		{[3]int64{7, 64, 9}, api.Key{}, false},
		{[3]int64{7, 65, 9}, api.Key{}, false},
		{[3]int64{7, -1, 9}, api.Key{}, false},
		{[3]int64{7, -64, 9}, api.Key{}, false},
		{[3]int64{7, 256 + 5, 9}, api.Key{}, false},
		{[3]int64{7, 1<<16 + 5, 9}, api.Key{}, false},
		{[3]int64{7, 1 << 32, 9}, api.Key{}, false},
		{[3]int64{7, 1<<32 + 5, 9}, api.Key{}, false},
		{[3]int64{7, -1<<32 + 5, 9}, api.Key{}, false},
		{[3]int64{7, math.MinInt64 + 5, 9}, api.Key{}, false},
		{[3]int64{7, math.MinInt64, 9}, api.Key{}, false},
		{[3]int64{7, math.MaxInt64, 9}, api.Key{}, false},
		// Seq the same
		{[3]int64{7, 3, 0}, api.Key{T: 7, From: 3, Seq: 0}, true},
		{[3]int64{7, 3, 1<<31 - 1}, api.Key{T: 7, From: 3, Seq: 1<<31 - 1}, true},
		{[3]int64{7, 3, 1 << 31}, api.Key{T: 7, From: 3, Seq: 1 << 31}, true},
		{[3]int64{7, 3, 1<<32 - 1}, api.Key{T: 7, From: 3, Seq: math.MaxUint32}, true},
		{[3]int64{7, 3, 1 << 32}, api.Key{}, false},
		{[3]int64{7, 3, 1<<32 + 9}, api.Key{}, false},
		{[3]int64{7, 3, 1<<33 - 1}, api.Key{}, false},
		{[3]int64{7, 3, -1}, api.Key{}, false},
		{[3]int64{7, 3, -1 << 31}, api.Key{}, false},
		{[3]int64{7, 3, -1<<32 + 9}, api.Key{}, false},
		{[3]int64{7, 3, math.MinInt64}, api.Key{}, false},
		{[3]int64{7, 3, math.MinInt64 + 9}, api.Key{}, false},
		{[3]int64{7, 3, math.MaxInt64}, api.Key{}, false},
		// both wrong, with T good and not
		{[3]int64{7, 64, -1}, api.Key{}, false},
		{[3]int64{7, -1, 1 << 32}, api.Key{}, false},
		{[3]int64{-7, 64, 1 << 32}, api.Key{}, false},
		{[3]int64{0, -1, -1}, api.Key{}, false},
	} {
		if got, ok := Of(r.a); got != r.want || ok != r.ok {
			t.Errorf("Of(%v): %v, %t; wanted %v, %t", r.a, got, ok, r.want, r.ok)
		}
	}
}

// All Froms and Seqs about 0 and about each power of 2, with T of all kinds.
func TestOfAll(t *testing.T) {
	var near []int64
	for i := range 64 {
		p := int64(1) << i
		for d := int64(-2); d <= 2; d++ {
			near = append(near, p+d, -p+d, p+d+5) // round at the ends, which is as good
		}
	}
	for i, x := range near {
		for _, T := range []int64{0, -1, int64(i), math.MinInt64, math.MaxInt64} {
			for _, fit := range []int64{0, 5, 63} {
				a := [3]int64{T, x, fit}
				got, ok := Of(a)
				if want := x >= 0 && x <= 63; ok != want || ok && Array(got) != a || !ok && got != (api.Key{}) {
					t.Fatalf("Of(%v): %v, %t", a, got, ok)
				}
				a = [3]int64{T, fit, x}
				got, ok = Of(a)
				if want := x >= 0 && x <= 4294967295; ok != want || ok && Array(got) != a || !ok && got != (api.Key{}) {
					t.Fatalf("Of(%v): %v, %t", a, got, ok)
				}
			}
		}
	}
}

// P6.3

var (
	ka = api.Key{T: 3, From: 1, Seq: 7}
	kb = api.Key{T: 3, From: 2, Seq: 1}
	kc = api.Key{T: 3, From: 2, Seq: 2}
	kd = api.Key{T: 4, From: 0, Seq: 0}
	ke = api.Key{T: -1, From: 64, Seq: 9} // ahead of all others, and no good one
	k0 = api.Key{}
)

func TestSort(t *testing.T) {
	for _, r := range []struct{ l, want []api.Key }{
		{nil, nil},
		{[]api.Key{}, nil},
		{[]api.Key{ka}, []api.Key{ka}},
		{[]api.Key{k0}, []api.Key{k0}},
		{[]api.Key{ke}, []api.Key{ke}},
		{[]api.Key{ka, ka}, []api.Key{ka}},
		{[]api.Key{k0, k0, k0}, []api.Key{k0}},
		{[]api.Key{ka, kb}, []api.Key{ka, kb}},
		{[]api.Key{kb, ka}, []api.Key{ka, kb}},
		{[]api.Key{kb, ka, kc, ka}, []api.Key{ka, kb, kc}},
		{[]api.Key{ka, kb, kb, ka, kb}, []api.Key{ka, kb}},
		{[]api.Key{ke, k0, ka, kb, kc, kd}, []api.Key{ke, k0, ka, kb, kc, kd}}, // in order
		{[]api.Key{kd, kc, kb, ka, k0, ke}, []api.Key{ke, k0, ka, kb, kc, kd}}, // turned round
		{[]api.Key{kd, kd, kc, kb, kc, ka, k0, ke, ke, kd}, []api.Key{ke, k0, ka, kb, kc, kd}},
		{[]api.Key{{T: 1, Seq: 2}, {T: 1, Seq: 1}, {T: 1, Seq: 2}}, []api.Key{{T: 1, Seq: 1}, {T: 1, Seq: 2}}},
		{[]api.Key{{T: 1, From: 2}, {T: 1, From: 1}, {T: 1, From: 2}}, []api.Key{{T: 1, From: 1}, {T: 1, From: 2}}},
		{[]api.Key{{T: math.MaxInt64}, {T: math.MinInt64}, {T: math.MaxInt64}}, []api.Key{{T: math.MinInt64}, {T: math.MaxInt64}}},
	} {
		if got := Sort(r.l...); !slices.Equal(got, r.want) {
			t.Errorf("Sort(%v): %v; wanted %v", r.l, got, r.want)
		}
	}
	if got := Sort(); len(got) != 0 {
		t.Errorf("Sort of no key: %v", got)
	}
}

// What was handed in stays, and so does what lies behind it; neither list changes with the other.
func TestSortIsNew(t *testing.T) {
	for _, l := range [][]api.Key{{}, {ka}, {ka, kb}, {ka, kb, kc}, {kc, kb, ka}, {kb, ka, kb}, {ka, ka}, {ka, ka, kb, kb}} {
		in := append(slices.Clone(l), kd, k0, ke)
		keep := slices.Clone(in)
		got := Sort(in[:len(l)]...)
		want := slices.Clone(got)
		_ = append(got, ke, ke, ke)
		if !slices.Equal(in, keep) {
			t.Errorf("Sort(%v) changed what was handed in: %v", l, in)
		}
		for i := range in {
			in[i] = api.Key{T: 77}
		}
		if !slices.Equal(got, want) {
			t.Errorf("Sort(%v) changed with what was handed in: %v", l, got)
		}
		copy(in, keep)
		for i := range got {
			got[i] = api.Key{T: 78}
		}
		if !slices.Equal(in, keep) {
			t.Errorf("what Sort(%v) answered shares with what was handed in: %v", l, in)
		}
		again := Sort(in[:len(l)]...)
		if !slices.Equal(again, want) {
			t.Errorf("Sort(%v) again: %v; wanted %v", l, again, want)
		}
		for i := range got {
			if got[i] != (api.Key{T: 78}) {
				t.Errorf("what Sort(%v) answered changed with a second call: %v", l, got)
			}
		}
	}
}

// No call knows what an earlier one saw.
func TestCallsApart(t *testing.T) {
	for range 3 {
		if got := Sort(kb, ka); !slices.Equal(got, []api.Key{ka, kb}) {
			t.Errorf("Sort: %v", got)
		}
		if k, ok := Twice(ka, kb); k != (api.Key{}) || ok {
			t.Errorf("Twice: %v, %t", k, ok)
		}
		if k, ok := Twice(ka, kb, kb); k != kb || !ok {
			t.Errorf("Twice: %v, %t", k, ok)
		}
	}
}

func TestTwice(t *testing.T) {
	for _, r := range []struct {
		l    []api.Key
		want api.Key
		ok   bool
	}{
		{nil, api.Key{}, false},
		{[]api.Key{}, api.Key{}, false},
		{[]api.Key{ka}, api.Key{}, false},
		{[]api.Key{k0}, api.Key{}, false},
		{[]api.Key{ka, kb}, api.Key{}, false},
		{[]api.Key{kb, ka, kd, kc, ke, k0}, api.Key{}, false},
		{[]api.Key{ka, ka}, ka, true},
		{[]api.Key{k0, k0}, k0, true},
		{[]api.Key{ke, ke}, ke, true},
		{[]api.Key{ka, kb, kb, ka}, kb, true}, // kb stood there already ahead of where ka does
		{[]api.Key{ka, kb, ka, kb}, ka, true},
		{[]api.Key{kb, ka, kb, ka}, kb, true},
		{[]api.Key{kd, kc, kb, ka, kb, kc, kd}, kb, true},
		{[]api.Key{ka, kb, kc, kd, ka}, ka, true},
		{[]api.Key{ka, kb, kc, kd, kd}, kd, true},
		{[]api.Key{k0, ka, kb, ka, k0}, ka, true},
		{[]api.Key{ka, ka, ka}, ka, true}, // three times
		{[]api.Key{kb, ka, ka, ka, kb, kb}, ka, true},
		{[]api.Key{ka, kb, ka, kc, ka}, ka, true},
		{[]api.Key{ka, kb, kc, kb, ka, kb, ka}, kb, true},
		// alike in two of three
		{[]api.Key{{T: 1, From: 2, Seq: 3}, {T: 9, From: 2, Seq: 3}}, api.Key{}, false},
		{[]api.Key{{T: 1, From: 2, Seq: 3}, {T: 1, From: 9, Seq: 3}}, api.Key{}, false},
		{[]api.Key{{T: 1, From: 2, Seq: 3}, {T: 1, From: 2, Seq: 9}}, api.Key{}, false},
		{[]api.Key{{T: 1, From: 2, Seq: 3}, {T: 1, From: 3, Seq: 2}}, api.Key{}, false},
		{[]api.Key{{T: 1, From: 2, Seq: 3}, {T: 2, From: 1, Seq: 3}}, api.Key{}, false},
		// alike in their lower bits alone
		{[]api.Key{{From: 5}, {From: 1<<32 + 5}, {From: -1<<32 + 5}}, api.Key{}, false},
		{[]api.Key{{T: 5}, {T: 1<<32 + 5}, {T: -1<<32 + 5}, {T: math.MinInt64 + 5}}, api.Key{}, false},
		{[]api.Key{{T: 1}, {T: 1, From: -1}, {T: 1, Seq: math.MaxUint32}}, api.Key{}, false},
	} {
		if got, ok := Twice(r.l...); got != r.want || ok != r.ok {
			t.Errorf("Twice(%v): %v, %t; wanted %v, %t", r.l, got, ok, r.want, r.ok)
		}
	}
	if got, ok := Twice(); got != (api.Key{}) || ok {
		t.Errorf("Twice of no key: %v, %t", got, ok)
	}
}

func TestRising(t *testing.T) {
	for _, r := range []struct {
		l    []api.Key
		want bool
	}{
		{nil, true},
		{[]api.Key{}, true},
		{[]api.Key{ka}, true},
		{[]api.Key{ke}, true},
		{[]api.Key{k0}, true},
		{[]api.Key{ka, kb}, true},
		{[]api.Key{kb, ka}, false},
		{[]api.Key{ka, ka}, false},
		{[]api.Key{k0, k0}, false},
		{[]api.Key{ke, k0, ka, kb, kc, kd}, true},
		{[]api.Key{k0, ke, ka, kb, kc, kd}, false}, // falls only at its beginning
		{[]api.Key{ke, k0, ka, kb, kd, kc}, false}, // only at its end
		{[]api.Key{ke, k0, kb, ka, kc, kd}, false}, // only amid it
		{[]api.Key{ke, k0, ka, kb, kc, kc}, false},
		{[]api.Key{ke, ke, k0, ka, kb, kc}, false},
		{[]api.Key{ke, k0, ka, ka, kb, kc}, false},
		{[]api.Key{kb, kc, ka, kd}, false}, // kb is ahead of kd, and yet it does not rise
		{[]api.Key{{T: 1, From: 5, Seq: 5}, {T: 2, From: 4, Seq: 4}, {T: 3, From: 3, Seq: 3}}, true},
		{[]api.Key{{T: 1, From: 1, Seq: 5}, {T: 1, From: 2, Seq: 4}, {T: 1, From: 3, Seq: 3}}, true},
		{[]api.Key{{T: 1, From: 1, Seq: 5}, {T: 1, From: 2, Seq: 4}, {T: 1, From: 2, Seq: 3}}, false},
		{[]api.Key{{T: math.MinInt64}, {T: math.MaxInt64}}, true},
		{[]api.Key{{T: math.MaxInt64}, {T: math.MinInt64}}, false},
	} {
		if got := Rising(r.l...); got != r.want {
			t.Errorf("Rising(%v): %t; wanted %t", r.l, got, r.want)
		}
	}
	if !Rising() {
		t.Error("Rising of no key: false")
	}
}

// holds checks the three calls that take many keys against what is told word by word, and that they leave the keys as they are.
func holds(t *testing.T, l []api.Key) {
	t.Helper()
	keep := slices.Clone(l)
	if got, want := Sort(l...), slowSort(l); !slices.Equal(got, want) {
		t.Fatalf("Sort(%v): %v; wanted %v", l, got, want)
	}
	got, ok := Twice(l...)
	if want, wantOK := slowTwice(l); got != want || ok != wantOK {
		t.Fatalf("Twice(%v): %v, %t; wanted %v, %t", l, got, ok, want, wantOK)
	}
	if got, want := Rising(l...), slowRising(l); got != want {
		t.Fatalf("Rising(%v): %t; wanted %t", l, got, want)
	}
	if !slices.Equal(l, keep) {
		t.Fatalf("%v was changed to %v", keep, l)
	}
}

// All lists of up to six keys, of five that lie close to one another.
func TestAllShortLists(t *testing.T) {
	of := []api.Key{k0, {Seq: 1}, {From: 1}, {T: 1}, {T: -1, From: 2, Seq: 2}}
	var more func(l []api.Key)
	more = func(l []api.Key) {
		holds(t, l)
		if len(l) == 6 {
			return
		}
		for _, k := range of {
			more(append(slices.Clone(l), k))
		}
	}
	more(nil)
}

// Lists of no rule, of few keys (so that many stand there several times) and of many; in order, turned round, and mixed.
func TestListsOfNoRule(t *testing.T) {
	next := chance(6)
	every := all()
	for i := range 3000 {
		of := make([]api.Key, 1+next()%uint64(1+i%40))
		for j := range of {
			of[j] = every[next()%uint64(len(every))]
		}
		var l []api.Key
		for range next() % 50 {
			l = append(l, of[next()%uint64(len(of))])
		}
		holds(t, l)
		if i%3 == 0 {
			l = slowSort(l)
			holds(t, l)
			slices.Reverse(l)
			holds(t, l)
		}
	}
}

// Of a list in order in which two neighbours change their places, or one stands twice, each place is found.
func TestOnePlace(t *testing.T) {
	next := chance(7)
	every := all()
	l := every[:0:0]
	for i := 0; i < len(every); i += 1 + int(next()%100) {
		l = append(l, every[i])
	}
	if !Rising(l...) {
		t.Fatal("a list in order does not rise")
	}
	for i := range l[1:] {
		turned := slices.Clone(l)
		turned[i], turned[i+1] = turned[i+1], turned[i]
		if Rising(turned...) {
			t.Errorf("rises with places %d and %d changed", i, i+1)
		}
		if got := Sort(turned...); !slices.Equal(got, l) {
			t.Errorf("Sort with places %d and %d changed is another list", i, i+1)
		}
		if k, ok := Twice(turned...); k != (api.Key{}) || ok {
			t.Errorf("Twice with places %d and %d changed: %v, %t", i, i+1, k, ok)
		}
		double := slices.Insert(slices.Clone(l), i, l[i])
		if Rising(double...) {
			t.Errorf("rises with place %d twice", i)
		}
		if got := Sort(double...); !slices.Equal(got, l) {
			t.Errorf("Sort with place %d twice is another list", i)
		}
		if k, ok := Twice(double...); k != l[i] || !ok {
			t.Errorf("Twice with place %d twice: %v, %t; wanted %v", i, k, ok, l[i])
		}
		late := append(slices.Clone(l), l[i])
		if k, ok := Twice(late...); k != l[i] || !ok {
			t.Errorf("Twice with place %d again at the end: %v, %t; wanted %v", i, k, ok, l[i])
		}
	}
}

// A long list, with each key three times, in an order of no rule.
func TestLongList(t *testing.T) {
	var want []api.Key
	for i := range 50000 {
		want = append(want, api.Key{T: int64(i / 100), From: i / 10 % 10, Seq: uint32(i % 10)})
	}
	l := slices.Concat(want, want, want)
	next := chance(8)
	for i := range l {
		j := next() % uint64(len(l))
		l[i], l[j] = l[j], l[i]
	}
	if got := Sort(l...); !slices.Equal(got, want) {
		t.Errorf("Sort of %d keys: %d of them, or out of order", len(l), len(got))
	}
	if !Rising(want...) || Rising(l...) {
		t.Error("Rising of a long list")
	}
	if k, ok := Twice(want...); k != (api.Key{}) || ok {
		t.Errorf("Twice of a long list without twins: %v, %t", k, ok)
	}
	last := want[len(want)-1]
	if k, ok := Twice(append(slices.Clone(want), last)...); k != last || !ok {
		t.Errorf("Twice of a long list with its last one twice: %v, %t", k, ok)
	}
}

// P6.4

func TestText(t *testing.T) {
	for _, r := range []struct {
		k    api.Key
		want string
	}{
		{api.Key{T: 5, From: 1, Seq: 9}, "5.1.9"}, // the chapter's example
		{api.Key{}, "0.0.0"},
		{api.Key{T: 10, From: 63, Seq: 100}, "10.63.100"},
		{api.Key{T: 1234567890, From: 27, Seq: 987654321}, "1234567890.27.987654321"},
		{api.Key{T: api.MaxTime, From: 63, Seq: math.MaxUint32}, "1152921504606846976.63.4294967295"},
		{api.Key{Seq: 1 << 31}, "0.0.2147483648"},
		{api.Key{T: -1}, "-1.0.0"},
		{api.Key{T: -5, From: 2, Seq: 7}, "-5.2.7"},
		{api.Key{T: -1000, From: 10, Seq: 1000}, "-1000.10.1000"},
		{api.Key{T: math.MinInt64, From: 64}, "-9223372036854775808.64.0"},
		{api.Key{T: math.MaxInt64, From: math.MaxInt, Seq: 1}, "9223372036854775807.9223372036854775807.1"},
		{api.Key{From: -1}, "0.-1.0"},
		{api.Key{T: -3, From: math.MinInt}, "-3.-9223372036854775808.0"},
	} {
		if got := Text(r.k); got != r.want {
			t.Errorf("Text(%v): %q; wanted %q", r.k, got, r.want)
		}
	}
}

// Its parts are read again as whole numbers, and have but one form each.
func TestTextOfAll(t *testing.T) {
	for _, k := range all() {
		parts := strings.Split(Text(k), ".")
		if len(parts) != 3 {
			t.Fatalf("Text(%v): %q", k, Text(k))
		}
		for i, want := range []string{fmt.Sprint(k.T), fmt.Sprint(k.From), fmt.Sprint(k.Seq)} {
			x, ok := new(big.Int).SetString(parts[i], 10)
			if !ok || x.String() != parts[i] || parts[i] != want {
				t.Fatalf("Text(%v): %q", k, Text(k))
			}
		}
	}
}

// P6.5

func TestOfArrayIsTheKey(t *testing.T) {
	try := func(k api.Key) {
		t.Helper()
		got, ok := Of(Array(k))
		if k.From >= 0 && k.From <= 63 {
			if got != k || !ok {
				t.Fatalf("Of(Array(%v)): %v, %t", k, got, ok)
			}
		} else if got != (api.Key{}) || ok {
			t.Fatalf("Of(Array(%v)), of a From that is no node: %v, %t", k, got, ok)
		}
	}
	for _, k := range all() {
		try(k)
	}
	next := chance(9)
	for i := range 20000 {
		k := api.Key{T: int64(next()), From: i % 64, Seq: uint32(next())}
		try(k)
		k.From = int(next() >> (next() % 64))
		try(k)
		k.From = -k.From
		try(k)
	}
}

// What is sorted rises, each of its keys stands in l, and each key of l in it.
func TestSortedRises(t *testing.T) {
	next := chance(10)
	every := all()
	for range 2000 {
		var l []api.Key
		for range next() % 60 {
			l = append(l, every[next()%uint64(len(every))])
			if next()%3 == 0 {
				l = append(l, l[next()%uint64(len(l))])
			}
		}
		got := Sort(l...)
		if !Rising(got...) || !slowRising(got) {
			t.Fatalf("Sort(%v) does not rise: %v", l, got)
		}
		for _, k := range got {
			if !wasAhead(l, k) {
				t.Fatalf("Sort(%v) has %v", l, k)
			}
		}
		for _, k := range l {
			if !wasAhead(got, k) {
				t.Fatalf("Sort(%v) has not %v", l, k)
			}
		}
		if k, ok := Twice(got...); ok {
			t.Fatalf("Sort(%v) has %v twice", l, k)
		}
		if again := Sort(got...); !slices.Equal(again, got) {
			t.Fatalf("Sort of what is sorted: %v; wanted %v", again, got)
		}
	}
	slices.Reverse(every)
	if got := Sort(every...); !slices.Equal(got, all()) {
		t.Error("Sort of all keys turned round is not all keys")
	}
}
