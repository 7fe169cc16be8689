package cut

import (
	"fmt"
	"iter"
	"math"
	"slices"
	"testing"

	"angelus/api"
	"angelus/graph"
)

// far are numbers far below and far above all that count as themselves; some would be small ones, if only their lower bits were taken or their sign lost.
var far = []int{
	math.MinInt, math.MinInt + 1, math.MinInt + 2, math.MinInt + 63, -1 << 32, -1<<32 + 1, math.MinInt32, -256, -255, -129, -128, -65, -64, -63, -4, -3, -2, -1,
	64, 65, 66, 127, 128, 129, 256, 257, 258, 1 << 16, 1<<16 + 1, math.MaxInt32, 1 << 32, 1<<32 + 1, 1<<32 + 2, math.MaxInt - 1, math.MaxInt,
}

// all is every set's greatest.
const all = api.Set(math.MaxUint64)

// beyond are all nodes from n on.
func beyond(n int) api.Set { return all << n }

// chance answers numbers of no rule, the same ones each time.
func chance(x uint64) func() uint64 {
	return func() uint64 {
		x ^= x << 13
		x ^= x >> 7
		x ^= x << 17
		return x >> 8
	}
}

// below draws a number from 0 on below n.
func below(next func() uint64, n int) int { return int(next() % uint64(n)) }

// anySet draws a set, all of whose 64 bits may be 1.
func anySet(next func() uint64) api.Set { return api.Set(next()<<16 ^ next()) }

// plain is a graph as the chapter speaks of it: nodes and links.
type plain struct {
	n     int
	links [][2]int
}

// in tells whether a node is in a set.
func in(s api.Set, i int) bool {
	for range i {
		s /= 2
	}
	return s%2 == 1
}

// size is how many nodes a set has.
func size(s api.Set) int {
	k := 0
	for ; s > 0; s /= 2 {
		k += int(s % 2)
	}
	return k
}

// cuts tells whether some node is not reached from the first one that is left, or none is left: what is reached is marked, till no link has one end marked alone.
func (p plain) cuts(s api.Set) bool {
	var here, marked [64]bool
	left, first := 0, -1
	for i := p.n - 1; i >= 0; i-- {
		if here[i] = !in(s, i); here[i] {
			left++
			first = i
		}
	}
	if left == 0 {
		return true
	}
	marked[first] = true
	for again := true; again; {
		again = false
		for _, l := range p.links {
			a, b := l[0], l[1]
			if here[a] && here[b] && marked[a] != marked[b] {
				marked[a], marked[b], again = true, true, true
			}
		}
	}
	for _, is := range marked {
		if is {
			left--
		}
	}
	return left > 0
}

// sets are all sets of at most most of n nodes, n and most small, in order: made by putting each node into all sets ahead, and sorted.
func sets(n, most int) []api.Set {
	if most < 0 {
		return nil
	}
	l := []api.Set{0}
	worth := api.Set(1)
	for range n {
		for _, s := range l[:len(l):len(l)] {
			if size(s) < most {
				l = append(l, s+worth)
			}
		}
		worth *= 2
	}
	slices.SortFunc(l, func(a, b api.Set) int {
		if d := size(a) - size(b); d != 0 {
			return d
		}
		if a < b {
			return -1
		}
		return 1
	})
	return l
}

// first is the first set that cuts, of at most f nodes.
func (p plain) first(f int) (api.Set, bool) {
	for _, s := range sets(p.n, min(f, 3)) {
		if p.cuts(s) {
			return s, true
		}
	}
	return 0, false
}

// safe is what the chapter says, word by word.
func (p plain) safe(f int) bool {
	if f < 0 || f > 3 || p.n <= f {
		return false
	}
	for _, s := range sets(p.n, f) {
		if p.cuts(s) {
			return false
		}
	}
	return true
}

// strength is the greatest f that it is safe of.
func (p plain) strength() int {
	for f := 3; f >= 0; f-- {
		if p.safe(f) {
			return f
		}
	}
	return -1
}

// made is the graph of links that may be.
func made(t *testing.T, n int, links ...[2]int) *graph.Graph {
	t.Helper()
	g, e := graph.New(n, links...)
	if e != api.OK {
		t.Fatalf("graph.New(%d, %v): %d", n, links, e)
	}
	return g
}

// line links each node with the next one.
func line(n int) [][2]int {
	var l [][2]int
	for i := 1; i < n; i++ {
		l = append(l, [2]int{i - 1, i})
	}
	return l
}

// star links one node with each other.
func star(n, mid int) [][2]int {
	var l [][2]int
	for i := range n {
		if i != mid {
			l = append(l, [2]int{mid, i})
		}
	}
	return l
}

// thick is a ring of which each node is linked with so many behind it, and so many ahead.
func thick(n, wide int) [][2]int {
	var l [][2]int
	for i := range n {
		for d := 1; d <= wide; d++ {
			k := (i + d) % n
			twin := slices.Contains(l, [2]int{i, k}) || slices.Contains(l, [2]int{k, i})
			if i != k && !twin {
				l = append(l, [2]int{i, k})
			}
		}
	}
	return l
}

// sides are the links of each node below a with each from a on.
func sides(a, b int) [][2]int {
	var l [][2]int
	for i := range a {
		for k := a; k < a+b; k++ {
			l = append(l, [2]int{i, k})
		}
	}
	return l
}

// but is all links but some.
func but(l [][2]int, out ...[2]int) [][2]int {
	return slices.DeleteFunc(slices.Clone(l), func(x [2]int) bool {
		return slices.Contains(out, x) || slices.Contains(out, [2]int{x[1], x[0]})
	})
}

// asked are the numbers of failures that are asked of each graph.
var asked = append([]int{0, 1, 2, 3, 4, 5, 6, 7, 8, 63}, far...)

// holds asks a graph all that can be asked of it, with some sets taken out.
func holds(t *testing.T, what string, g *graph.Graph, p plain, out []api.Set) {
	t.Helper()
	for _, s := range out {
		if got, want := Cuts(g, s), p.cuts(s); got != want {
			t.Fatalf("%s: Cuts(%#x): %v", what, s, got)
		}
	}
	var firsts [5]api.Set // of f from -1 to 3
	var are, safes [5]bool
	for f := -1; f <= 3; f++ {
		firsts[f+1], are[f+1] = p.first(f)
		safes[f+1] = p.safe(f)
	}
	for _, f := range asked {
		k := min(max(f, -1), 3) + 1
		if s, is := First(g, f); s != firsts[k] || is != are[k] {
			t.Fatalf("%s: First(%d): %#x, %v; wanted %#x, %v", what, f, s, is, firsts[k], are[k])
		}
		if is, want := Safe(g, f), safes[k] && f <= 3; is != want {
			t.Fatalf("%s: Safe(%d): %v", what, f, is)
		}
	}
	if got, want := Strength(g), p.strength(); got != want {
		t.Fatalf("%s: Strength: %d; wanted %d", what, got, want)
	}
}

// stands is whether a graph has some strength, and is safe of just what that tells.
func stands(t *testing.T, what string, g *graph.Graph, want int) {
	t.Helper()
	if got := Strength(g); got != want {
		t.Errorf("%s: Strength: %d; wanted %d", what, got, want)
	}
	for _, f := range asked {
		if got := Safe(g, f); got != (f >= 0 && f <= want) {
			t.Errorf("%s: Safe(%d): %v", what, f, got)
		}
	}
}

// cutBy is whether the first set that cuts a graph, of at most f nodes, is this one.
func cutBy(t *testing.T, what string, g *graph.Graph, f int, want api.Set, is bool) {
	t.Helper()
	if got, ok := First(g, f); got != want || ok != is {
		t.Errorf("%s: First(%d): %#x, %v; wanted %#x, %v", what, f, got, ok, want, is)
	}
}

func TestExample(t *testing.T) {
	g := made(t, 4, graph.Ring(4)...)
	stands(t, "a ring of four", g, 1)
	cutBy(t, "a ring of four", g, 2, 5, true)
	if !Cuts(g, 5) {
		t.Error("a ring of four without 0 and 2 is whole")
	}
}

// P18.1

func TestCuts(t *testing.T) {
	tail := made(t, 6, [2]int{0, 1}, [2]int{2, 1}, [2]int{2, 3}, [2]int{3, 0}, [2]int{4, 3}, [2]int{5, 4})
	parts := made(t, 5, [2]int{0, 1}, [2]int{1, 2}, [2]int{3, 4})
	for _, r := range []struct {
		what string
		g    *graph.Graph
		s    api.Set
		want bool
	}{
		{"a ring with a tail, none out", tail, 0, false},
		{"a ring with a tail, one of its ring", tail, 1 << 1, false},
		{"a ring with a tail, the far one of its ring", tail, 1 << 0, false},
		{"a ring with a tail, two that part its ring", tail, 1<<0 | 1<<2, true},
		{"a ring with a tail, two beside each other", tail, 1<<0 | 1<<1, false},
		{"a ring with a tail, its root", tail, 1 << 3, true},
		{"a ring with a tail, its middle", tail, 1 << 4, true},
		{"a ring with a tail, its end", tail, 1 << 5, false},
		{"a ring with a tail, all the tail", tail, 1<<4 | 1<<5, false},
		{"a ring with a tail, all but its tail", tail, 1<<4 - 1, false},
		{"a ring with a tail, all but both ends", tail, 1<<6 - 1 - 1<<0 - 1<<5, true},
		{"a ring with a tail, all but one", tail, 1<<6 - 1 - 1<<2, false},
		{"a ring with a tail, all", tail, 1<<6 - 1, true},
		{"a ring with a tail, every set's greatest", tail, all, true},
		{"a ring with a tail, nodes it has not", tail, beyond(6), false},
		{"a ring with a tail, nodes it has not and one it has", tail, beyond(6) | 1<<3, true},
		{"a ring with a tail, all but its end, and nodes it has not", tail, all - 1<<5, false},
		{"parts, none out", parts, 0, true},
		{"parts, one out", parts, 1 << 3, true},
		{"parts, the lesser part out", parts, 1<<3 | 1<<4, false},
		{"parts, the greater part out", parts, 1<<0 | 1<<1 | 1<<2, false},
		{"parts, one of each left", parts, 1<<0 | 1<<1 | 1<<4, true},
		{"parts, one left", parts, 1<<5 - 1 - 1<<4, false},
		{"parts, nodes it has not", parts, 1 << 5, true},
	} {
		if got := Cuts(r.g, r.s); got != r.want {
			t.Errorf("%s: Cuts(%#x): %v", r.what, r.s, got)
		}
	}
}

func TestCutsOfOneNode(t *testing.T) {
	g := made(t, 1)
	for s, want := range map[api.Set]bool{0: false, 1: true, 2: false, 3: true, all: true, all - 1: false, 1 << 63: false, 1<<63 | 1: true} {
		if got := Cuts(g, s); got != want {
			t.Errorf("one node: Cuts(%#x): %v", s, got)
		}
	}
}

// Without links a graph is whole if one node alone is left.
func TestCutsWithoutLinks(t *testing.T) {
	for n := 1; n <= 64; n++ {
		g := made(t, n)
		have := all >> (64 - n)
		if got := Cuts(g, 0); got != (n > 1) {
			t.Errorf("%d nodes without links: Cuts(0): %v", n, got)
		}
		for i := range n {
			for _, s := range []api.Set{have - 1<<i, all - 1<<i} {
				if Cuts(g, s) {
					t.Errorf("%d nodes without links: Cuts(%#x)", n, s)
				}
			}
			for k := range i {
				if s := have - 1<<i - 1<<k; !Cuts(g, s) {
					t.Errorf("%d nodes without links: Cuts(%#x): false", n, s)
				}
			}
		}
	}
}

// All but one leave a whole graph, and all leave none, whichever the links.
func TestCutsOfAllAndAllButOne(t *testing.T) {
	for _, n := range []int{1, 2, 3, 7, 33, 64} {
		for _, links := range [][][2]int{nil, line(n), graph.Ring(n), graph.Full(n)} {
			g := made(t, n, links...)
			have := all >> (64 - n)
			if !Cuts(g, have) || !Cuts(g, all) {
				t.Errorf("%d nodes, %d links: not cut by all", n, len(links))
			}
			for i := range n {
				if Cuts(g, have-1<<i) || Cuts(g, all-1<<i) {
					t.Errorf("%d nodes, %d links: cut by all but %d", n, len(links), i)
				}
			}
		}
	}
}

func TestCutsOfNodesItHasNot(t *testing.T) {
	for n := 1; n < 64; n++ {
		g, parted := made(t, n, line(n)...), made(t, n)
		for _, s := range []api.Set{1 << n, 1 << 63, 1<<n | 1<<63, beyond(n)} {
			if Cuts(g, s) {
				t.Errorf("a line of %d: Cuts(%#x)", n, s)
			}
			if got := Cuts(parted, s); got != (n > 1) {
				t.Errorf("%d nodes without links: Cuts(%#x): %v", n, s, got)
			}
			for i := range n {
				want := n == 1 || i > 0 && i < n-1
				if got := Cuts(g, s|1<<i); got != want {
					t.Errorf("a line of %d: Cuts(%#x): %v", n, s|1<<i, got)
				}
			}
		}
	}
}

func TestCutsOfNil(t *testing.T) {
	next := chance(181)
	for _, s := range []api.Set{0, 1, 2, 3, 1 << 63, all, all - 1, anySet(next), anySet(next)} {
		if !Cuts(nil, s) {
			t.Errorf("Cuts(nil, %#x): false", s)
		}
	}
}

// A ring is parted by two that do not stand beside each other, and by no one.
func TestCutsOfRings(t *testing.T) {
	for _, n := range []int{3, 4, 5, 8, 63, 64} {
		g := made(t, n, graph.Ring(n)...)
		for a := range n {
			if Cuts(g, 1<<a) {
				t.Errorf("a ring of %d: Cuts(%#x)", n, api.Set(1)<<a)
			}
			for b := range a {
				want := a-b != 1 && a-b != n-1
				if got := Cuts(g, 1<<a|1<<b); got != want {
					t.Errorf("a ring of %d without %d and %d: %v", n, a, b, got)
				}
			}
		}
	}
}

// P18.2

// told are the sets that are told, in order.
func told(n, most int) []api.Set {
	var l []api.Set
	for s := range Each(n, most) {
		l = append(l, s)
	}
	return l
}

func TestEachByHand(t *testing.T) {
	for _, r := range []struct {
		n, most int
		want    []api.Set
	}{
		{3, 2, []api.Set{0, 1, 2, 4, 3, 5, 6}},
		{3, 3, []api.Set{0, 1, 2, 4, 3, 5, 6, 7}},
		{3, 1, []api.Set{0, 1, 2, 4}},
		{3, 0, []api.Set{0}},
		{3, -1, nil},
		{4, 2, []api.Set{0, 1, 2, 4, 8, 3, 5, 6, 9, 10, 12}},
		{4, 4, []api.Set{0, 1, 2, 4, 8, 3, 5, 6, 9, 10, 12, 7, 11, 13, 14, 15}},
		{5, 3, []api.Set{0, 1, 2, 4, 8, 16, 3, 5, 6, 9, 10, 12, 17, 18, 20, 24, 7, 11, 13, 14, 19, 21, 22, 25, 26, 28}},
		{2, 2, []api.Set{0, 1, 2, 3}},
		{2, 3, []api.Set{0, 1, 2, 3}},
		{1, 0, []api.Set{0}},
		{1, 1, []api.Set{0, 1}},
		{1, 2, []api.Set{0, 1}},
		{1, math.MaxInt, []api.Set{0, 1}},
		{1, -1, nil},
		{1, math.MinInt, nil},
		{0, 0, []api.Set{0}},
		{0, 1, []api.Set{0}},
		{0, math.MaxInt, []api.Set{0}},
		{0, -1, nil},
		{0, math.MinInt, nil},
		{-1, 0, []api.Set{0}},
		{-1, 3, []api.Set{0}},
		{-1, -1, nil},
		{math.MinInt, 0, []api.Set{0}},
		{math.MinInt, math.MaxInt, []api.Set{0}},
		{math.MinInt, math.MinInt, nil},
		{math.MaxInt, 0, []api.Set{0}},
		{math.MaxInt, -1, nil},
		{math.MaxInt, math.MinInt, nil},
		{64, 0, []api.Set{0}},
		{64, -1, nil},
	} {
		if got := told(r.n, r.most); !slices.Equal(got, r.want) {
			t.Errorf("Each(%d, %d): %v; wanted %v", r.n, r.most, got, r.want)
		}
	}
}

// All of few nodes, of each number of them, of numbers below 0 and above them, too.
func TestEachOfFewNodes(t *testing.T) {
	for n := range 14 {
		for most := -1; most <= n; most++ {
			if got := told(n, most); !slices.Equal(got, sets(n, most)) {
				t.Errorf("Each(%d, %d): %v", n, most, got)
			}
		}
		if n > 9 {
			continue
		}
		for _, most := range append([]int{n, n + 1, n + 2, 62, 63}, far...) {
			if got := told(n, most); !slices.Equal(got, sets(n, min(most, n))) {
				t.Errorf("Each(%d, %d): %v", n, most, got)
			}
		}
	}
}

func TestEachOfManyNodes(t *testing.T) {
	for _, n := range []int{15, 16, 17, 31, 32, 33, 48, 62, 63, 64} {
		for most := range 4 {
			if n > 48 && most == 3 && n != 64 {
				continue
			}
			want := sets(n, most)
			if got := told(n, most); !slices.Equal(got, want) {
				t.Errorf("Each(%d, %d): %d sets; wanted %d", n, most, len(got), len(want))
			}
		}
	}
}

// n below 0 counts as 0, above 64 as 64.
func TestEachKeepsItsNodes(t *testing.T) {
	one, two := sets(64, 1), sets(64, 2)
	for _, n := range far {
		if n < 0 {
			for _, most := range []int{0, 1, 2, 64, math.MaxInt} {
				if got := told(n, most); !slices.Equal(got, []api.Set{0}) {
					t.Errorf("Each(%d, %d): %v", n, most, got)
				}
			}
			continue
		}
		if got := told(n, 1); !slices.Equal(got, one) {
			t.Errorf("Each(%d, 1): %v", n, got)
		}
		if got := told(n, 2); !slices.Equal(got, two) {
			t.Errorf("Each(%d, 2): %d sets", n, len(got))
		}
		if got := told(n, -1); len(got) != 0 {
			t.Errorf("Each(%d, -1): %v", n, got)
		}
	}
}

// upTo are the first sets that an iterator tells.
func upTo(many int, seq iter.Seq[api.Set]) []api.Set {
	var l []api.Set
	for s := range seq {
		if l = append(l, s); len(l) == many {
			break
		}
	}
	return l
}

// There are too many to go over all of them; the first ones are told at once, whatever most is.
func TestEachBeginsOfManyNodes(t *testing.T) {
	want := sets(64, 3)
	for _, most := range []int{4, 5, 32, 62, 63, 64, 65, 1 << 32, 1<<32 + 1, math.MaxInt - 1, math.MaxInt} {
		for _, n := range []int{64, 65, math.MaxInt} {
			got := upTo(len(want)+3, Each(n, most))
			if !slices.Equal(got, append(want[:len(want):len(want)], 15, 23, 27)) {
				t.Errorf("Each(%d, %d): %d sets, the last ones %v", n, most, len(got), got[max(0, len(got)-4):])
			}
		}
	}
}

// How many sets there are of as many nodes is known, and those of one many end with the topmost nodes.
func TestEachHasAll(t *testing.T) {
	for _, r := range []struct{ n, most, many int }{
		{16, 16, 1 << 16}, {20, 20, 1 << 20}, {20, 10, 616666}, {20, 19, 1<<20 - 1}, {64, 1, 65}, {64, 2, 2081}, {64, 3, 43745}, {64, 4, 679121}, {40, 4, 102091},
	} {
		many, last := 0, api.Set(0)
		for s := range Each(r.n, r.most) {
			if many > 0 && (size(s) < size(last) || size(s) == size(last) && s <= last) {
				t.Fatalf("Each(%d, %d): %#x behind %#x", r.n, r.most, s, last)
			}
			if size(s) > r.most || s > all>>(64-r.n) {
				t.Fatalf("Each(%d, %d): %#x", r.n, r.most, s)
			}
			many++
			last = s
		}
		if top := all >> (64 - r.n) &^ (1<<(r.n-r.most) - 1); many != r.many || last != top {
			t.Errorf("Each(%d, %d): %d sets, the last one %#x; wanted %d, %#x", r.n, r.most, many, last, r.many, top)
		}
	}
}

// One may stop behind any set, and nothing is told behind that.
func TestEachStops(t *testing.T) {
	for _, r := range [][2]int{{0, 0}, {1, 1}, {2, 2}, {3, 2}, {5, 5}, {6, 3}, {64, 1}, {70, 2}} {
		seq := Each(r[0], r[1])
		full := told(r[0], r[1])
		for stop := range full {
			var got []api.Set
			seq(func(s api.Set) bool {
				got = append(got, s)
				return len(got) <= stop
			})
			if !slices.Equal(got, full[:stop+1]) {
				t.Fatalf("Each(%d, %d), stopped behind %d: %v", r[0], r[1], stop, got)
			}
		}
	}
}

// Each time an iterator is gone over it begins anew, wherever the last time stopped.
func TestEachAgain(t *testing.T) {
	for _, r := range [][2]int{{4, -1}, {0, 3}, {1, 1}, {5, 3}, {7, 7}, {64, 2}} {
		seq, want := Each(r[0], r[1]), sets(r[0], r[1])
		for k := range 4 {
			if got := slices.Collect(seq); !slices.Equal(got, want) {
				t.Fatalf("Each(%d, %d), time %d: %v", r[0], r[1], k, got)
			}
			if got := upTo(k+1, seq); !slices.Equal(got, want[:min(k+1, len(want))]) {
				t.Fatalf("Each(%d, %d), the first %d: %v", r[0], r[1], k+1, got)
			}
		}
	}
}

// The same iterator may be gone over within itself.
func TestEachWithinItself(t *testing.T) {
	seq, want := Each(5, 3), sets(5, 3)
	var outer []api.Set
	for s := range seq {
		outer = append(outer, s)
		var inner []api.Set
		for u := range seq {
			if inner = append(inner, u); u == s {
				break
			}
		}
		if !slices.Equal(inner, outer) {
			t.Fatalf("within %#x: %v", s, inner)
		}
		if got := slices.Collect(seq); !slices.Equal(got, want) {
			t.Fatalf("within %#x: %v", s, got)
		}
	}
	if !slices.Equal(outer, want) {
		t.Errorf("around: %v", outer)
	}
}

// Two that go over the same iterator in turns do not move each other on; nor do two iterators.
func TestEachInTurns(t *testing.T) {
	seq := Each(6, 4)
	a, stopA := iter.Pull(seq)
	defer stopA()
	b, stopB := iter.Pull(seq)
	defer stopB()
	c, stopC := iter.Pull(Each(6, 2))
	defer stopC()
	few := sets(6, 2)
	for k, want := range sets(6, 4) {
		x, isX := a()
		y, isY := b()
		z, isZ := c()
		if x != want || y != want || !isX || !isY {
			t.Fatalf("set %d: %#x and %#x", k, x, y)
		}
		if isZ != (k < len(few)) || isZ && z != few[k] {
			t.Fatalf("set %d of the lesser one: %#x, %v", k, z, isZ)
		}
	}
	if _, is := a(); is {
		t.Error("a set behind the last one")
	}
}

// P18.3

func TestFirst(t *testing.T) {
	full := func(n int) *graph.Graph { return made(t, n, graph.Full(n)...) }
	for _, r := range []struct {
		what string
		g    *graph.Graph
		f    int
		want api.Set
		is   bool
	}{
		{"one node", made(t, 1), 0, 0, false},
		{"one node", made(t, 1), 1, 1, true},
		{"one node", made(t, 1), 3, 1, true},
		{"one node", made(t, 1), -1, 0, false},
		{"two nodes", full(2), 0, 0, false},
		{"two nodes", full(2), 1, 0, false},
		{"two nodes", full(2), 2, 3, true},
		{"two nodes", full(2), 3, 3, true},
		{"three nodes", full(3), 2, 0, false},
		{"three nodes", full(3), 3, 7, true},
		{"three nodes", full(3), math.MaxInt, 7, true},
		{"four nodes", full(4), 3, 0, false},
		{"four nodes", full(4), 4, 0, false}, // all four would cut it, but 4 counts as 3
		{"four nodes", full(4), math.MaxInt, 0, false},
		{"two nodes without a link", made(t, 2), 0, 0, true},
		{"two nodes without a link", made(t, 2), 3, 0, true},
		{"two nodes without a link", made(t, 2), -1, 0, false},
		{"two nodes without a link", made(t, 2), math.MinInt, 0, false},
		{"a line of three", made(t, 3, line(3)...), 0, 0, false},
		{"a line of three", made(t, 3, line(3)...), 1, 2, true},
		{"a line of three", made(t, 3, line(3)...), 2, 2, true},
		{"a line of five", made(t, 5, line(5)...), 1, 2, true}, // 2 and 3 cut it, too
		{"a line of five", made(t, 5, line(5)...), 3, 2, true},
		{"a line the other way on", made(t, 4, [2]int{1, 0}, [2]int{0, 3}, [2]int{3, 2}), 3, 1, true},
		{"a star", made(t, 5, star(5, 3)...), 0, 0, false},
		{"a star", made(t, 5, star(5, 3)...), 1, 8, true},
		{"a star", made(t, 5, star(5, 0)...), 2, 1, true},
		{"a ring of three", made(t, 3, graph.Ring(3)...), 2, 0, false},
		{"a ring of three", made(t, 3, graph.Ring(3)...), 3, 7, true},
		{"a ring of four", made(t, 4, graph.Ring(4)...), 1, 0, false},
		{"a ring of four", made(t, 4, graph.Ring(4)...), 3, 5, true}, // 1 and 3 cut it, too
		{"a ring of six", made(t, 6, graph.Ring(6)...), 2, 5, true},
		{"a ring the other way round", made(t, 4, [2]int{0, 1}, [2]int{1, 3}, [2]int{3, 2}, [2]int{2, 0}), 2, 6, true}, // 0 and 3 cut it, too: 9
		{"two sides of three", made(t, 6, sides(3, 3)...), 2, 0, false},
		{"two sides of three", made(t, 6, sides(3, 3)...), 3, 7, true},
		{"two sides of three", made(t, 6, sides(3, 3)...), 4, 7, true},
		{"two sides of two and three", made(t, 5, sides(2, 3)...), 3, 3, true},
		{"two sides of three and two", made(t, 5, sides(3, 2)...), 3, 24, true},
		{"two sides of four", made(t, 8, sides(4, 4)...), 4, 0, false}, // four cut it, but 4 counts as 3
		{"all links but one", made(t, 5, but(graph.Full(5), [2]int{1, 3})...), 3, 1<<0 | 1<<2 | 1<<4, true},
		{"all links but one", made(t, 5, but(graph.Full(5), [2]int{1, 3})...), 2, 0, false},
		{"all links but one, of six", made(t, 6, but(graph.Full(6), [2]int{1, 3})...), 3, 0, false},
		{"a ring with a tail", made(t, 5, append(graph.Ring(4), [2]int{2, 4})...), 3, 4, true},
		{"two triangles that share a node", made(t, 5, [2]int{0, 1}, [2]int{0, 4}, [2]int{1, 4}, [2]int{2, 3}, [2]int{2, 4}, [2]int{3, 4}), 3, 16, true},
		{"a node alone", made(t, 4, graph.Full(3)...), 0, 0, true},
		{"a node alone", made(t, 4, graph.Full(3)...), 1, 0, true}, // without it the others are whole, but none is ahead of one
		{"a node alone", made(t, 4, graph.Full(3)...), -1, 0, false},
		{"no graph", nil, 0, 0, true},
		{"no graph", nil, 3, 0, true},
		{"no graph", nil, math.MaxInt, 0, true},
		{"no graph", nil, -1, 0, false},
		{"no graph", nil, math.MinInt, 0, false},
	} {
		cutBy(t, r.what, r.g, r.f, r.want, r.is)
	}
}

// Of f below 0 there is no set that cuts, and of f above 3 just those of 3.
func TestFirstKeepsF(t *testing.T) {
	for name, g := range shapes(t) {
		want, is := First(g, 3)
		for _, f := range asked {
			switch {
			case f < 0:
				cutBy(t, name, g, f, 0, false)
			case f > 3:
				cutBy(t, name, g, f, want, is)
			}
		}
	}
}

// The topmost nodes cut, too, when none ahead of them does.
func TestFirstOfTheTopmostNodes(t *testing.T) {
	for k := 1; k <= 3; k++ {
		links := graph.Full(63) // without the links of node 63, but those with the nodes just below it
		for i := range k {
			links = append(links, [2]int{63, 62 - i})
		}
		g := made(t, 64, links...)
		want := (api.Set(1)<<k - 1) << (63 - k)
		cutBy(t, fmt.Sprintf("the topmost of 64, linked with %d", k), g, k, want, true)
		cutBy(t, fmt.Sprintf("the topmost of 64, linked with %d", k), g, k-1, 0, false)
		stands(t, fmt.Sprintf("the topmost of 64, linked with %d", k), g, k-1)
	}
	for i := 61; i < 64; i++ { // the nodes of two parts are linked over one to three of the topmost ones alone
		mid := all &^ (1<<i - 1)
		var links [][2]int
		for _, l := range graph.Full(64) {
			if in(mid, l[0]) || in(mid, l[1]) || l[0]%2 == l[1]%2 {
				links = append(links, l)
			}
		}
		g := made(t, 64, links...)
		cutBy(t, fmt.Sprintf("two parts over %#x", mid), g, 64-i, mid, true)
		cutBy(t, fmt.Sprintf("two parts over %#x", mid), g, 63-i, 0, false)
		cutBy(t, fmt.Sprintf("two parts over %#x", mid), g, math.MaxInt, mid, true)
	}
}

// Of just f nodes no graph is safe of f; of one more, or of two more, only that one which has all links; of three more a link may be missing.
func TestSafeOfFewNodes(t *testing.T) {
	for f := range 4 {
		if f > 0 && Safe(made(t, f, graph.Full(f)...), f) {
			t.Errorf("%d nodes are safe of %d", f, f)
		}
		for n := f + 1; n <= f+3; n++ {
			if g := made(t, n, graph.Full(n)...); !Safe(g, f) {
				t.Errorf("%d nodes with all links are not safe of %d", n, f)
			}
		}
		for n := f + 1; n <= f+3; n++ {
			for _, l := range graph.Full(n) {
				if got := Safe(made(t, n, but(graph.Full(n), l)...), f); got != (n == f+3) {
					t.Errorf("%d nodes without the link %v: Safe(%d): %v", n, l, f, got)
				}
			}
		}
	}
}

func TestSafeOfNoFaultThatMayBe(t *testing.T) {
	for name, g := range shapes(t) {
		for _, f := range append([]int{4, 5, 6, 63}, far...) {
			if Safe(g, f) {
				t.Errorf("%s: Safe(%d)", name, f)
			}
		}
	}
}

// To be safe of none is to be whole.
func TestSafeOfNone(t *testing.T) {
	for name, g := range shapes(t) {
		if got := Safe(g, 0); got != !Cuts(g, 0) {
			t.Errorf("%s: Safe(0): %v", name, got)
		}
	}
}

func TestOfNil(t *testing.T) {
	stands(t, "no graph", nil, -1)
	for _, f := range asked {
		cutBy(t, "no graph", nil, f, 0, f >= 0)
	}
}

// P18.4

func TestStrengthOfFullGraphs(t *testing.T) {
	for n := 1; n <= 64; n++ {
		if n > 12 && n%13 != 0 && n < 63 {
			continue
		}
		stands(t, fmt.Sprintf("all links of %d", n), made(t, n, graph.Full(n)...), min(n-1, 3))
	}
}

func TestStrengthOfRingsAndLines(t *testing.T) {
	for n := 1; n <= 64; n++ {
		ring, row := 1, 0
		if n < 3 {
			ring, row = n-1, n-1
		}
		if n == 3 {
			ring = 2 // each node of it is linked with each
		}
		stands(t, fmt.Sprintf("a ring of %d", n), made(t, n, graph.Ring(n)...), ring)
		stands(t, fmt.Sprintf("a line of %d", n), made(t, n, line(n)...), row)
	}
}

func TestStrengthOfStars(t *testing.T) {
	for n := 3; n <= 64; n++ {
		for _, mid := range []int{0, n / 2, n - 1} {
			g := made(t, n, star(n, mid)...)
			stands(t, fmt.Sprintf("a star of %d", n), g, 0)
			cutBy(t, fmt.Sprintf("a star of %d", n), g, 1, 1<<mid, true)
		}
	}
}

// A ring whose nodes are linked with those two and three off, too, bears as many faults more.
func TestStrengthOfThickRings(t *testing.T) {
	for _, n := range []int{5, 6, 7, 8, 12, 20, 64} {
		for wide := 1; wide <= 3; wide++ {
			want := min(2*wide-1, 3)
			if n <= 2*wide+1 { // all links
				want = min(n-1, 3)
			}
			stands(t, fmt.Sprintf("a ring of %d, %d wide", n, wide), made(t, n, thick(n, wide)...), want)
		}
	}
}

// What cuts two sides is one whole side.
func TestStrengthOfTwoSides(t *testing.T) {
	for a := 1; a <= 6; a++ {
		for b := 1; b <= 6; b++ {
			want := min(a, b) - 1
			if a == 1 && b == 1 {
				want = 1
			}
			stands(t, fmt.Sprintf("sides of %d and %d", a, b), made(t, a+b, sides(a, b)...), min(want, 3))
		}
	}
}

func TestStrengthOfWhatIsNotWhole(t *testing.T) {
	for n := 2; n <= 64; n++ {
		stands(t, fmt.Sprintf("%d nodes without links", n), made(t, n), -1)
		for _, alone := range []int{0, n / 2, n - 1} {
			links := slices.DeleteFunc(graph.Full(n), func(l [2]int) bool { return l[0] == alone || l[1] == alone })
			stands(t, fmt.Sprintf("%d alone of %d", alone, n), made(t, n, links...), -1)
		}
	}
}

// P18.5

// agrees asks what the promise tells, of the program's own answers.
func agrees(t *testing.T, what string, g *graph.Graph) {
	t.Helper()
	n := g.N()
	for f := 0; f <= api.MaxFault; f++ {
		if !Safe(g, f) {
			continue
		}
		for fewer := range f {
			if !Safe(g, fewer) {
				t.Fatalf("%s: safe of %d, and not of %d", what, f, fewer)
			}
		}
		for i := range n {
			if size(g.Near(i)) <= f && n-1 > f {
				t.Fatalf("%s: safe of %d, and node %d has %d links", what, f, i, size(g.Near(i)))
			}
		}
	}
}

// more links each two that are not linked, one pair at a time.
func more(t *testing.T, what string, g *graph.Graph) {
	t.Helper()
	was := Strength(g)
	for _, l := range graph.Full(g.N()) {
		if g.Linked(l[0], l[1]) {
			continue
		}
		if is := Strength(made(t, g.N(), append(g.Links(), l)...)); is < was {
			t.Fatalf("%s: Strength %d, and %d with the link %v", what, was, is, l)
		}
	}
}

// shapes are graphs of many kinds.
func shapes(t *testing.T) map[string]*graph.Graph {
	t.Helper()
	m := map[string]*graph.Graph{}
	for _, n := range []int{1, 2, 3, 4, 5, 6, 9} {
		for name, links := range map[string][][2]int{
			"no links": nil, "a line": line(n), "a ring": graph.Ring(n), "all links": graph.Full(n), "a star": star(n, n/2),
			"a ring two wide": thick(n, 2), "two sides": sides(n/2, n-n/2), "all links but one": but(graph.Full(n), [2]int{0, n - 1}),
		} {
			m[fmt.Sprintf("%s, of %d", name, n)] = made(t, n, links...)
		}
	}
	return m
}

func TestShapes(t *testing.T) {
	for name, g := range shapes(t) {
		out := []api.Set{all, all - 1, beyond(g.N()), 1 << 63}
		for s := range api.Set(1) << g.N() {
			out = append(out, s, s|1<<63)
		}
		holds(t, name, g, plain{g.N(), g.Links()}, out)
		agrees(t, name, g)
		more(t, name, g)
	}
}

// All graphs of few nodes, and all sets of their nodes.
func TestAllGraphsOfFewNodes(t *testing.T) {
	for n := 1; n <= 6; n++ {
		pairs := graph.Full(n)
		step := 1
		if n == 6 {
			step = 41
		}
		for which := 0; which < 1<<len(pairs); which += step {
			var links [][2]int
			for k, p := range pairs {
				if which>>k&1 == 1 {
					links = append(links, p)
				}
			}
			what := fmt.Sprintf("%d nodes, %v", n, links)
			g := made(t, n, links...)
			var out []api.Set
			for s := range api.Set(1) << n {
				out = append(out, s, s|anySet(chance(uint64(which)+uint64(s)+1))<<n)
			}
			holds(t, what, g, plain{n, links}, out)
			agrees(t, what, g)
			more(t, what, g)
		}
	}
}

// drawn are links of n nodes, each there by so many of 64.
func drawn(next func() uint64, n, often int) [][2]int {
	var l [][2]int
	for _, p := range graph.Full(n) {
		if below(next, 64) < often {
			if k := below(next, 2); k == 1 {
				p[0], p[1] = p[1], p[0]
			}
			l = append(l, p)
		}
	}
	return l
}

func TestGraphsByChance(t *testing.T) {
	next := chance(182)
	for k := range 160 {
		n := 6 + below(next, 9)
		links := drawn(next, n, 16+below(next, 49))
		what := fmt.Sprintf("graph %d, %d nodes, %v", k, n, links)
		g := made(t, n, links...)
		var out []api.Set
		for range 40 {
			out = append(out, anySet(next), anySet(next)&anySet(next), anySet(next)|anySet(next)|anySet(next))
		}
		holds(t, what, g, plain{n, links}, out)
		agrees(t, what, g)
		if k%4 == 0 {
			more(t, what, g)
		}
	}
}

// two are the links of two parts that have so many nodes in common, all nodes numbered by chance: of each two of one part most are linked.
func two(next func() uint64, n, common int) [][2]int {
	place := anyOrder(next, n)
	var l [][2]int
	for _, p := range graph.Full(n) {
		a, b := p[0], p[1]
		if a >= common && a%2 != b%2 || below(next, 8) == 0 {
			continue
		}
		l = append(l, [2]int{place[a], place[b]})
	}
	return l
}

// anyOrder is an order of n nodes.
func anyOrder(next func() uint64, n int) []int {
	place := make([]int, n)
	for i := range place {
		k := below(next, i+1)
		place[i] = place[k]
		place[k] = i
	}
	return place
}

// Greater ones, of each strength.
func TestGreatGraphsByChance(t *testing.T) {
	next := chance(183)
	var had [5]int // of each strength from -1
	for k := range 50 {
		n := 18 + below(next, 47)
		p := plain{n, two(next, n, k%5)}
		g := made(t, n, p.links...)
		what := fmt.Sprintf("graph %d, %d nodes, %v", k, n, p.links)
		had[Strength(g)+1]++
		cut, is := p.first(3)
		cutBy(t, what, g, 3, cut, is)
		want := 3
		if is {
			want = size(cut) - 1
		}
		if got := Strength(g); got != want {
			t.Errorf("%s: Strength: %d; wanted %d", what, got, want)
		}
		for f := -1; f <= 4; f++ {
			if got := Safe(g, f); got != (f >= 0 && f <= want) {
				t.Errorf("%s: Safe(%d): %v", what, f, got)
			}
		}
		agrees(t, what, g)
	}
	for k, many := range had {
		if many < 5 {
			t.Errorf("few graphs of strength %d were drawn: %v", k-1, had)
		}
	}
}

// How nodes are numbered makes no graph safer.
func TestStrengthInAnyOrder(t *testing.T) {
	next := chance(184)
	for range 60 {
		n := 4 + below(next, 30)
		links := drawn(next, n, 8+below(next, 40))
		place := anyOrder(next, n)
		var moved [][2]int
		for _, l := range links {
			moved = append(moved, [2]int{place[l[0]], place[l[1]]})
		}
		if a, b := Strength(made(t, n, links...)), Strength(made(t, n, moved...)); a != b {
			t.Fatalf("%d nodes, %v: %d, and %d by the order %v", n, links, a, b, place)
		}
	}
}

// The graph that is asked stays as it was, and answers the same ever again.
func TestGraphStays(t *testing.T) {
	for name, g := range shapes(t) {
		n, links := g.N(), g.Links()
		var cuts []api.Set
		for range 2 {
			var again []api.Set
			for s := range Each(n, 3) {
				if Cuts(g, s) {
					again = append(again, s)
				}
			}
			if cuts == nil {
				cuts = again
			}
			if !slices.Equal(again, cuts) {
				t.Errorf("%s: cut by %v, then by %v", name, cuts, again)
			}
		}
		was := Strength(g)
		s, is := First(g, 3)
		Cuts(g, all)
		Safe(g, 3)
		cutBy(t, name, g, 3, s, is)
		stands(t, name, g, was)
		if g.N() != n || !slices.Equal(g.Links(), links) {
			t.Errorf("%s: its links were %v and are %v", name, links, g.Links())
		}
	}
}

// What is held against the program holds itself.
func TestPlain(t *testing.T) {
	if got := sets(3, 2); !slices.Equal(got, []api.Set{0, 1, 2, 4, 3, 5, 6}) {
		t.Errorf("sets(3, 2): %v", got)
	}
	if got := len(sets(10, 10)); got != 1024 {
		t.Errorf("sets(10, 10): %d", got)
	}
	if got := sets(10, -1); got != nil {
		t.Errorf("sets(10, -1): %v", got)
	}
	ring := plain{4, graph.Ring(4)}
	if s, is := ring.first(2); s != 5 || !is || ring.strength() != 1 || ring.safe(2) || ring.cuts(3) || !ring.cuts(5) {
		t.Errorf("a ring of four: %#x, %v, %d", s, is, ring.strength())
	}
	if s, is := ring.first(1); s != 0 || is {
		t.Errorf("a ring of four, one out: %#x, %v", s, is)
	}
	for n := 1; n <= 6; n++ {
		if got := (plain{n, graph.Full(n)}).strength(); got != min(n-1, 3) {
			t.Errorf("all links of %d: %d", n, got)
		}
	}
	if (plain{2, nil}).strength() != -1 || !(plain{3, nil}).cuts(1) || (plain{3, nil}).cuts(3) || !(plain{3, nil}).cuts(7) {
		t.Error("without links")
	}
}
