package graph

import (
	"fmt"
	"math"
	"slices"
	"testing"

	"angelus/api"
)

// strays are numbers that no graph has as nodes; some would be one, if only their lower bits were taken or their sign lost.
var strays = []int{
	math.MinInt, math.MinInt + 1, -1 << 32, math.MinInt32, -256, -129, -128, -65, -64, -63, -2, -1,
	64, 65, 66, 127, 128, 129, 256, 257, 1 << 16, 1<<16 + 1, math.MaxInt32, 1 << 32, 1<<32 + 1, math.MaxInt - 1, math.MaxInt,
}

// notSizes are of how many nodes no graph can be.
var notSizes = []int{
	math.MinInt, math.MinInt + 1, -1 << 32, math.MinInt32, -256, -65, -64, -63, -3, -2, -1, 0,
	65, 66, 127, 128, 256, 257, 1 << 16, math.MaxInt32, 1 << 32, 1<<32 + 3, math.MaxInt - 1, math.MaxInt,
}

// chance answers numbers of no rule, the same ones each time.
func chance(x uint64) func() uint64 {
	return func() uint64 {
		x ^= x << 13
		x ^= x >> 7
		x ^= x << 17
		return x >> 8
	}
}

// below draws a number from 0 on below n.
func below(next func() uint64, n int) int { return int(next() % uint64(n)) }

// shuffled are links in an order drawn by chance, each one either way round.
func shuffled(next func() uint64, links [][2]int) [][2]int {
	l := slices.Clone(links)
	for i := range l {
		k := below(next, i+1)
		l[i], l[k] = l[k], l[i]
	}
	for i := range l {
		if next()%2 == 0 {
			l[i] = turned(l[i])
		}
	}
	return l
}

// turned is a link the other way round.
func turned(l [2]int) [2]int { return [2]int{l[1], l[0]} }

// plain is a graph as the chapter tells it: of each two nodes, whether they are linked.
type plain struct {
	n  int
	is [64][64]bool
}

// plainOf is P16.1, read link by link: a graph, or what is wrong with the first link that may not be.
func plainOf(n int, links [][2]int) (plain, api.Errno) {
	if n < 1 || n > 64 {
		return plain{}, api.ErrArg
	}
	p := plain{n: n}
	for _, l := range links {
		a, b := l[0], l[1]
		if a < 0 || b < 0 || a >= n || b >= n {
			return plain{}, api.ErrNode
		}
		if a == b {
			return plain{}, api.ErrForm
		}
		if p.is[a][b] || p.is[b][a] {
			return plain{}, api.ErrDup
		}
		p.is[a][b], p.is[b][a] = true, true
	}
	return p, api.OK
}

// linked tells of any two numbers whether they are linked nodes.
func (p plain) linked(a, b int) bool {
	return a >= 0 && b >= 0 && a < p.n && b < p.n && p.is[a][b]
}

// near is the set of all that are linked with a number.
func (p plain) near(i int) api.Set {
	s, worth := api.Set(0), api.Set(1)
	for k := 0; k < p.n; k++ {
		if p.linked(i, k) {
			s += worth
		}
		worth *= 2
	}
	return s
}

// links are all, each once, in the order of P16.2.
func (p plain) links() [][2]int {
	l := [][2]int{}
	for a := 0; a < p.n; a++ {
		for b := 0; b < p.n; b++ {
			if a < b && p.is[a][b] {
				l = append(l, [2]int{a, b})
			}
		}
	}
	return l
}

// without is P16.3.
func (p plain) without(s api.Set) plain {
	for a := 0; a < p.n; a++ {
		out := s%2 == 1
		s /= 2
		for b := 0; b < p.n && out; b++ {
			p.is[a][b], p.is[b][a] = false, false
		}
	}
	return p
}

// made is the graph of links that may be.
func made(t *testing.T, n int, links ...[2]int) *Graph {
	t.Helper()
	g, e := New(n, links...)
	if e != api.OK || g == nil {
		t.Fatalf("New(%d, %v): %v, %d", n, links, g != nil, e)
	}
	return g
}

// asked are the numbers that a graph of n nodes is asked of: its nodes, those about its end, and such as none has.
func asked(n int) []int {
	l := append([]int{n, n + 1, n + 2, 62, 63}, strays...)
	for i := 0; i < n; i++ {
		l = append(l, i)
	}
	return l
}

// holds asks a graph all that it can be asked, and holds it against a plain one.
func holds(t *testing.T, what string, g *Graph, p plain) {
	t.Helper()
	if g == nil {
		t.Fatalf("%s: no graph", what)
	}
	if g.N() != p.n {
		t.Fatalf("%s: N: %d; wanted %d", what, g.N(), p.n)
	}
	if got, want := g.Links(), p.links(); !slices.Equal(got, want) {
		t.Fatalf("%s: Links: %v; wanted %v", what, got, want)
	}
	all := asked(p.n)
	for _, a := range all {
		if got, want := g.Near(a), p.near(a); got != want {
			t.Fatalf("%s: Near(%d): %#x; wanted %#x", what, a, got, want)
		}
		for _, b := range all {
			if got, want := g.Linked(a, b), p.linked(a, b); got != want {
				t.Fatalf("%s: Linked(%d, %d): %v", what, a, b, got)
			}
		}
	}
}

// tells asks of one call of New that it is as the chapter says, and hands the graph back.
func tells(t *testing.T, n int, links [][2]int) *Graph {
	t.Helper()
	was := slices.Clone(links)
	p, want := plainOf(n, links)
	g, e := New(n, links...)
	if !slices.Equal(links, was) {
		t.Fatalf("New(%d, %v) changed what was handed in: %v", n, was, links)
	}
	if e != want || (g == nil) != (e != api.OK) {
		t.Fatalf("New(%d, %v): %v, %d; wanted %d", n, was, g != nil, e, want)
	}
	if e == api.OK {
		holds(t, fmt.Sprintf("New(%d, %v)", n, was), g, p)
	}
	return g
}

// refused asks that New tells that error, and no graph.
func refused(t *testing.T, want api.Errno, n int, links ...[2]int) {
	t.Helper()
	if g, e := New(n, links...); e != want || g != nil {
		t.Errorf("New(%d, %v): %v, %d; wanted none, %d", n, links, g != nil, e, want)
	}
}

// P16.1

func TestExample(t *testing.T) {
	g := made(t, 3, [2]int{0, 1}, [2]int{2, 1})
	if got := g.Near(1); got != 1<<0|1<<2 {
		t.Errorf("Near(1): %#x", got)
	}
	if got := g.Links(); !slices.Equal(got, [][2]int{{0, 1}, {1, 2}}) {
		t.Errorf("Links: %v", got)
	}
	if g.N() != 3 || g.Near(0) != 1<<1 || g.Near(2) != 1<<1 {
		t.Errorf("N %d, Near %#x, %#x", g.N(), g.Near(0), g.Near(2))
	}
	for _, r := range []struct {
		a, b int
		want bool
	}{{0, 1, true}, {1, 0, true}, {1, 2, true}, {2, 1, true}, {0, 2, false}, {2, 0, false}, {1, 1, false}} {
		if got := g.Linked(r.a, r.b); got != r.want {
			t.Errorf("Linked(%d, %d): %v", r.a, r.b, got)
		}
	}
}

func TestNewOfHowMany(t *testing.T) {
	for n := 1; n <= 64; n++ {
		g := made(t, n)
		holds(t, fmt.Sprintf("New(%d)", n), g, plain{n: n})
		if len(g.Links()) != 0 {
			t.Errorf("New(%d): Links: %v", n, g.Links())
		}
		tells(t, n, nil)
		tells(t, n, [][2]int{})
	}
	for _, n := range notSizes {
		refused(t, api.ErrArg, n)
	}
}

// Of how many nodes it is comes ahead of all that may be wrong with links.
func TestNewOfTooFewOrTooManyComesFirst(t *testing.T) {
	wrongs := [][][2]int{
		{{0, 1}}, {{0, 0}}, {{-1, 0}}, {{0, 64}}, {{0, 1}, {1, 0}}, {{0, 1}, {0, 1}}, {{5, 5}, {-1, -1}},
		{{64, 64}}, {{math.MaxInt, math.MinInt}}, {{63, 64}}, Full(64), {{0, 1}, {1, 2}},
	}
	for _, n := range notSizes {
		for _, l := range wrongs {
			refused(t, api.ErrArg, n, l...)
		}
		refused(t, api.ErrArg, n, [2]int{n, n}, [2]int{0, n - 1})
	}
	refused(t, api.ErrNode, 1, [2]int{0, 1}) // of these many it is the link that may not be
	refused(t, api.ErrNode, 64, [2]int{0, 64})
	refused(t, api.ErrForm, 1, [2]int{0, 0})
	refused(t, api.ErrForm, 64, [2]int{63, 63})
}

// strangers are numbers that are no nodes of a graph of n.
func strangers(n int) []int {
	l := slices.Clone(strays)
	for i := n; i < 64; i++ {
		l = append(l, i)
	}
	return l
}

func TestNewOfNoNodes(t *testing.T) {
	for _, n := range []int{1, 2, 3, 4, 8, 31, 32, 33, 62, 63, 64} {
		for _, x := range strangers(n) {
			for _, i := range []int{0, n / 2, n - 1} {
				refused(t, api.ErrNode, n, [2]int{x, i})
				refused(t, api.ErrNode, n, [2]int{i, x})
				refused(t, api.ErrNode, n, append(Ring(n), [2]int{i, x})...)
				refused(t, api.ErrNode, n, append(Ring(n), [2]int{x, i})...)
			}
			refused(t, api.ErrNode, n, [2]int{x, x}) // both are the same, but this comes first
			refused(t, api.ErrNode, n, [2]int{x, x}, [2]int{x, x})
			for _, y := range strays {
				refused(t, api.ErrNode, n, [2]int{x, y})
			}
		}
		if n > 1 {
			made(t, n, [2]int{0, n - 1})
			made(t, n, [2]int{n - 1, 0})
		}
	}
}

func TestNewOfANodeWithItself(t *testing.T) {
	for n := 1; n <= 64; n++ {
		for i := 0; i < n; i++ {
			refused(t, api.ErrForm, n, [2]int{i, i})
			refused(t, api.ErrForm, n, append(Ring(n), [2]int{i, i})...)
			refused(t, api.ErrForm, n, [2]int{i, i}, [2]int{i, i}) // the first one tells, and it was not there ahead
		}
		refused(t, api.ErrNode, n, [2]int{n, n})
		refused(t, api.ErrNode, n, [2]int{-1, -1})
	}
}

func TestNewOfLinksThatStandTwice(t *testing.T) {
	for _, n := range []int{2, 3, 4, 5, 17, 63, 64} {
		all := Full(n)
		for i, l := range all {
			refused(t, api.ErrDup, n, l, l)
			refused(t, api.ErrDup, n, l, turned(l))
			refused(t, api.ErrDup, n, turned(l), l)
			refused(t, api.ErrDup, n, turned(l), turned(l))
			if i%7 == 0 || n < 20 {
				refused(t, api.ErrDup, n, append(slices.Clone(all), l)...)
				refused(t, api.ErrDup, n, append(slices.Clone(all), turned(l))...)
			}
		}
		made(t, n, all...)
	}
	refused(t, api.ErrDup, 4, [2]int{0, 1}, [2]int{2, 3}, [2]int{1, 2}, [2]int{3, 2})
	made(t, 4, [2]int{0, 1}, [2]int{2, 3}, [2]int{1, 2}, [2]int{3, 1})
	// Unlike links that have both a node, or a sum, or a difference in common.
	made(t, 8, [2]int{0, 5}, [2]int{1, 4}, [2]int{2, 3}, [2]int{1, 5}, [2]int{0, 4}, [2]int{5, 4}, [2]int{0, 1})
	made(t, 64, [2]int{1, 0}, [2]int{0, 63}, [2]int{63, 1}, [2]int{2, 62}, [2]int{62, 63}, [2]int{2, 1})
}

// Each row of up to four links out of a few that may be and a few that may not: the first one that may not be tells.
func TestNewOfSeveralFaults(t *testing.T) {
	few := [][2]int{{0, 1}, {1, 0}, {2, 1}, {0, 2}, {1, 1}, {2, 2}, {3, 3}, {-1, 0}, {0, 3}, {math.MaxInt, math.MinInt}}
	var rows func(ahead [][2]int)
	rows = func(ahead [][2]int) {
		tells(t, 3, ahead)
		if len(ahead) == 4 {
			return
		}
		for _, l := range few {
			rows(append(slices.Clone(ahead), l))
		}
	}
	rows(nil)
}

// Each row of up to three links of the numbers from -1 to n.
func TestNewOfAllSmallRows(t *testing.T) {
	for n := 1; n <= 3; n++ {
		var all [][2]int
		for a := -1; a <= n; a++ {
			for b := -1; b <= n; b++ {
				all = append(all, [2]int{a, b})
			}
		}
		for _, x := range all {
			tells(t, n, [][2]int{x})
			for _, y := range all {
				tells(t, n, [][2]int{x, y})
				for _, z := range all {
					if _, e := plainOf(n, [][2]int{x, y}); e == api.OK || z == x || z == y {
						tells(t, n, [][2]int{x, y, z})
					}
				}
			}
		}
	}
}

func TestNewByHand(t *testing.T) {
	for _, r := range []struct {
		n     int
		links [][2]int
		want  api.Errno
	}{
		{1, nil, api.OK},
		{2, [][2]int{{0, 1}}, api.OK},
		{2, [][2]int{{1, 0}}, api.OK},
		{0, [][2]int{{0, 0}}, api.ErrArg},
		{65, [][2]int{{64, 0}}, api.ErrArg},
		{2, [][2]int{{0, 2}}, api.ErrNode},
		{2, [][2]int{{2, 2}}, api.ErrNode},
		{2, [][2]int{{1, 1}}, api.ErrForm},
		{2, [][2]int{{0, 1}, {1, 0}}, api.ErrDup},
		{3, [][2]int{{0, 1}, {1, 0}, {1, 1}, {0, 9}}, api.ErrDup}, // the first one tells, whatever comes behind
		{3, [][2]int{{0, 1}, {1, 1}, {1, 0}, {0, 9}}, api.ErrForm},
		{3, [][2]int{{0, 1}, {0, 9}, {1, 1}, {1, 0}}, api.ErrNode},
		{3, [][2]int{{0, 1}, {1, 2}, {2, 2}, {-1, 0}}, api.ErrForm},
		{3, [][2]int{{0, 1}, {1, 2}, {2, 1}, {-1, 0}}, api.ErrDup},
		{3, [][2]int{{0, 1}, {1, 2}, {2, 3}, {0, 1}}, api.ErrNode},
	} {
		g, e := New(r.n, r.links...)
		if e != r.want || (g == nil) != (e != api.OK) {
			t.Errorf("New(%d, %v): %v, %d; wanted %d", r.n, r.links, g != nil, e, r.want)
		}
	}
}

// What was handed in stays, also what stands behind its end, and the graph shares nothing with it.
func TestNewSharesNothing(t *testing.T) {
	for _, n := range []int{2, 3, 4, 9, 64} {
		whole := append(shuffled(chance(uint64(n)), Full(n)), [2]int{7, 7}, [2]int{8, 8}, [2]int{9, 9})
		was := slices.Clone(whole)
		for _, many := range []int{1, n - 1, n * (n - 1) / 2} {
			p, _ := plainOf(n, whole[:many])
			g := made(t, n, whole[:many]...)
			if !slices.Equal(whole, was) {
				t.Fatalf("New(%d) changed what was handed in, or what is about it", n)
			}
			for i := range whole {
				whole[i] = [2]int{-5, 70}
			}
			holds(t, fmt.Sprintf("New(%d), its links changed afterwards", n), g, p)
			copy(whole, was)
		}
		refused(t, api.ErrDup, n, append(slices.Clone(was[:1]), was[0])...)
	}
}

// P16.2

func TestNear(t *testing.T) {
	g := made(t, 64, [2]int{0, 63}, [2]int{63, 31}, [2]int{32, 63}, [2]int{5, 0})
	for _, r := range []struct {
		i    int
		want api.Set
	}{
		{0, 1<<63 | 1<<5},
		{5, 1},
		{31, 1 << 63},
		{32, 1 << 63},
		{63, 1 | 1<<31 | 1<<32},
		{1, 0}, // nodes without links
		{62, 0},
		{-1, 0}, // no nodes
		{64, 0},
		{69, 0},
		{127, 0},
		{1 << 32, 0},
		{1<<32 + 5, 0},
		{math.MinInt, 0},
		{math.MinInt + 63, 0},
		{math.MaxInt, 0},
	} {
		if got := g.Near(r.i); got != r.want {
			t.Errorf("Near(%d): %#x; wanted %#x", r.i, got, r.want)
		}
	}
}

// Each link alone, either way round, in graphs of many sizes.
func TestOneLink(t *testing.T) {
	for _, n := range []int{2, 3, 4, 5, 63, 64} {
		for i, l := range Full(n) {
			if n > 5 && i%11 != 0 && l[1] != n-1 {
				continue
			}
			tells(t, n, [][2]int{l})
			tells(t, n, [][2]int{turned(l)})
		}
	}
}

// A number that is no node of a small graph is in none, though a greater one has it.
func TestNumbersThatAreNoNodes(t *testing.T) {
	for n := 1; n <= 64; n++ {
		g := made(t, n, Full(n)...)
		for _, x := range strangers(n) {
			if g.Near(x) != 0 || g.Linked(x, x) {
				t.Errorf("a full graph of %d: Near(%d): %#x, Linked with itself: %v", n, x, g.Near(x), g.Linked(x, x))
			}
			for i := 0; i < n; i++ {
				if g.Linked(i, x) || g.Linked(x, i) {
					t.Errorf("a full graph of %d: Linked of %d and %d", n, i, x)
				}
			}
		}
		for i := 0; i < n; i++ {
			if g.Linked(i, i) || g.Near(i)&(1<<i) != 0 {
				t.Errorf("a full graph of %d: %d is linked with itself", n, i)
			}
		}
	}
}

func TestLinksInOrder(t *testing.T) {
	for _, r := range []struct {
		n           int
		links, want [][2]int
	}{
		{3, [][2]int{{2, 1}, {1, 0}}, [][2]int{{0, 1}, {1, 2}}},
		{4, [][2]int{{3, 2}, {3, 1}, {3, 0}}, [][2]int{{0, 3}, {1, 3}, {2, 3}}},
		{4, [][2]int{{0, 3}, {0, 2}, {0, 1}}, [][2]int{{0, 1}, {0, 2}, {0, 3}}},
		{12, [][2]int{{11, 2}, {10, 2}, {2, 9}, {1, 10}}, [][2]int{{1, 10}, {2, 9}, {2, 10}, {2, 11}}},
		{64, [][2]int{{63, 62}, {32, 31}, {63, 0}, {1, 0}}, [][2]int{{0, 1}, {0, 63}, {31, 32}, {62, 63}}},
	} {
		if got := made(t, r.n, r.links...).Links(); !slices.Equal(got, r.want) {
			t.Errorf("Links of New(%d, %v): %v; wanted %v", r.n, r.links, got, r.want)
		}
	}
}

// All orders of the links of a full graph of four, each with some of them turned.
func TestLinksInAllOrders(t *testing.T) {
	want := [][2]int{{0, 1}, {0, 2}, {0, 3}, {1, 2}, {1, 3}, {2, 3}}
	no := 0
	var orders func(ahead, rest [][2]int)
	orders = func(ahead, rest [][2]int) {
		if len(rest) == 0 {
			l := slices.Clone(ahead)
			for i := range l {
				if (no>>i)&1 == 1 {
					l[i] = turned(l[i])
				}
			}
			no += 5
			if got := made(t, 4, l...).Links(); !slices.Equal(got, want) {
				t.Errorf("Links of New(4, %v): %v", l, got)
			}
			return
		}
		for i := range rest {
			orders(append(slices.Clone(ahead), rest[i]), slices.Delete(slices.Clone(rest), i, i+1))
		}
	}
	orders(nil, want)
	if no != 5*720 {
		t.Errorf("%d orders", no/5)
	}
}

// The order is the same each time, and who has a list may change it.
func TestLinksAreNew(t *testing.T) {
	for _, n := range []int{2, 3, 8, 64} {
		links := shuffled(chance(uint64(n)+5), Full(n))
		p, _ := plainOf(n, links)
		g := made(t, n, links...)
		one, two := g.Links(), g.Links()
		for i := range one {
			one[i] = [2]int{9, -9}
		}
		_ = append(one[:0], [2]int{3, 4})
		if !slices.Equal(two, p.links()) {
			t.Errorf("Links of a graph of %d, when another list of them was changed: %v", n, two)
		}
		holds(t, fmt.Sprintf("a graph of %d, when its Links were changed", n), g, p)
		for range 20 {
			if !slices.Equal(g.Links(), two) {
				t.Fatalf("Links of a graph of %d, asked again: another order", n)
			}
		}
	}
}

// P16.3

func TestWithout(t *testing.T) {
	g := made(t, 4, Ring(4)...)
	for _, r := range []struct {
		s    api.Set
		want [][2]int
	}{
		{0, [][2]int{{0, 1}, {0, 3}, {1, 2}, {2, 3}}},
		{1, [][2]int{{1, 2}, {2, 3}}},
		{2, [][2]int{{0, 3}, {2, 3}}},
		{4, [][2]int{{0, 1}, {0, 3}}},
		{8, [][2]int{{0, 1}, {1, 2}}},
		{3, [][2]int{{2, 3}}},
		{6, [][2]int{{0, 3}}},
		{5, nil},
		{10, nil},
		{15, nil},
		{16, [][2]int{{0, 1}, {0, 3}, {1, 2}, {2, 3}}}, // nodes that it has not
		{1 << 63, [][2]int{{0, 1}, {0, 3}, {1, 2}, {2, 3}}},
		{math.MaxUint64 - 15, [][2]int{{0, 1}, {0, 3}, {1, 2}, {2, 3}}},
		{math.MaxUint64 - 7, [][2]int{{0, 1}, {1, 2}}},
		{math.MaxUint64, nil},
	} {
		h := g.Without(r.s)
		if h == nil || h.N() != 4 || !slices.Equal(h.Links(), r.want) {
			t.Errorf("Without(%#x): %v; wanted %v", r.s, h.Links(), r.want)
		}
		if h == g {
			t.Errorf("Without(%#x) is the graph that was asked, and no new one", r.s)
		}
		if got := g.Links(); len(got) != 4 {
			t.Fatalf("Without(%#x) changed the graph that was asked: %v", r.s, got)
		}
	}
}

// setsOf are sets of a graph of n nodes: none, all, each alone, all but it, nodes that it has not, and some of no rule.
func setsOf(n int) []api.Set {
	all := api.Set(math.MaxUint64) >> (64 - n)
	l := []api.Set{0, all, ^all, math.MaxUint64, 1 << 63, 0x5555555555555555, 0xAAAAAAAAAAAAAAAA}
	for i := 0; i < n; i++ {
		l = append(l, 1<<i, all-1<<i, ^all|1<<i)
	}
	next := chance(uint64(n) + 163)
	for range 8 {
		l = append(l, api.Set(next()<<8^next()), api.Set(next()&next()))
	}
	return l
}

func TestWithoutOfMany(t *testing.T) {
	for _, n := range []int{1, 2, 3, 5, 9, 33, 64} {
		for _, links := range [][][2]int{nil, Ring(n), Full(n)} {
			p, _ := plainOf(n, links)
			g := made(t, n, links...)
			for i, s := range setsOf(n) {
				h := g.Without(s)
				if n < 20 || i%5 == 0 {
					holds(t, fmt.Sprintf("a graph of %d, %d links, Without(%#x)", n, len(links), s), h, p.without(s))
				}
				if got, want := h.Links(), p.without(s).links(); h.N() != n || !slices.Equal(got, want) {
					t.Fatalf("a graph of %d, %d links, Without(%#x): %v; wanted %v", n, len(links), s, got, want)
				}
			}
			holds(t, fmt.Sprintf("a graph of %d, %d links, behind Without", n, len(links)), g, p)
		}
	}
}

// Of one graph without some nodes, others may go as well: it is as without both, whichever come first.
func TestWithoutOfWithout(t *testing.T) {
	for _, n := range []int{3, 6, 64} {
		links := Full(n)
		p, _ := plainOf(n, links)
		g := made(t, n, links...)
		sets := setsOf(n)
		for i, s := range sets {
			z := sets[(7*i+3)%len(sets)]
			want := p.without(s | z).links()
			if !slices.Equal(g.Without(s).Without(z).Links(), want) || !slices.Equal(g.Without(z).Without(s).Links(), want) {
				t.Errorf("a full graph of %d, Without(%#x), Without(%#x)", n, s, z)
			}
		}
	}
}

// A graph without nodes can be made again, with links of these nodes: they are still its own.
func TestWithoutKeepsNodes(t *testing.T) {
	h := made(t, 5, Full(5)...).Without(1<<1 | 1<<4)
	if h.N() != 5 || h.Near(1) != 0 || h.Near(4) != 0 || h.Near(0) != 1<<2|1<<3 {
		t.Errorf("N %d, Near %#x, %#x, %#x", h.N(), h.Near(1), h.Near(4), h.Near(0))
	}
	tells(t, h.N(), append(h.Links(), [2]int{4, 1}))
}

// P16.4

func TestRing(t *testing.T) {
	for _, r := range []struct {
		n    int
		want [][2]int
	}{
		{1, nil},
		{2, [][2]int{{0, 1}}},
		{3, [][2]int{{0, 1}, {1, 2}, {2, 0}}},
		{4, [][2]int{{0, 1}, {1, 2}, {2, 3}, {3, 0}}},
		{5, [][2]int{{0, 1}, {1, 2}, {2, 3}, {3, 4}, {4, 0}}},
	} {
		if got := Ring(r.n); !slices.Equal(got, r.want) {
			t.Errorf("Ring(%d): %v; wanted %v", r.n, got, r.want)
		}
	}
	for n := 3; n <= 64; n++ {
		var want [][2]int
		for i := 0; i < n; i++ {
			want = append(want, [2]int{i, (i + 1) % n})
		}
		if got := Ring(n); !slices.Equal(got, want) {
			t.Errorf("Ring(%d): %v; wanted %v", n, got, want)
		}
		g := tells(t, n, Ring(n))
		for i := 0; i < n; i++ {
			if got, want := g.Near(i), api.Set(1)<<((i+1)%n)|1<<((i+n-1)%n); got != want {
				t.Errorf("a ring of %d: Near(%d): %#x; wanted %#x", n, i, got, want)
			}
		}
	}
}

func TestFull(t *testing.T) {
	for _, r := range []struct {
		n    int
		want [][2]int
	}{
		{1, nil},
		{2, [][2]int{{0, 1}}},
		{3, [][2]int{{0, 1}, {0, 2}, {1, 2}}},
		{4, [][2]int{{0, 1}, {0, 2}, {0, 3}, {1, 2}, {1, 3}, {2, 3}}},
		{5, [][2]int{{0, 1}, {0, 2}, {0, 3}, {0, 4}, {1, 2}, {1, 3}, {1, 4}, {2, 3}, {2, 4}, {3, 4}}},
	} {
		if got := Full(r.n); !slices.Equal(got, r.want) {
			t.Errorf("Full(%d): %v; wanted %v", r.n, got, r.want)
		}
	}
	for n := 1; n <= 64; n++ {
		all := Full(n)
		if len(all) != n*(n-1)/2 {
			t.Errorf("Full(%d): %d links", n, len(all))
		}
		for i, l := range all {
			if l[0] < 0 || l[0] >= l[1] || l[1] >= n || i > 0 && slices.Compare(all[i-1][:], l[:]) >= 0 {
				t.Fatalf("Full(%d): %v at %d", n, l, i)
			}
		}
		g := tells(t, n, all)
		if got := g.Links(); !slices.Equal(got, all) {
			t.Errorf("Full(%d) is not in the order of Links: %v", n, got)
		}
	}
	if len(Full(64)) != api.MaxLinks {
		t.Errorf("Full(64): %d links", len(Full(64)))
	}
}

func TestRingAndFullOfTooFewOrTooMany(t *testing.T) {
	for _, n := range append([]int{1}, notSizes...) {
		if l := Ring(n); len(l) != 0 {
			t.Errorf("Ring(%d): %d links", n, len(l))
		}
		if l := Full(n); len(l) != 0 {
			t.Errorf("Full(%d): %d links", n, len(l))
		}
	}
	if len(Ring(64)) != 64 || len(Ring(65)) != 0 || len(Full(65)) != 0 {
		t.Errorf("Ring(64), Ring(65), Full(65): %d, %d, %d links", len(Ring(64)), len(Ring(65)), len(Full(65)))
	}
}

// New takes what they tell, the ring also in the graph of which all are linked but its links.
func TestNewTakesRingAndFull(t *testing.T) {
	for n := 1; n <= 64; n++ {
		ring, full := made(t, n, Ring(n)...), made(t, n, Full(n)...)
		rest := slices.DeleteFunc(full.Links(), func(l [2]int) bool { return ring.Linked(l[0], l[1]) })
		again := made(t, n, append(rest, Ring(n)...)...)
		if !slices.Equal(again.Links(), full.Links()) {
			t.Errorf("of %d nodes the ring and all the rest are %v", n, again.Links())
		}
	}
}

func TestRingAndFullAreNew(t *testing.T) {
	for _, n := range []int{2, 3, 5, 64} {
		for _, f := range []func(int) [][2]int{Ring, Full} {
			one, two := f(n), f(n)
			for i := range one {
				one[i] = [2]int{-1, -1}
			}
			if !slices.Equal(two, f(n)) || slices.Contains(f(n), [2]int{-1, -1}) {
				t.Errorf("links of %d nodes, when another list of them was changed: %v, %v", n, two, f(n))
			}
		}
	}
}

// P16.5

// bothWays asks a graph that its links are both ways, and that one that is made of its Links is the same.
func bothWays(t *testing.T, what string, g *Graph) {
	t.Helper()
	ends := 0
	for a := 0; a < g.N(); a++ {
		for b := 0; b < g.N(); b++ {
			there, back := g.Near(a)>>b&1 == 1, g.Near(b)>>a&1 == 1
			if there != back || g.Linked(a, b) != there || g.Linked(b, a) != back {
				t.Fatalf("%s: %d and %d are not linked both ways", what, a, b)
			}
			if there {
				ends++
			}
		}
	}
	if len(g.Links())*2 != ends {
		t.Fatalf("%s: %d Links; wanted %d", what, len(g.Links()), ends/2)
	}
	h := made(t, g.N(), g.Links()...)
	if h.N() != g.N() || !slices.Equal(h.Links(), g.Links()) {
		t.Fatalf("%s: made of its Links it is another one", what)
	}
	for _, i := range asked(g.N()) {
		if h.Near(i) != g.Near(i) {
			t.Fatalf("%s: made of its Links it has other ones near %d", what, i)
		}
		for k := 0; k < g.N(); k++ {
			if h.Linked(i, k) != g.Linked(i, k) || h.Linked(k, i) != g.Linked(k, i) {
				t.Fatalf("%s: made of its Links it is unlike of %d and %d", what, i, k)
			}
		}
	}
}

func TestBothWays(t *testing.T) {
	for n := 1; n <= 64; n++ {
		for _, links := range [][][2]int{nil, Ring(n), Full(n)} {
			g := made(t, n, links...)
			what := fmt.Sprintf("a graph of %d, %d links", n, len(links))
			bothWays(t, what, g)
			bothWays(t, what+", without some", g.Without(0x9249249249249249))
		}
	}
}

// All graphs of up to five nodes, without all sets of them and one that they have not.
func TestAllSmallGraphs(t *testing.T) {
	next := chance(165)
	for n := 1; n <= 5; n++ {
		all := Full(n)
		for which := 0; which < 1<<len(all); which++ {
			var links [][2]int
			for i, l := range all {
				if which>>i&1 == 1 {
					links = append(links, l)
				}
			}
			l := shuffled(next, links)
			p, _ := plainOf(n, l)
			g := tells(t, n, l)
			what := fmt.Sprintf("New(%d, %v)", n, l)
			bothWays(t, what, g)
			if n == 5 && which%16 != 0 {
				continue
			}
			for s := api.Set(0); s < 1<<(n+1); s++ {
				holds(t, fmt.Sprintf("%s.Without(%#x)", what, s), g.Without(s), p.without(s))
			}
			holds(t, what+", behind Without", g, p)
		}
	}
}

// drawn are links of n nodes drawn by chance: each two nodes with some likelihood, in any order, either way round.
func drawn(next func() uint64, n int) [][2]int {
	likely := []uint64{3, 15, 50, 85, 97}[below(next, 5)]
	links := slices.DeleteFunc(Full(n), func([2]int) bool { return next()%100 >= likely })
	return shuffled(next, links)
}

// spoiled are links of which some are wrong: for each thing that may be, somewhere, with some likelihood.
func spoiled(next func() uint64, n int, links [][2]int) [][2]int {
	for range 1 + below(next, 3) {
		i := below(next, n)
		l := [2]int{i, strangers(n)[below(next, len(strangers(n)))]}
		switch next() % 3 {
		case 0:
			l = [2]int{i, i}
		case 1:
			if len(links) > 0 {
				l = links[below(next, len(links))]
			}
		}
		if next()%2 == 0 {
			l = turned(l)
		}
		links = slices.Insert(links, below(next, len(links)+1), l)
	}
	return links
}

func TestByChance(t *testing.T) {
	next := chance(16)
	for i := range 1500 {
		n := 1 + below(next, 12)
		if i%10 == 0 {
			n = 1 + below(next, 64)
		}
		links := drawn(next, n)
		p, e := plainOf(n, links)
		if e != api.OK {
			t.Fatalf("plainOf(%d, %v): %d", n, links, e)
		}
		g := tells(t, n, links)
		bothWays(t, fmt.Sprintf("New(%d, %v)", n, links), g)
		for _, s := range []api.Set{api.Set(next()<<8 ^ next()), 1 << below(next, 64), api.Set(next()&next()) % (1 << (n - 1))} {
			what := fmt.Sprintf("New(%d, %v).Without(%#x)", n, links, s)
			holds(t, what, g.Without(s), p.without(s))
			bothWays(t, what, g.Without(s))
		}
		holds(t, "behind Without", g, p)
		for range 5 {
			tells(t, n, spoiled(next, n, slices.Clone(links)))
		}
	}
}

// One graph hangs on no other one.
func TestGraphsAreApart(t *testing.T) {
	next := chance(161)
	var graphs []*Graph
	var plains []plain
	for i := range 40 {
		n := 1 + (i*7)%64
		links := drawn(next, n)
		p, _ := plainOf(n, links)
		graphs, plains = append(graphs, made(t, n, links...)), append(plains, p)
	}
	for i, g := range graphs {
		holds(t, fmt.Sprintf("graph %d of many", i), g, plains[i])
		for _, l := range g.Without(5).Links() {
			if l[0] == 0 || l[0] == 2 || l[1] == 2 {
				t.Errorf("graph %d of many, without 0 and 2: %v", i, l)
			}
		}
		holds(t, fmt.Sprintf("graph %d of many, behind Without", i), g, plains[i])
	}
}

// Nil

func TestNil(t *testing.T) {
	var g *Graph
	if g.N() != 0 || len(g.Links()) != 0 {
		t.Errorf("N %d, Links %v", g.N(), g.Links())
	}
	for _, a := range asked(8) {
		if g.Near(a) != 0 {
			t.Errorf("Near(%d): %#x", a, g.Near(a))
		}
		for _, b := range asked(8) {
			if g.Linked(a, b) {
				t.Errorf("Linked(%d, %d)", a, b)
			}
		}
	}
	for _, s := range []api.Set{0, 1, 1 << 63, math.MaxUint64} {
		if h := g.Without(s); h != nil {
			t.Errorf("Without(%#x): a graph of %d", s, h.N())
		}
	}
}

// A graph that New has not made has no nodes; no call of it panics.
func TestGraphNotMade(t *testing.T) {
	g := &Graph{}
	holds(t, "a graph that was not made", g, plain{})
	for _, s := range []api.Set{0, 1, math.MaxUint64} {
		holds(t, "a graph that was not made, without some", g.Without(s), plain{})
	}
}

// The plain ways are asked as well: by what can be told by hand.
func TestPlainWays(t *testing.T) {
	p, e := plainOf(3, [][2]int{{0, 1}, {2, 1}})
	if e != api.OK || p.near(1) != 5 || p.near(0) != 2 || p.near(3) != 0 || p.near(-1) != 0 {
		t.Errorf("plainOf, near: %d, %#x, %#x", e, p.near(1), p.near(0))
	}
	if !slices.Equal(p.links(), [][2]int{{0, 1}, {1, 2}}) || !slices.Equal(p.without(1).links(), [][2]int{{1, 2}}) {
		t.Errorf("links: %v, %v", p.links(), p.without(1).links())
	}
	if len(p.without(2).links()) != 0 || len(p.without(8).links()) != 2 || len(p.links()) != 2 {
		t.Error("without")
	}
	for want, links := range map[api.Errno][][2]int{
		api.ErrNode: {{0, 3}}, api.ErrForm: {{2, 2}}, api.ErrDup: {{0, 1}, {1, 0}},
	} {
		if _, e := plainOf(3, links); e != want {
			t.Errorf("plainOf(3, %v): %d", links, e)
		}
	}
	for _, n := range []int{0, -1, 65} {
		if _, e := plainOf(n, nil); e != api.ErrArg {
			t.Errorf("plainOf(%d): %d", n, e)
		}
	}
}
