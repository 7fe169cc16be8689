package hops

import (
	"fmt"
	"math"
	"slices"
	"testing"

	"angelus/api"
	"angelus/graph"
)

// strays are numbers that no graph has as nodes; some would be one, if only their lower bits were taken or their sign lost.
var strays = []int{
	math.MinInt, math.MinInt + 1, math.MinInt + 63, -1 << 32, math.MinInt32, -256, -129, -128, -65, -64, -63, -2, -1,
	64, 65, 66, 127, 128, 129, 256, 257, 1 << 16, 1<<16 + 1, math.MaxInt32, 1 << 32, 1<<32 + 1, math.MaxInt - 1, math.MaxInt,
}

// wild are numbers that are too small or too great for links, delays and drifts: all of them, or all but 64. Products of
// some of them go round to small ones.
var wild = []int64{
	math.MinInt64, math.MinInt64 + 1, math.MinInt64 + 63, -1 << 62, -1 << 54, -1<<32 - 1, -1 << 32, -1<<32 + 1, math.MinInt32,
	-1 << 16, -1024, -512, -256, -255, -128, -65, -64, -63, -3, -2, -1,
	64, 65, 66, 127, 128, 129, 255, 256, 257, 512, 1023, 1024, 1025, 1 << 16, 1<<16 + 1, math.MaxInt32, 1 << 31,
	1<<32 - 1, 1 << 32, 1<<32 + 1, 1<<32 + 64, 1 << 53, 1 << 54, 1<<54 + 1, 1 << 55, 1<<55 + 2, 1 << 62, 1<<62 + 1,
	math.MaxInt64 - 64, math.MaxInt64 - 1, math.MaxInt64,
}

// chance answers numbers of no rule, the same ones each time.
func chance(x uint64) func() uint64 {
	return func() uint64 {
		x ^= x << 13
		x ^= x >> 7
		x ^= x << 17
		return x >> 8
	}
}

// below draws a number from 0 on below n.
func below(next func() uint64, n int) int { return int(next() % uint64(n)) }

// made is the graph of links that may be.
func made(t *testing.T, n int, links ...[2]int) *graph.Graph {
	t.Helper()
	g, e := graph.New(n, links...)
	if e != api.OK {
		t.Fatalf("graph.New(%d, %v): %d", n, links, e)
	}
	return g
}

// row are the nodes from one on till below another one, upward or downward.
func row(from, till int) []int {
	var l []int
	for ; from < till; from++ {
		l = append(l, from)
	}
	for ; from > till; from-- {
		l = append(l, from)
	}
	return l
}

// line links each node with the next one.
func line(n int) [][2]int {
	var l [][2]int
	for i := 1; i < n; i++ {
		l = append(l, [2]int{i - 1, i})
	}
	return l
}

// star links one node with each other.
func star(n, mid int) [][2]int {
	var l [][2]int
	for i := range n {
		if i != mid {
			l = append(l, [2]int{mid, i})
		}
	}
	return l
}

// some draws each link of all with a chance of one of so many.
func some(next func() uint64, n, of int) [][2]int {
	var l [][2]int
	for _, p := range graph.Full(n) {
		if below(next, of) == 0 {
			l = append(l, p)
		}
	}
	return l
}

// plainPath is the chapter, read plainly: each two of a list are asked whether they are one, each two in a row whether a link has both.
func plainPath(n int, links [][2]int, l []int) bool {
	for k, a := range l {
		if !slices.Contains(row(0, n), a) {
			return false
		}
		for _, b := range l[:k] {
			if a == b {
				return false
			}
		}
	}
	for k := 0; k+1 < len(l); k++ {
		if !slices.Contains(links, [2]int{l[k], l[k+1]}) && !slices.Contains(links, [2]int{l[k+1], l[k]}) {
			return false
		}
	}
	return len(l) >= 1
}

// way is whether a list is a path, and stays as it was.
func way(t *testing.T, what string, g *graph.Graph, want bool, l ...int) {
	t.Helper()
	was := slices.Clone(l)
	if got := Path(g, l...); got != want {
		t.Errorf("%s: Path(%v): %v", what, l, got)
	}
	if !slices.Equal(l, was) {
		t.Errorf("%s: Path(%v) made that %v", what, was, l)
	}
}

// both is whether a list is a path, from its beginning and from its end.
func both(t *testing.T, what string, g *graph.Graph, want bool, l ...int) {
	t.Helper()
	way(t, what, g, want, l...)
	back := slices.Clone(l)
	slices.Reverse(back)
	way(t, what, g, want, back...)
}

// with is a list with one number more at one place.
func with(l []int, at, i int) []int { return slices.Insert(slices.Clone(l), at, i) }

// instead is a list with another number at one place.
func instead(l []int, at, i int) []int {
	l = slices.Clone(l)
	l[at] = i
	return l
}

// spans, mids and errs hold one call against what is wanted.
func spans(t *testing.T, h int, dmin, dmax, lo, hi int64, is bool) {
	t.Helper()
	if got := Good(h, dmin, dmax); got != is {
		t.Errorf("Good(%d, %d, %d): %v", h, dmin, dmax, got)
	}
	if a, b, ok := Span(h, dmin, dmax); a != lo || b != hi || ok != is {
		t.Errorf("Span(%d, %d, %d): %d, %d, %v; wanted %d, %d, %v", h, dmin, dmax, a, b, ok, lo, hi, is)
	}
}

func mids(t *testing.T, h int, dmin, dmax, want int64, is bool) {
	t.Helper()
	if m, ok := Mid(h, dmin, dmax); m != want || ok != is {
		t.Errorf("Mid(%d, %d, %d): %d, %v; wanted %d, %v", h, dmin, dmax, m, ok, want, is)
	}
}

func errs(t *testing.T, h int, dmin, dmax, rho, want int64, is bool) {
	t.Helper()
	if e, ok := Err(h, dmin, dmax, rho); e != want || ok != is {
		t.Errorf("Err(%d, %d, %d, %d): %d, %v; wanted %d, %v", h, dmin, dmax, rho, e, ok, want, is)
	}
}

// none is whether nothing is told of numbers that are not good, whatever the drift.
func none(t *testing.T, h int, dmin, dmax int64) {
	t.Helper()
	spans(t, h, dmin, dmax, 0, 0, false)
	mids(t, h, dmin, dmax, 0, false)
	for _, rho := range []int64{-1, 0, 1, 64, 65} {
		errs(t, h, dmin, dmax, rho, 0, false)
	}
}

// in is whether a number is from one to another one.
func in(x, lo, hi int64) bool { return lo <= x && x <= hi }

// plainGood is the chapter, read plainly.
func plainGood(h int, dmin, dmax int64) bool {
	return in(int64(h), 0, 63) && in(dmin, 0, 64) && in(dmax, 0, 64) && dmin <= dmax
}

// times adds a number up so often.
func times(h int, x int64) (sum int64) {
	for range h {
		sum += x
	}
	return sum
}

// holds is whether all that is told of some numbers is what the chapter says, a link at a time.
func holds(t *testing.T, h int, dmin, dmax, rho int64) {
	t.Helper()
	good := plainGood(h, dmin, dmax)
	var lo, hi, mid, err int64
	if good {
		lo, hi, mid = times(h, dmin), times(h, dmax), times(h, (dmin+dmax)*512)
	}
	able := good && in(rho, 0, 64)
	if able {
		err = times(h, (dmax-dmin)*512+rho*dmax)
	}
	spans(t, h, dmin, dmax, lo, hi, good)
	mids(t, h, dmin, dmax, mid, good)
	errs(t, h, dmin, dmax, rho, err, able)
}

// The chapter's example, and what stands about it in a ring.
func TestExample(t *testing.T) {
	spans(t, 3, 1, 2, 3, 6, true)
	mids(t, 3, 1, 2, 4608, true)
	errs(t, 3, 1, 2, 1, 1542, true)
	g := made(t, 5, graph.Ring(5)...)
	way(t, "a ring of five", g, true, 3, 4, 0, 1)
	way(t, "a ring of five", g, false, 3, 4, 3)
	way(t, "a ring of five", g, false, 0, 2)
	if got := Limit(g); got != 4 {
		t.Errorf("a ring of five: Limit: %d", got)
	}
}

// P19.1

func TestPathByHand(t *testing.T) {
	tail := made(t, 6, [2]int{0, 1}, [2]int{2, 1}, [2]int{2, 3}, [2]int{3, 0}, [2]int{4, 3}, [2]int{5, 4})
	for _, r := range []struct {
		l    []int
		want bool
	}{
		{nil, false},
		{[]int{}, false},
		{[]int{0}, true},
		{[]int{5}, true},
		{[]int{6}, false},
		{[]int{-1}, false},
		{[]int{0, 1}, true},
		{[]int{1, 2}, true}, // told the other way round when the graph was made
		{[]int{0, 3}, true},
		{[]int{0, 2}, false},
		{[]int{1, 3}, false},
		{[]int{4, 5}, true},
		{[]int{3, 5}, false},
		{[]int{1, 0, 3, 4, 5}, true},
		{[]int{1, 2, 3, 4, 5}, true},
		{[]int{0, 1, 2, 3, 4, 5}, true},
		{[]int{2, 1, 0, 3, 4, 5}, true},
		{[]int{0, 1, 2, 3, 5, 4}, false},
		{[]int{0, 1, 2, 3, 0}, false},
		{[]int{0, 1, 2, 3, 0, 1}, false},
		{[]int{0, 1, 0}, false},
		{[]int{3, 4, 5, 4}, false},
		{[]int{0, 3, 4, 3, 2}, false},
		{[]int{0, 1, 2, 4, 5}, false},
		{[]int{0, 2, 3}, false},
		{[]int{3, 0, 2}, false},
		{[]int{5, 4, 3, 0, 1, 2, 6}, false},
	} {
		both(t, "a ring with a tail", tail, r.want, r.l...)
	}
}

func TestPathOfNoNode(t *testing.T) {
	for _, n := range []int{1, 2, 3, 7, 63, 64} {
		for _, links := range [][][2]int{nil, line(n), graph.Ring(n), graph.Full(n)} {
			g := made(t, n, links...)
			if Path(g) || Path(g, nil...) || Path(g, []int{}...) || Path(g, make([]int, 0, 9)...) {
				t.Errorf("%d nodes, %d links: a path of none", n, len(links))
			}
		}
	}
}

// One node is a path of any graph that has it, whatever its links.
func TestPathOfOneNode(t *testing.T) {
	for n := 1; n <= 64; n++ {
		for _, links := range [][][2]int{nil, line(n), graph.Ring(n)} {
			g := made(t, n, links...)
			what := fmt.Sprintf("%d nodes, %d links", n, len(links))
			for i := range 64 {
				way(t, what, g, i < n, i)
			}
			for _, i := range strays {
				way(t, what, g, false, i)
			}
		}
	}
}

func TestPathOfTwoNodes(t *testing.T) {
	next := chance(191)
	for _, n := range []int{1, 2, 3, 5, 17, 63, 64} {
		links := some(next, n, 3)
		g := made(t, n, links...)
		for a := -2; a <= 66; a++ {
			for b := -2; b <= 66; b++ {
				want := slices.Contains(links, [2]int{a, b}) || slices.Contains(links, [2]int{b, a})
				way(t, fmt.Sprintf("%d nodes", n), g, want, a, b)
			}
		}
	}
}

// One node twice is none, wherever the second time comes, though all links are there.
func TestPathOfOneNodeTwice(t *testing.T) {
	for _, n := range []int{1, 2, 3, 4, 9, 63, 64} {
		g := made(t, n, graph.Full(n)...)
		what := fmt.Sprintf("a full graph of %d", n)
		all := row(0, n)
		for i := range n {
			way(t, what, g, false, i, i)
			way(t, what, g, false, i, i, i)
			for at := range n + 1 {
				both(t, what, g, false, with(all, at, i)...)
			}
			for k := range n {
				if k != i {
					both(t, what, g, false, i, k, i)
					both(t, what, g, false, instead(all, k, i)...)
				}
			}
		}
	}
}

// Rings are paths from each node on, both ways round, as long as the first one does not come again.
func TestPathRoundARing(t *testing.T) {
	for _, n := range []int{3, 4, 5, 8, 31, 63, 64} {
		g := made(t, n, graph.Ring(n)...)
		what := fmt.Sprintf("a ring of %d", n)
		for first := range n {
			l := []int{first}
			for k := 1; k < n; k++ {
				both(t, what, g, true, l...)
				l = append(l, (first+k)%n)
			}
			both(t, what, g, true, l...)
			both(t, what, g, false, append(l, first)...)
			both(t, what, g, false, append(l, first, (first+1)%n)...)
			both(t, what, g, false, append(l, l...)...)
		}
	}
}

// A link that closes a ring is none of a line.
func TestPathRoundALine(t *testing.T) {
	for _, n := range []int{3, 4, 5, 8, 31, 63, 64} {
		g := made(t, n, line(n)...)
		for first := 1; first < n; first++ {
			l := append(row(first, n), row(0, first)...)
			both(t, fmt.Sprintf("a line of %d", n), g, false, l...)
		}
	}
}

// All nodes of a line, a ring and a full graph are a path, and so is each piece of it that is not empty.
func TestPathOfAllNodes(t *testing.T) {
	for _, n := range []int{1, 2, 3, 4, 9, 62, 63, 64} {
		for _, links := range [][][2]int{line(n), graph.Ring(n), graph.Full(n)} {
			g := made(t, n, links...)
			what := fmt.Sprintf("%d nodes, %d links", n, len(links))
			l := row(0, n)
			for a := range n + 1 {
				for b := a; b <= n; b++ {
					way(t, what, g, a < b, l[a:b]...)
				}
			}
			both(t, what, g, true, l...)
		}
	}
}

// Of a full graph any order of all nodes is a path.
func TestPathOfAllNodesInAnyOrder(t *testing.T) {
	next := chance(192)
	for range 200 {
		n := 1 + below(next, 64)
		l := shuffled(next, n)
		both(t, fmt.Sprintf("a full graph of %d", n), made(t, n, graph.Full(n)...), true, l...)
	}
}

// shuffled are all nodes, in some order.
func shuffled(next func() uint64, n int) []int {
	l := row(0, n)
	for k := range l {
		o := below(next, k+1)
		l[k], l[o] = l[o], l[k]
	}
	return l
}

// A star has paths of three nodes at most.
func TestPathOfAStar(t *testing.T) {
	for _, n := range []int{4, 5, 64} {
		mid := n / 2
		g := made(t, n, star(n, mid)...)
		what := fmt.Sprintf("a star of %d", n)
		for a := range n {
			for b := range n {
				way(t, what, g, a != mid && b != mid && a != b, a, mid, b)
				way(t, what, g, false, a, b, mid, a)
				way(t, what, g, false, mid, a, mid, b)
				way(t, what, g, false, a, mid, b, mid)
			}
		}
	}
}

// A list of more nodes than the graph has is none, however long.
func TestPathOfTooManyNodes(t *testing.T) {
	for _, n := range []int{1, 2, 3, 5, 63, 64} {
		g := made(t, n, graph.Full(n)...)
		what := fmt.Sprintf("a full graph of %d", n)
		l := row(0, n)
		both(t, what, g, true, l...)
		for _, more := range []int{0, n / 2, n - 1, n, n + 1, 63, 64, -1} {
			way(t, what, g, false, append(l, more)...)
			way(t, what, g, false, append([]int{more}, l...)...)
		}
		for _, long := range []int{n + 1, 2 * n, 65, 127, 128, 129, 257, 1000, 1 << 16} {
			if long > n {
				way(t, what, g, false, slices.Repeat(l, long/n+1)[:long]...)
				way(t, what, g, false, row(0, long)...)
				way(t, what, g, false, row(long-1, -1)...)
			}
		}
	}
}

// One wrong node spoils a path wherever it stands, and whatever it is.
func TestPathWithAWrongNode(t *testing.T) {
	for _, n := range []int{1, 2, 3, 8, 63, 64} {
		wrong := append([]int{n, n + 1, -n, ^n}, strays...)
		if n < 64 {
			wrong = append(wrong, 63)
		}
		for _, links := range [][][2]int{line(n), graph.Full(n)} {
			g := made(t, n, links...)
			what := fmt.Sprintf("%d nodes, %d links", n, len(links))
			l := row(0, n)
			for _, i := range wrong {
				for _, at := range []int{0, 1, n / 2, n - 1, n} {
					if at < n {
						both(t, what, g, false, instead(l, at, i)...)
					}
					if at <= n {
						both(t, what, g, false, with(l, at, i)...)
					}
				}
				way(t, what, g, false, i, i)
			}
		}
	}
}

// Two that are not linked spoil a path wherever they come.
func TestPathWithALinkThatIsNone(t *testing.T) {
	for _, n := range []int{2, 3, 8, 63, 64} {
		for k, l := range graph.Ring(n)[:n-1] {
			links := slices.Delete(line(n), k, k+1)
			g := made(t, n, links...)
			what := fmt.Sprintf("a line of %d without %v", n, l)
			both(t, what, g, false, row(0, n)...)
			both(t, what, g, true, row(0, k+1)...)
			both(t, what, g, true, row(k+1, n)...)
			both(t, what, g, false, k, k+1)
		}
	}
}

func TestPathWithoutLinks(t *testing.T) {
	for _, n := range []int{1, 2, 3, 64} {
		g := made(t, n)
		for a := range n {
			way(t, "no links", g, true, a)
			for b := range n {
				way(t, "no links", g, false, a, b)
				way(t, "no links", g, false, a, b, a)
			}
		}
	}
	one := made(t, 1)
	way(t, "one node", one, true, 0)
	way(t, "one node", one, false, 0, 0)
	way(t, "one node", one, false, 1)
	way(t, "one node", one, false, 0, 1)
	way(t, "one node", one, false, -1, 0)
}

// A graph without the links of a node has that node still.
func TestPathWithoutSomeNodes(t *testing.T) {
	g := made(t, 5, graph.Full(5)...).Without(1 << 2)
	way(t, "without 2", g, true, 2)
	way(t, "without 2", g, true, 4, 0, 3, 1)
	both(t, "without 2", g, false, 1, 2)
	both(t, "without 2", g, false, 0, 1, 2, 3)
	if got := Limit(g); got != 4 {
		t.Errorf("without 2: Limit: %d", got)
	}
}

func TestPathOfNil(t *testing.T) {
	for _, l := range [][]int{nil, {}, {0}, {1}, {63}, {64}, {-1}, {0, 1}, {1, 0}, {0, 0}, row(0, 64), {math.MinInt}, {math.MaxInt}, {0, math.MaxInt}} {
		way(t, "nil", nil, false, l...)
	}
	var g *graph.Graph
	way(t, "nil", g, false, 0)
}

// Nothing of a graph and of a list changes by being asked.
func TestPathChangesNothing(t *testing.T) {
	next := chance(193)
	for range 50 {
		n := 1 + below(next, 64)
		g := made(t, n, some(next, n, 2)...)
		links := g.Links()
		l := make([]int, n, n+8)
		copy(l, shuffled(next, n))
		room := l[: n+8 : n+8]
		was := slices.Clone(room)
		first, limit := Path(g, l...), Limit(g)
		if !slices.Equal(room, was) || !slices.Equal(g.Links(), links) || g.N() != n {
			t.Fatalf("%d nodes: %v is %v", n, was, room)
		}
		if Path(g, l...) != first || Limit(g) != limit {
			t.Fatalf("%d nodes: told otherwise the second time", n)
		}
	}
}

// Of all graphs of up to four nodes: all lists of up to five numbers, wrong ones among them.
func TestPathOfAllFewNodes(t *testing.T) {
	for n := 1; n <= 4; n++ {
		full := graph.Full(n)
		for which := range 1 << len(full) {
			var links [][2]int
			for k, l := range full {
				if which>>k&1 == 1 {
					links = append(links, l)
				}
			}
			g := made(t, n, links...)
			lists(n, func(l []int) {
				if got, want := Path(g, l...), plainPath(n, links, l); got != want {
					t.Fatalf("%d nodes, links %v: Path(%v): %v", n, links, l, got)
				}
			})
		}
	}
}

// lists goes over all lists of up to one number more than there are nodes, the numbers from -1 to how many there are.
func lists(n int, do func(l []int)) {
	var longer func(l []int)
	longer = func(l []int) {
		do(l)
		if len(l) > n {
			return
		}
		for i := -1; i <= n; i++ {
			longer(append(slices.Clone(l), i))
		}
	}
	longer(nil)
}

// How many paths there are is known of rings, lines and full graphs.
func TestHowManyPaths(t *testing.T) {
	for _, r := range []struct {
		what  string
		n     int
		links [][2]int
		many  int
	}{
		{"a full graph", 5, graph.Full(5), 5 + 20 + 60 + 120 + 120},
		{"a full graph", 4, graph.Full(4), 4 + 12 + 24 + 24},
		{"a ring", 5, graph.Ring(5), 5 + 10 + 10 + 10 + 10},
		{"a ring", 4, graph.Ring(4), 4 + 8 + 8 + 8},
		{"a line", 5, line(5), 5 + 8 + 6 + 4 + 2},
		{"a line", 2, line(2), 2 + 2},
		{"a star", 5, star(5, 3), 5 + 8 + 12},
		{"no links", 5, nil, 5},
		{"one node", 1, nil, 1},
	} {
		g, many := made(t, r.n, r.links...), 0
		lists(r.n, func(l []int) {
			if Path(g, l...) {
				many++
			}
		})
		if many != r.many {
			t.Errorf("%s of %d: %d paths; wanted %d", r.what, r.n, many, r.many)
		}
	}
}

// walk goes from a node on to one that is linked and was not there yet, as long as there is one and it is not long enough.
func walk(next func() uint64, g *graph.Graph, most int) []int {
	l := []int{below(next, g.N())}
	for len(l) < most {
		var able []int
		for i := range g.N() {
			if g.Linked(l[len(l)-1], i) && !slices.Contains(l, i) {
				able = append(able, i)
			}
		}
		if len(able) == 0 {
			break
		}
		l = append(l, able[below(next, len(able))])
	}
	return l
}

// spoiled is a list of which something was turned round, doubled, left out or made another number.
func spoiled(next func() uint64, n int, l []int) []int {
	at, o := below(next, len(l)), below(next, len(l))
	switch below(next, 6) {
	case 0:
		return instead(l, at, below(next, n))
	case 1:
		return instead(l, at, strays[below(next, len(strays))])
	case 2:
		return with(l, at, l[o])
	case 3:
		return instead(instead(l, at, l[o]), o, l[at])
	case 4:
		return slices.Delete(slices.Clone(l), at, at+1)
	}
	return append(slices.Clone(l), below(next, n+1))
}

// Ways by chance over graphs by chance, and such as are spoiled.
func TestPathByChance(t *testing.T) {
	next := chance(194)
	var are [2]int
	for range 1500 {
		n := 1 + below(next, 64)
		links := some(next, n, 1+below(next, 6))
		g := made(t, n, links...)
		l := walk(next, g, 1+below(next, 64))
		way(t, "a walk", g, true, l...)
		for range 6 {
			worse := spoiled(next, n, l)
			want := plainPath(n, links, worse)
			way(t, fmt.Sprintf("%d nodes, links %v", n, links), g, want, worse...)
			if want {
				are[1]++
			} else {
				are[0]++
			}
		}
	}
	if are[0] < 1000 || are[1] < 1000 {
		t.Errorf("of the spoiled ones %d were none, and %d were paths", are[0], are[1])
	}
}

func TestPlainPath(t *testing.T) {
	links := [][2]int{{0, 1}, {2, 1}}
	for _, r := range []struct {
		l    []int
		want bool
	}{
		{nil, false}, {[]int{0}, true}, {[]int{2}, true}, {[]int{3}, false}, {[]int{-1}, false}, {[]int{0, 1}, true}, {[]int{1, 0}, true},
		{[]int{1, 2}, true}, {[]int{0, 2}, false}, {[]int{0, 1, 2}, true}, {[]int{2, 1, 0}, true}, {[]int{0, 1, 0}, false}, {[]int{1, 1}, false},
		{[]int{0, 1, 3}, false},
	} {
		if got := plainPath(3, links, r.l); got != r.want {
			t.Errorf("plainPath(%v): %v", r.l, got)
		}
	}
}

func TestLimit(t *testing.T) {
	for n := 1; n <= 64; n++ {
		for _, links := range [][][2]int{nil, line(n), graph.Ring(n), graph.Full(n)} {
			g := made(t, n, links...)
			if got := Limit(g); got != n-1 {
				t.Errorf("%d nodes, %d links: Limit: %d", n, len(links), got)
			}
			if got := Limit(g.Without(math.MaxUint64)); got != n-1 {
				t.Errorf("%d nodes, all out: Limit: %d", n, got)
			}
		}
	}
	if got := Limit(made(t, 64)); got != api.MaxHops {
		t.Errorf("64 nodes: Limit: %d", got)
	}
	if got := Limit(nil); got != 0 {
		t.Errorf("nil: Limit: %d", got)
	}
}

// P19.2

func TestGoodAndSpanByHand(t *testing.T) {
	for _, r := range []struct {
		h              int
		dmin, dmax     int64
		lo, hi         int64
		is             bool
		whatStandsAtIt string
	}{
		{0, 0, 0, 0, 0, true, "nothing at all"},
		{0, 3, 5, 0, 0, true, "no link"},
		{0, 64, 64, 0, 0, true, "no link, the slowest"},
		{1, 0, 0, 0, 0, true, "a link that takes nothing"},
		{1, 0, 1, 0, 1, true, "a link"},
		{1, 1, 1, 1, 1, true, "a link that always takes as long"},
		{1, 2, 1, 0, 0, false, "the wrong way round"},
		{2, 3, 5, 6, 10, true, "two links"},
		{3, 1, 2, 3, 6, true, "the chapter's"},
		{7, 0, 64, 0, 448, true, "the widest"},
		{63, 0, 0, 0, 0, true, "the most links, of nothing"},
		{63, 1, 64, 63, 4032, true, "the most links"},
		{63, 64, 64, 4032, 4032, true, "the greatest"},
		{64, 0, 0, 0, 0, false, "a link too many"},
		{64, 64, 64, 0, 0, false, "a link too many, the slowest"},
		{-1, 0, 0, 0, 0, false, "a link too few"},
		{-1, 1, 2, 0, 0, false, "a link too few"},
		{1, -1, 0, 0, 0, false, "below 0"},
		{1, -1, -1, 0, 0, false, "both below 0"},
		{1, 0, -1, 0, 0, false, "the greatest below 0"},
		{1, 64, 65, 0, 0, false, "too slow"},
		{1, 65, 65, 0, 0, false, "both too slow"},
		{1, 65, 64, 0, 0, false, "too slow, and the wrong way round"},
		{1, 64, 63, 0, 0, false, "by one the wrong way round"},
		{0, -1, 0, 0, 0, false, "no link, below 0"},
		{0, 1, 0, 0, 0, false, "no link, the wrong way round"},
		{0, 0, 65, 0, 0, false, "no link, too slow"},
		{63, 65, 65, 0, 0, false, "the most links, too slow"},
	} {
		spans(t, r.h, r.dmin, r.dmax, r.lo, r.hi, r.is)
		if t.Failed() {
			t.Fatal(r.whatStandsAtIt)
		}
	}
}

// A bad number, alone or with others, makes all that is told nothing.
func TestBadNumbers(t *testing.T) {
	for _, x := range wild {
		if x != 64 {
			h := int(x)
			none(t, h, 0, 0)
			none(t, h, 1, 2)
			none(t, h, 64, 64)
			for _, d := range []int64{0, 1, 63, 64} {
				none(t, 0, x, d)
				none(t, 1, d, x)
				none(t, 63, x, d)
				none(t, 63, d, x)
			}
			none(t, 1, x, x)
			none(t, 0, x, x)
			none(t, 63, x, x)
		}
		none(t, 64, x, 64)
		none(t, -1, 0, x)
		for _, y := range wild {
			if x != 64 || y != 64 {
				none(t, 1, x, y)
				none(t, 63, x, y)
			}
			for _, z := range wild {
				none(t, int(z), x, y)
			}
		}
	}
}

// Each two delays of which the one is above the other are good one way round alone.
func TestDelaysTheWrongWayRound(t *testing.T) {
	for a := int64(0); a <= 64; a++ {
		for b := a + 1; b <= 64; b++ {
			spans(t, 5, a, b, 5*a, 5*b, true)
			none(t, 5, b, a)
		}
		spans(t, 5, a, a, 5*a, 5*a, true)
	}
}

// P19.3

func TestMidByHand(t *testing.T) {
	for _, r := range []struct {
		h          int
		dmin, dmax int64
		want       int64
		is         bool
	}{
		{3, 1, 2, 4608, true}, // the chapter's
		{2, 3, 5, 8192, true},
		{0, 0, 0, 0, true},
		{0, 7, 9, 0, true},
		{0, 64, 64, 0, true},
		{1, 0, 0, 0, true},
		{63, 0, 0, 0, true},
		{1, 0, 1, 512, true},
		{1, 1, 1, 1024, true},
		{1, 1, 2, 1536, true},
		{7, 0, 1, 3584, true}, // half a tick is left
		{1, 0, 64, 32768, true},
		{1, 63, 64, 65024, true},
		{1, 64, 64, 65536, true},
		{63, 0, 1, 32256, true},
		{63, 0, 64, 2064384, true},
		{63, 64, 64, 4128768, true},
		{64, 64, 64, 0, false},
		{-1, 1, 1, 0, false},
		{1, 2, 1, 0, false},
		{1, -1, 1, 0, false},
		{1, 1, 65, 0, false},
		{math.MaxInt, 1, 1, 0, false},
		{math.MinInt, 1, 1, 0, false},
		{1, math.MinInt64, math.MaxInt64, 0, false},
		{1, math.MaxInt64, math.MaxInt64, 0, false},
	} {
		mids(t, r.h, r.dmin, r.dmax, r.want, r.is)
	}
}

func TestErrByHand(t *testing.T) {
	for _, r := range []struct {
		h               int
		dmin, dmax, rho int64
		want            int64
		is              bool
	}{
		{3, 1, 2, 1, 1542, true}, // the chapter's
		{2, 3, 5, 2, 2068, true},
		{0, 0, 0, 0, 0, true},
		{0, 1, 64, 64, 0, true},
		{1, 0, 0, 64, 0, true},
		{1, 1, 1, 0, 0, true},
		{1, 1, 1, 1, 1, true},
		{1, 0, 1, 0, 512, true},
		{1, 0, 1, 1, 513, true},
		{1, 1, 2, 1, 514, true}, // drift counts for the longest way, not for the shortest
		{1, 0, 64, 0, 32768, true},
		{1, 0, 64, 64, 36864, true},
		{1, 64, 64, 64, 4096, true},
		{7, 2, 3, 5, 3689, true},
		{63, 64, 64, 0, 0, true},
		{63, 64, 64, 1, 4032, true},
		{63, 64, 64, 64, 258048, true},
		{63, 0, 64, 64, 2322432, true}, // the greatest
		{63, 0, 64, 65, 0, false},
		{63, 0, 64, -1, 0, false},
		{0, 0, 0, -1, 0, false},
		{0, 0, 0, 65, 0, false},
		{1, 0, 0, 65, 0, false},
		{1, 1, 1, 64, 64, true},
		{1, 1, 1, 65, 0, false},
		{1, 1, 1, -1, 0, false},
		{64, 0, 64, 64, 0, false},
		{-1, 1, 2, 1, 0, false},
		{3, 2, 1, 1, 0, false},
		{3, -1, 2, 1, 0, false},
		{3, 1, 65, 1, 0, false},
		{64, 0, 64, 65, 0, false},
	} {
		errs(t, r.h, r.dmin, r.dmax, r.rho, r.want, r.is)
	}
}

// A bad drift makes nothing of good numbers, and takes nothing of what needs none.
func TestBadDrifts(t *testing.T) {
	for _, rho := range wild {
		for _, h := range []int{0, 1, 2, 63} {
			for _, d := range [][2]int64{{0, 0}, {0, 1}, {1, 2}, {0, 64}, {64, 64}} {
				if rho != 64 {
					errs(t, h, d[0], d[1], rho, 0, false)
				} else {
					errs(t, h, d[0], d[1], 64, int64(h)*((d[1]-d[0])*512+64*d[1]), true)
				}
				mids(t, h, d[0], d[1], int64(h)*(d[0]+d[1])*512, true)
			}
		}
		for _, x := range wild {
			for _, y := range wild {
				if x != 64 || y != 64 {
					errs(t, 2, x, y, rho, 0, false)
				}
				errs(t, int(x), 1, y, rho, 0, false)
				errs(t, int(x), y, 1, rho, 0, false)
			}
		}
	}
}

// All numbers that are good, and all about them that are not by one.
func TestAllNumbers(t *testing.T) {
	for h := -1; h <= 64; h++ {
		for dmin := int64(-1); dmin <= 65; dmin++ {
			for dmax := int64(-1); dmax <= 65; dmax++ {
				good := plainGood(h, dmin, dmax)
				if lo, hi, ok := Span(h, dmin, dmax); ok != good || good && (lo != times(h, dmin) || hi != times(h, dmax)) || !good && (lo != 0 || hi != 0) {
					t.Fatalf("Span(%d, %d, %d): %d, %d, %v", h, dmin, dmax, lo, hi, ok)
				}
				if m, ok := Mid(h, dmin, dmax); ok != good || good && m != times(h, 512*dmin+512*dmax) || !good && m != 0 {
					t.Fatalf("Mid(%d, %d, %d): %d, %v", h, dmin, dmax, m, ok)
				}
				if Good(h, dmin, dmax) != good {
					t.Fatalf("Good(%d, %d, %d): %v", h, dmin, dmax, !good)
				}
				if good || (h+int(dmin))%5 == 0 {
					allDrifts(t, h, dmin, dmax, good)
				}
			}
		}
	}
}

// allDrifts asks for Err of all drifts of a few links: it grows evenly by each grain of drift.
func allDrifts(t *testing.T, h int, dmin, dmax int64, good bool) {
	t.Helper()
	var still, grain int64
	if good {
		still, grain = times(h, 512*dmax-512*dmin), times(h, dmax)
	}
	for rho := int64(-1); rho <= 65; rho++ {
		want, is := still+rho*grain, good && rho >= 0 && rho <= 64
		if !is {
			want = 0
		}
		if e, ok := Err(h, dmin, dmax, rho); e != want || ok != is {
			t.Fatalf("Err(%d, %d, %d, %d): %d, %v; wanted %d, %v", h, dmin, dmax, rho, e, ok, want, is)
		}
	}
}

// anyOf draws a number that may be good, or one that is far from it.
func anyOf(next func() uint64, most int) int64 {
	switch below(next, 12) {
	case 0:
		return wild[below(next, len(wild))]
	case 1:
		return int64(next()<<8 ^ next())
	}
	return int64(below(next, most+1))
}

func TestByChance(t *testing.T) {
	next := chance(195)
	good := 0
	for range 200000 {
		h, dmin, dmax, rho := int(anyOf(next, 63)), anyOf(next, 64), anyOf(next, 64), anyOf(next, 64)
		if below(next, 4) > 0 {
			dmin, dmax = min(dmin, dmax), max(dmin, dmax)
		}
		holds(t, h, dmin, dmax, rho)
		if t.Failed() {
			return
		}
		if plainGood(h, dmin, dmax) {
			good++
		}
	}
	if good < 50000 {
		t.Errorf("only %d of them were good", good)
	}
}

// P19.4

// No path has more links than Limit; that of all nodes of a line has as many.
func TestNoPathIsLongerThanLimit(t *testing.T) {
	for n := 1; n <= 4; n++ {
		for _, links := range [][][2]int{nil, line(n), graph.Ring(n), graph.Full(n), star(n, 0)} {
			g := made(t, n, links...)
			lists(n, func(l []int) {
				if Path(g, l...) && len(l)-1 > Limit(g) {
					t.Fatalf("%d nodes, links %v: a path %v", n, links, l)
				}
			})
		}
	}
	for n := 1; n <= 64; n++ {
		g := made(t, n, line(n)...)
		if l := row(0, n); !Path(g, l...) || len(l)-1 != Limit(g) {
			t.Errorf("a line of %d: %v, Limit %d", n, l, Limit(g))
		}
	}
	next := chance(196)
	for range 1000 {
		n := 1 + below(next, 64)
		g := made(t, n, some(next, n, 1+below(next, 3))...)
		if l := walk(next, g, math.MaxInt); !Path(g, l...) || len(l)-1 > Limit(g) {
			t.Fatalf("%d nodes: a path %v, Limit %d", n, l, Limit(g))
		}
	}
}

// A path of any graph has so many links that Span is told of them.
func TestLimitIsGood(t *testing.T) {
	for n := 1; n <= 64; n++ {
		if h := Limit(made(t, n)); !Good(h, 0, 64) || !Good(h, 64, 64) {
			t.Errorf("%d nodes: Limit %d is not good", n, h)
		}
	}
}

// inTime is whether ticks are as many as Span lets be, and how far a clock may go on in them; a clock goes on by some grains in each.
func inTime(t *testing.T, h int, dmin, dmax, rho, ticks, grains int64) {
	t.Helper()
	lo, hi, is := Span(h, dmin, dmax)
	mid, are := Mid(h, dmin, dmax)
	err, ok := Err(h, dmin, dmax, rho)
	if !is || !are || !ok {
		t.Fatalf("%d links, %d to %d, %d: nothing is told", h, dmin, dmax, rho)
	}
	if ticks < lo || ticks > hi {
		t.Fatalf("%d links, %d to %d: %d ticks are not from %d to %d", h, dmin, dmax, ticks, lo, hi)
	}
	if grains < mid-err || grains > mid+err {
		t.Fatalf("%d links, %d to %d, %d: %d grains in %d ticks are not %d, %d more or less", h, dmin, dmax, rho, grains, ticks, mid, err)
	}
}

// drawn are a few links, delays and a drift that are good.
func drawn(next func() uint64) (h int, dmin, dmax, rho int64) {
	a, b := int64(below(next, 65)), int64(below(next, 65))
	return below(next, 64), min(a, b), max(a, b), int64(below(next, 65))
}

// Each link takes what it takes, each tick is wrong as it is wrong.
func TestClocksByChance(t *testing.T) {
	next := chance(197)
	for range 20000 {
		h, dmin, dmax, rho := drawn(next)
		lean := int64(below(next, 3)) - 1
		var ticks, grains int64
		for range h {
			ticks += dmin + int64(below(next, int(dmax-dmin)+1))
		}
		for range ticks {
			wrong := int64(below(next, int(2*rho)+1)) - rho
			if lean != 0 && below(next, 3) > 0 {
				wrong = lean * rho
			}
			grains += 1024 + wrong
		}
		inTime(t, h, dmin, dmax, rho, ticks, grains)
	}
}

// The worst clocks: all links as short and as long as may be, all ticks wrong by as much as may be. The fastest one on the
// longest way goes on by just as much more as Err lets be, so that no lesser Err would do.
func TestWorstClocks(t *testing.T) {
	for h := range 64 {
		for dmin := int64(0); dmin <= 64; dmin++ {
			for dmax := dmin; dmax <= 64; dmax++ {
				for _, rho := range []int64{0, 1, 2, 31, 63, 64} {
					short, long := int64(h)*dmin, int64(h)*dmax
					inTime(t, h, dmin, dmax, rho, short, short*(1024-rho))
					inTime(t, h, dmin, dmax, rho, short, short*(1024+rho))
					inTime(t, h, dmin, dmax, rho, long, long*(1024-rho))
					inTime(t, h, dmin, dmax, rho, long, long*(1024+rho))
					mid, _ := Mid(h, dmin, dmax)
					if err, _ := Err(h, dmin, dmax, rho); long*(1024+rho) != mid+err {
						t.Fatalf("%d links, %d to %d, %d: Err: %d", h, dmin, dmax, rho, err)
					}
				}
			}
		}
	}
}

// Both ends of Span come about, one tick beyond them does not.
func TestSpanIsNoWider(t *testing.T) {
	next := chance(198)
	for range 20000 {
		h, dmin, dmax, _ := drawn(next)
		lo, hi, ok := Span(h, dmin, dmax)
		least, most := int64(0), int64(0)
		for range h {
			least, most = least+dmin, most+dmax
		}
		if !ok || lo != least || hi != most || lo > hi {
			t.Fatalf("Span(%d, %d, %d): %d, %d, %v", h, dmin, dmax, lo, hi, ok)
		}
	}
}

// Paths that follow one another take as long as one of all their links.
func TestLinksAddUp(t *testing.T) {
	next := chance(199)
	for range 20000 {
		_, dmin, dmax, rho := drawn(next)
		a := below(next, 64)
		b := below(next, 64-a)
		aLo, aHi, _ := Span(a, dmin, dmax)
		bLo, bHi, _ := Span(b, dmin, dmax)
		spans(t, a+b, dmin, dmax, aLo+bLo, aHi+bHi, true)
		aMid, _ := Mid(a, dmin, dmax)
		bMid, _ := Mid(b, dmin, dmax)
		mids(t, a+b, dmin, dmax, aMid+bMid, true)
		aErr, _ := Err(a, dmin, dmax, rho)
		bErr, _ := Err(b, dmin, dmax, rho)
		errs(t, a+b, dmin, dmax, rho, aErr+bErr, true)
		if t.Failed() {
			return
		}
	}
}
