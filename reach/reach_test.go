package reach

import (
	"fmt"
	"math"
	"slices"
	"testing"

	"angelus/api"
	"angelus/graph"
)

// strays are numbers that no graph has as nodes; some would be one, if only their lower bits were taken or their sign lost.
var strays = []int{
	math.MinInt, math.MinInt + 1, math.MinInt + 63, -1 << 32, math.MinInt32, -256, -129, -128, -65, -64, -63, -2, -1,
	64, 65, 66, 127, 128, 129, 256, 257, 1 << 16, 1<<16 + 1, math.MaxInt32, 1 << 32, 1<<32 + 1, math.MaxInt - 1, math.MaxInt,
}

// all is every set's greatest.
const all = api.Set(math.MaxUint64)

// chance answers numbers of no rule, the same ones each time.
func chance(x uint64) func() uint64 {
	return func() uint64 {
		x ^= x << 13
		x ^= x >> 7
		x ^= x << 17
		return x >> 8
	}
}

// below draws a number from 0 on below n.
func below(next func() uint64, n int) int { return int(next() % uint64(n)) }

// anySet draws a set, all of whose 64 bits may be 1.
func anySet(next func() uint64) api.Set { return api.Set(next()<<16 ^ next()) }

// plain is the chapter, read plainly: of each two nodes of a graph how far they are, over links of which no end is taken out.
type plain struct {
	n    int
	here [64]bool
	far  [64][64]int
}

// plainOf tries of each two nodes the way over each third one, which are all ways in the end.
func plainOf(n int, links [][2]int, off api.Set) *plain {
	p := &plain{n: n}
	for a := range 64 {
		p.here[a] = a < n && off%2 == 0
		off /= 2
		for b := range 64 {
			p.far[a][b] = -1
		}
	}
	for a := range n {
		if p.here[a] {
			p.far[a][a] = 0
		}
	}
	for _, l := range links {
		if p.here[l[0]] && p.here[l[1]] {
			p.far[l[0]][l[1]], p.far[l[1]][l[0]] = 1, 1
		}
	}
	for c := range n {
		for a := range n {
			for b := range n {
				p.over(a, c, b)
			}
		}
	}
	return p
}

// over takes the way from a to b that goes over c, if there is one, and none that is shorter.
func (p *plain) over(a, c, b int) {
	if p.far[a][c] < 0 || p.far[c][b] < 0 {
		return
	}
	if way := p.far[a][c] + p.far[c][b]; p.far[a][b] < 0 || way < p.far[a][b] {
		p.far[a][b] = way
	}
}

// dist is how far each node is from one, or from a number that is none.
func (p *plain) dist(i int) []int {
	var d []int
	for k := range p.n {
		if i < 0 || i >= p.n {
			d = append(d, -1)
		} else {
			d = append(d, p.far[i][k])
		}
	}
	return d
}

// ball are the nodes that are reached and not farther than most.
func (p *plain) ball(i, most int) api.Set {
	s, worth := api.Set(0), api.Set(1)
	for _, d := range p.dist(i) {
		if d >= 0 && d <= most {
			s += worth
		}
		worth *= 2
	}
	return s
}

// from are the nodes that are reached, however far.
func (p *plain) from(i int) api.Set { return p.ball(i, math.MaxInt) }

// wide is the greatest distance of two nodes that are there, and whether there is one that is there, and each reaches each.
func (p *plain) wide() (int, bool) {
	most := -1
	for a := range p.n {
		for b := range p.n {
			if !p.here[a] || !p.here[b] {
				continue
			}
			if p.far[a][b] < 0 {
				return -1, false
			}
			most = max(most, p.far[a][b])
		}
	}
	return most, most >= 0
}

// made is the graph of links that may be.
func made(t *testing.T, n int, links ...[2]int) *graph.Graph {
	t.Helper()
	g, e := graph.New(n, links...)
	if e != api.OK {
		t.Fatalf("graph.New(%d, %v): %d", n, links, e)
	}
	return g
}

// line links each node with the next one.
func line(n int) [][2]int {
	var l [][2]int
	for i := 1; i < n; i++ {
		l = append(l, [2]int{i - 1, i})
	}
	return l
}

// star links one node with each other.
func star(n, mid int) [][2]int {
	var l [][2]int
	for i := range n {
		if i != mid {
			l = append(l, [2]int{mid, i})
		}
	}
	return l
}

// asked are the numbers that are asked of a graph of n nodes: its nodes, those about its end, and such as none has.
func asked(n int) []int {
	l := append([]int{n, n + 1, 62, 63}, strays...)
	for i := range n {
		l = append(l, i)
	}
	return l
}

// farthest are the numbers that are asked as the greatest distance of a ball.
func farthest(n int) []int {
	return []int{
		math.MinInt, math.MinInt + 1, -1 << 32, -64, -2, -1, 0, 1, 2, 3, n/2 - 1, n / 2, n/2 + 1, n - 2, n - 1, n, n + 1,
		62, 63, 64, 65, 1 << 32, 1<<32 + 1, math.MaxInt - 1, math.MaxInt,
	}
}

// holdsOf asks all that can be asked round one number, and holds it against the chapter.
func holdsOf(t *testing.T, what string, g *graph.Graph, off api.Set, p *plain, i int) {
	t.Helper()
	if got, want := From(g, i, off), p.from(i); got != want {
		t.Fatalf("%s: From(%d, off %#x): %#x; wanted %#x", what, i, off, got, want)
	}
	if got, want := Dist(g, i, off), p.dist(i); !slices.Equal(got, want) {
		t.Fatalf("%s: Dist(%d, off %#x): %v; wanted %v", what, i, off, got, want)
	}
	for _, most := range farthest(p.n) {
		if got, want := Ball(g, i, most, off), p.ball(i, most); got != want {
			t.Fatalf("%s: Ball(%d, %d, off %#x): %#x; wanted %#x", what, i, most, off, got, want)
		}
	}
}

// holds asks a graph all that can be asked of it without the nodes of off.
func holds(t *testing.T, what string, g *graph.Graph, off api.Set, links [][2]int) {
	t.Helper()
	p := plainOf(g.N(), links, off)
	wide, whole := p.wide()
	if got := Whole(g, off); got != whole {
		t.Fatalf("%s: Whole(off %#x): %v", what, off, got)
	}
	if got := Wide(g, off); got != wide {
		t.Fatalf("%s: Wide(off %#x): %d; wanted %d", what, off, got, wide)
	}
	for _, i := range asked(g.N()) {
		holdsOf(t, what, g, off, p, i)
	}
}

// offs are sets that may be taken out of n nodes: none, all, each alone, all but it, such as the graph has not, and some of no rule.
func offs(n int) []api.Set {
	have := all >> (64 - n)
	l := []api.Set{0, have, ^have, all, 1 << 63, 1, 0x5555555555555555, 0xAAAAAAAAAAAAAAAA}
	for i := range n {
		l = append(l, 1<<i, have-1<<i, ^have|1<<i)
	}
	next := chance(uint64(n) + 171)
	for range 6 {
		l = append(l, anySet(next), anySet(next)&anySet(next)&anySet(next))
	}
	return l
}

// far is whether distances are these, and From, what is reached by them.
func far(t *testing.T, what string, g *graph.Graph, i int, off api.Set, want ...int) {
	t.Helper()
	if got := Dist(g, i, off); !slices.Equal(got, want) {
		t.Errorf("%s: Dist(%d, off %#x): %v; wanted %v", what, i, off, got, want)
	}
	var reached api.Set
	for k, d := range want {
		if d != Never {
			reached |= 1 << k
		}
	}
	if got := From(g, i, off); got != reached {
		t.Errorf("%s: From(%d, off %#x): %#x; wanted %#x", what, i, off, got, reached)
	}
}

// spans is whether a graph is that wide; Never: it is not whole.
func spans(t *testing.T, what string, g *graph.Graph, off api.Set, want int) {
	t.Helper()
	if got := Wide(g, off); got != want {
		t.Errorf("%s: Wide(off %#x): %d; wanted %d", what, off, got, want)
	}
	if got := Whole(g, off); got != (want != Never) {
		t.Errorf("%s: Whole(off %#x): %v", what, off, got)
	}
}

func TestExample(t *testing.T) {
	g := made(t, 5, graph.Ring(5)...)
	spans(t, "a ring of five", g, 1, 3)
	far(t, "a ring of five", g, 1, 1, Never, 0, 1, 2, 3)
}

func TestNever(t *testing.T) {
	if Never != -1 {
		t.Errorf("Never: %d", Never)
	}
}

// P17.1

func TestFromAndDistOfANode(t *testing.T) {
	g := made(t, 6, [2]int{0, 1}, [2]int{2, 1}, [2]int{2, 3}, [2]int{3, 0}, [2]int{4, 3})
	far(t, "a ring with a tail", g, 0, 0, 0, 1, 2, 1, 2, Never)
	far(t, "a ring with a tail", g, 1, 0, 1, 0, 1, 2, 3, Never)
	far(t, "a ring with a tail", g, 3, 0, 1, 2, 1, 0, 1, Never)
	far(t, "a ring with a tail", g, 4, 0, 2, 3, 2, 1, 0, Never)
	far(t, "a ring with a tail", g, 5, 0, Never, Never, Never, Never, Never, 0)
}

// The shorter way counts, wherever the nodes stand that it goes over.
func TestDistIsTheLeast(t *testing.T) {
	g := made(t, 7, [2]int{0, 1}, [2]int{1, 2}, [2]int{2, 3}, [2]int{3, 4}, [2]int{0, 6}, [2]int{6, 4}, [2]int{4, 5})
	far(t, "two ways", g, 0, 0, 0, 1, 2, 3, 2, 3, 1)
	far(t, "the shorter way out", g, 0, 1<<6, 0, 1, 2, 3, 4, 5, Never)
	far(t, "the longer way out", g, 0, 1<<2, 0, 1, Never, 3, 2, 3, 1)
	far(t, "both ways out", g, 0, 1<<2|1<<6, 0, 1, Never, Never, Never, Never, Never)
}

func TestFromAndDistOfNoNode(t *testing.T) {
	for _, n := range []int{1, 2, 5, 31, 32, 33, 63, 64} {
		g := made(t, n, graph.Full(n)...)
		never := slices.Repeat([]int{Never}, n)
		for _, off := range offs(n) {
			for _, i := range strays {
				far(t, "a full graph", g, i, off, never...)
			}
			for i := n; i < 64; i++ { // a node of greater graphs
				far(t, "a full graph", g, i, off, never...)
			}
		}
	}
}

func TestFromAndDistOfANodeThatIsOff(t *testing.T) {
	for _, n := range []int{1, 2, 5, 64} {
		g := made(t, n, graph.Full(n)...)
		never := slices.Repeat([]int{Never}, n)
		for i := range n {
			far(t, "a full graph", g, i, 1<<i, never...)
			far(t, "a full graph", g, i, all, never...)
			if n > 1 {
				far(t, "a full graph", g, i, 1<<i|1<<((i+1)%n), never...)
			}
		}
	}
}

// Nodes that are taken out are reached from none, and no way goes over them.
func TestNodesThatAreOffAreNotReached(t *testing.T) {
	for _, n := range []int{2, 3, 9, 64} {
		for _, mid := range []int{0, n / 2, n - 1} {
			g := made(t, n, star(n, mid)...)
			for i := range n {
				want := slices.Repeat([]int{Never}, n)
				if i != mid {
					want[i] = 0
				}
				far(t, "a star without its middle", g, i, 1<<mid, want...)
			}
			end := (mid + 1) % n
			want := slices.Repeat([]int{1}, n)
			want[mid], want[end] = 0, Never
			far(t, "a star without an end", g, mid, 1<<end, want...)
		}
	}
}

func TestOffThatTheGraphHasNot(t *testing.T) {
	for n := 1; n < 64; n++ {
		g := made(t, n, line(n)...)
		for i := range n {
			var want []int
			for k := range n {
				want = append(want, max(i-k, k-i))
			}
			for _, off := range []api.Set{0, 1 << n, 1 << 63, 1<<n | 1<<63, all << n} {
				far(t, "a line", g, i, off, want...)
			}
		}
	}
	g := made(t, 3, line(3)...)
	far(t, "a line of three", g, 0, 0xFFFFFFFFFFFFFFF8, 0, 1, 2)
	far(t, "a line of three", g, 0, 0xFFFFFFFFFFFFFFFA, 0, Never, Never)
}

// Each node of a line but its ends parts it.
func TestOffThatParts(t *testing.T) {
	for _, n := range []int{3, 4, 33, 64} {
		g := made(t, n, line(n)...)
		for out := range n {
			for i := range n {
				want := slices.Repeat([]int{Never}, n)
				for k := range n {
					if (i < out && k < out) || (i > out && k > out) {
						want[k] = max(i-k, k-i)
					}
				}
				far(t, "a line that is parted", g, i, 1<<out, want...)
			}
			width := n - 2
			if out > 0 && out < n-1 {
				width = Never
			}
			spans(t, "a line that is parted", g, 1<<out, width)
		}
	}
}

// Of each node of the graph it is told, not more and not less.
func TestDistTellsOfEachNode(t *testing.T) {
	for n := 1; n <= 64; n++ {
		g := made(t, n, line(n)...)
		for _, off := range []api.Set{0, all, 1, 0x9249249249249249} {
			for _, i := range asked(n) {
				if got := Dist(g, i, off); len(got) != n {
					t.Fatalf("a line of %d: Dist(%d, off %#x) has %d", n, i, off, len(got))
				}
			}
		}
	}
}

// Each of a few shapes, with all that may be taken out of it.
func TestShapes(t *testing.T) {
	for _, n := range []int{1, 2, 3, 4, 5, 8, 31, 64} {
		next := chance(uint64(n) + 17)
		for name, links := range map[string][][2]int{
			"no links":  nil,
			"a line":    line(n),
			"a ring":    graph.Ring(n),
			"all links": graph.Full(n),
			"a star":    star(n, n/2),
			"parts":     parts(n, 3),
			"a tree":    tree(next, n),
		} {
			g := made(t, n, links...)
			for k, off := range offs(n) {
				if n > 8 && k > 10 && k%23 != 0 {
					continue
				}
				holds(t, fmt.Sprintf("%s, of %d nodes", name, n), g, off, links)
			}
		}
	}
}

// parts links each node with the one that is so many behind it: as many parts.
func parts(n, many int) [][2]int {
	var l [][2]int
	for i := many; i < n; i++ {
		l = append(l, [2]int{i, i - many})
	}
	return l
}

// tree links each node with one ahead of it.
func tree(next func() uint64, n int) [][2]int {
	var l [][2]int
	for i := 1; i < n; i++ {
		l = append(l, [2]int{below(next, i), i})
	}
	return l
}

func TestOneNode(t *testing.T) {
	g := made(t, 1)
	far(t, "one node", g, 0, 0, 0)
	far(t, "one node", g, 0, all-1, 0)
	far(t, "one node", g, 0, 1, Never)
	far(t, "one node", g, 1, 0, Never)
	far(t, "one node", g, -1, 0, Never)
	spans(t, "one node", g, 0, 0)
	spans(t, "one node", g, all-1, 0)
	spans(t, "one node", g, 1, Never)
	spans(t, "one node", g, all, Never)
}

// A line of 64 has the greatest distance that there is.
func TestLineOf64(t *testing.T) {
	g := made(t, 64, line(64)...)
	spans(t, "a line of 64", g, 0, 63)
	spans(t, "a line of 64", g, 1, 62)
	spans(t, "a line of 64", g, 1<<63, 62)
	if d := Dist(g, 0, 0); d[63] != 63 || d[62] != 62 {
		t.Errorf("Dist(0): %v", d)
	}
	if got := From(g, 0, 0); got != all {
		t.Errorf("From(0): %#x", got)
	}
	for most, want := range map[int]api.Set{61: all >> 2, 62: all >> 1, 63: all, 64: all} {
		if got := Ball(g, 0, most, 0); got != want {
			t.Errorf("Ball(0, %d): %#x; wanted %#x", most, got, want)
		}
	}
}

// The same line, its nodes in an order of no rule.
func TestLineInAnyOrder(t *testing.T) {
	next := chance(172)
	for range 40 {
		n := 2 + below(next, 63)
		place := make([]int, n) // which node stands where
		for i := range place {
			k := below(next, i+1)
			place[i] = place[k]
			place[k] = i
		}
		var links [][2]int
		for i := 1; i < n; i++ {
			links = append(links, [2]int{place[i], place[i-1]})
		}
		g := made(t, n, links...)
		spans(t, "a line in any order", g, 0, n-1)
		for at, i := range place {
			d := Dist(g, i, 0)
			for k, other := range place {
				if d[other] != max(at-k, k-at) {
					t.Fatalf("a line %v: Dist(%d): %v", place, i, d)
				}
			}
		}
	}
}

// P17.2

func TestWholeOfFewLeft(t *testing.T) {
	for _, n := range []int{1, 2, 3, 7, 63, 64} {
		for _, links := range [][][2]int{nil, line(n), graph.Full(n)} {
			g := made(t, n, links...)
			what := fmt.Sprintf("%d nodes, %d links", n, len(links))
			have := all >> (64 - n)
			spans(t, what+", none left", g, have, Never)
			spans(t, what+", none left", g, all, Never)
			for i := range n {
				spans(t, what+", one left", g, have-1<<i, 0)
				spans(t, what+", one left", g, all-1<<i, 0)
			}
		}
	}
}

func TestWholeOfTwoLeft(t *testing.T) {
	for _, n := range []int{2, 3, 7, 64} {
		g := made(t, n, graph.Ring(n)...)
		for a := range n {
			for b := a + 1; b < n; b++ {
				want := Never
				if b-a == 1 || b-a == n-1 {
					want = 1
				}
				spans(t, fmt.Sprintf("two left of a ring of %d", n), g, all-1<<a-1<<b, want)
			}
		}
	}
}

// One that is not reached is enough, whichever it is.
func TestWholeButForOne(t *testing.T) {
	for _, n := range []int{2, 3, 8, 64} {
		for alone := range n {
			links := slices.DeleteFunc(graph.Full(n), func(l [2]int) bool { return l[0] == alone || l[1] == alone })
			g := made(t, n, links...)
			spans(t, fmt.Sprintf("%d nodes, %d alone", n, alone), g, 0, Never)
			spans(t, fmt.Sprintf("%d nodes, %d out", n, alone), g, 1<<alone, min(n-2, 1))
			linked := made(t, n, append(links, [2]int{alone, (alone + 1) % n})...)
			spans(t, fmt.Sprintf("%d nodes, %d linked", n, alone), linked, 0, min(n-1, 2))
		}
	}
}

// Two parts that are whole each are none together; what is taken out may leave one of them.
func TestWholeOfTwoParts(t *testing.T) {
	g := made(t, 6, [2]int{0, 1}, [2]int{1, 2}, [2]int{3, 4})
	spans(t, "three parts", g, 0, Never)
	spans(t, "two parts", g, 1<<5, Never)
	spans(t, "two parts", g, 1<<3|1<<4, Never)
	spans(t, "the first part", g, 1<<3|1<<4|1<<5, 2)
	spans(t, "the next part", g, 1<<0|1<<1|1<<2|1<<5, 1)
	spans(t, "the last part", g, 1<<5-1, 0)
	spans(t, "two nodes of one part", g, 1<<1|1<<3|1<<4|1<<5, Never)
}

func TestWideOfRings(t *testing.T) {
	for n := 1; n <= 64; n++ {
		g := made(t, n, graph.Ring(n)...)
		spans(t, fmt.Sprintf("a ring of %d", n), g, 0, n/2)
		for i := range n {
			want := n - 2 // a line
			if n == 1 {
				want = Never
			}
			spans(t, fmt.Sprintf("a ring of %d without one", n), g, 1<<i, want)
		}
	}
}

func TestWideOfFullGraphs(t *testing.T) {
	for n := 1; n <= 64; n++ {
		g := made(t, n, graph.Full(n)...)
		spans(t, fmt.Sprintf("a full graph of %d", n), g, 0, min(n-1, 1))
		for left := 1; left <= n; left++ {
			spans(t, fmt.Sprintf("%d left of a full graph of %d", left, n), g, all<<left, min(left-1, 1))
		}
	}
}

// The greatest distance is that of any two, not of the first node and another one.
func TestWideIsOfAnyTwo(t *testing.T) {
	for n := 3; n <= 64; n++ {
		for mid := range n {
			spans(t, fmt.Sprintf("a star of %d round %d", n, mid), made(t, n, star(n, mid)...), 0, 2)
		}
	}
	g := made(t, 7, [2]int{0, 1}, [2]int{1, 2}, [2]int{2, 3}, [2]int{0, 4}, [2]int{4, 5}, [2]int{0, 6})
	spans(t, "three arms", g, 0, 5)
	spans(t, "three arms, one shorter", g, 1<<3, 4)
	spans(t, "three arms, two shorter", g, 1<<3|1<<5, 3)
	spans(t, "three arms, without their root", g, 1, Never)
}

// P17.3

func TestBall(t *testing.T) {
	g := made(t, 8, [2]int{0, 1}, [2]int{1, 2}, [2]int{2, 3}, [2]int{3, 4}, [2]int{1, 5}, [2]int{6, 7})
	for _, r := range []struct {
		i, most int
		off     api.Set
		want    api.Set
	}{
		{1, 0, 0, 1 << 1},
		{1, 1, 0, 1<<0 | 1<<1 | 1<<2 | 1<<5},
		{1, 2, 0, 1<<0 | 1<<1 | 1<<2 | 1<<3 | 1<<5},
		{1, 3, 0, 1<<6 - 1},
		{1, 4, 0, 1<<6 - 1},
		{1, math.MaxInt, 0, 1<<6 - 1},
		{1, -1, 0, 0},
		{1, -2, 0, 0},
		{1, math.MinInt, 0, 0},
		{4, 3, 0, 1<<1 | 1<<2 | 1<<3 | 1<<4},
		{4, 4, 0, 1<<6 - 1},
		{6, 0, 0, 1 << 6},
		{6, 1, 0, 1<<6 | 1<<7},
		{6, math.MaxInt, 0, 1<<6 | 1<<7},
		{1, 3, 1 << 2, 1<<0 | 1<<1 | 1<<5},
		{1, 1, 1 << 0, 1<<1 | 1<<2 | 1<<5},
		{1, 0, all - 1<<1, 1 << 1},
		{1, 5, all - 1<<1, 1 << 1},
		{1, 0, 1 << 1, 0}, // a node that is off
		{1, math.MaxInt, 1 << 1, 0},
		{1, math.MaxInt, all, 0},
		{1, 3, all - 255, 1<<6 - 1}, // nodes that it has not
		{8, 0, 0, 0},                // no nodes
		{8, math.MaxInt, 0, 0},
		{-1, math.MaxInt, 0, 0},
		{64, math.MaxInt, 0, 0},
		{65, 0, 0, 0},
		{1 << 32, 0, 0, 0},
		{math.MaxInt, math.MaxInt, 0, 0},
		{math.MinInt, math.MaxInt, 0, 0},
		{math.MinInt, math.MinInt, 0, 0},
	} {
		if got := Ball(g, r.i, r.most, r.off); got != r.want {
			t.Errorf("Ball(%d, %d, off %#x): %#x; wanted %#x", r.i, r.most, r.off, got, r.want)
		}
	}
}

// A ball of a ring grows by both neighbours with each link, till it has all.
func TestBallGrows(t *testing.T) {
	for _, n := range []int{3, 4, 9, 63, 64} {
		g := made(t, n, graph.Ring(n)...)
		for i := range n {
			var want api.Set
			for most := range n + 2 {
				want |= 1<<((i+most)%n) | 1<<(((i-most)%n+n)%n)
				if got := Ball(g, i, most, 0); got != want {
					t.Fatalf("a ring of %d: Ball(%d, %d): %#x; wanted %#x", n, i, most, got, want)
				}
			}
		}
	}
}

// Nodes that are not reached are in no ball, however great: their distance is none at all.
func TestBallHasNoneThatIsNotReached(t *testing.T) {
	for _, n := range []int{1, 2, 9, 64} {
		g := made(t, n)
		for i := range n {
			for _, most := range farthest(n) {
				want := api.Set(1) << i
				if most < 0 {
					want = 0
				}
				if got := Ball(g, i, most, 0); got != want {
					t.Errorf("%d nodes without links: Ball(%d, %d): %#x", n, i, most, got)
				}
			}
		}
	}
}

// P17.4

// agrees asks what the promise tells of distances and balls together, of the program's own answers.
func agrees(t *testing.T, what string, g *graph.Graph, off api.Set) {
	t.Helper()
	n := g.N()
	far := make([][]int, n)
	for i := range n {
		far[i] = Dist(g, i, off)
	}
	for i := range n {
		if Ball(g, i, n, off) != From(g, i, off) {
			t.Fatalf("%s: a ball of %d links round %d (off %#x) is not all that is reached", what, n, i, off)
		}
		for k := range n {
			if far[i][k] != far[k][i] {
				t.Fatalf("%s: %d from %d is %d, and back %d (off %#x)", what, k, i, far[i][k], far[k][i], off)
			}
		}
	}
	for _, l := range g.Links() {
		if off>>l[0]&1 == 1 || off>>l[1]&1 == 1 {
			continue // such a link is taken out
		}
		for i := range n {
			a, b := far[i][l[0]], far[i][l[1]]
			if (a == Never) != (b == Never) || a-b > 1 || b-a > 1 {
				t.Fatalf("%s: from %d the ends of the link %v are %d and %d (off %#x)", what, i, l, a, b, off)
			}
		}
	}
}

func TestAgrees(t *testing.T) {
	for n := 1; n <= 64; n++ {
		next := chance(uint64(n) + 174)
		for _, links := range [][][2]int{nil, line(n), graph.Ring(n), star(n, n-1), parts(n, 2), tree(next, n), graph.Full(n)} {
			g := made(t, n, links...)
			what := fmt.Sprintf("%d nodes, %d links", n, len(links))
			for _, off := range []api.Set{0, 1, 1 << 63, 1 << (n / 2), anySet(next) & anySet(next), all} {
				agrees(t, what, g, off)
			}
		}
	}
}

// All graphs of up to five nodes, without all sets of them and of one that they have not.
func TestAllSmallGraphs(t *testing.T) {
	for n := 1; n <= 5; n++ {
		full := graph.Full(n)
		for which := range 1 << len(full) {
			if n == 5 && which%5 != 0 {
				continue
			}
			var links [][2]int
			for i, l := range full {
				if which>>i&1 == 1 {
					links = append(links, l)
				}
			}
			g := made(t, n, links...)
			what := fmt.Sprintf("%d nodes, links %v", n, links)
			for off := api.Set(0); off < 1<<(n+1); off++ {
				holds(t, what, g, off, links)
				agrees(t, what, g, off)
			}
		}
	}
}

// drawn are links of n nodes drawn by chance: a tree with some more, or each two nodes with some likelihood.
func drawn(next func() uint64, n int) [][2]int {
	rate := []int{1, 2, 4, 8, 20, 60, 95}[below(next, 7)]
	links := slices.DeleteFunc(graph.Full(n), func([2]int) bool { return below(next, 100) >= rate })
	if next()%2 == 0 {
		for _, l := range tree(next, n) {
			if !slices.Contains(links, l) {
				links = append(links, l)
			}
		}
	}
	for i := range links {
		if next()%2 == 0 {
			links[i][0], links[i][1] = links[i][1], links[i][0]
		}
	}
	return links
}

func TestByChance(t *testing.T) {
	next := chance(17)
	for k := range 500 {
		n := 1 + below(next, 14)
		if k%8 == 0 {
			n = 1 + below(next, 64)
		}
		links := drawn(next, n)
		g := made(t, n, links...)
		what := fmt.Sprintf("%d nodes, links %v", n, links)
		for _, off := range []api.Set{0, 1 << below(next, n), 1<<below(next, n) | 1<<below(next, 64), anySet(next) & anySet(next) & anySet(next), anySet(next)} {
			holds(t, what, g, off, links)
			agrees(t, what, g, off)
		}
	}
}

// A graph without the links of the nodes that are taken out tells the same of all that are left.
func TestOffIsAsWithoutLinks(t *testing.T) {
	next := chance(178)
	for range 200 {
		n := 1 + below(next, 40)
		g := made(t, n, drawn(next, n)...)
		off := anySet(next) & anySet(next)
		less := g.Without(off)
		for i := range n {
			want := Dist(less, i, 0)
			for k := range n {
				if off>>i&1 == 1 || off>>k&1 == 1 {
					want[k] = Never
				}
			}
			far(t, "off, or without links", g, i, off, want...)
		}
	}
}

// Rules

// What was asked stays as it was, and tells the same when it is asked again.
func TestGraphStays(t *testing.T) {
	next := chance(179)
	for range 40 {
		n := 1 + below(next, 30)
		links := drawn(next, n)
		g, same := made(t, n, links...), made(t, n, links...)
		for _, off := range []api.Set{anySet(next), 0, 1, all} {
			holds(t, "the first time", g, off, links)
		}
		if g.N() != n || !slices.Equal(g.Links(), same.Links()) {
			t.Fatalf("%d nodes, links %v: behind the calls %d and %v", n, links, g.N(), g.Links())
		}
		for i := range n {
			if g.Near(i) != same.Near(i) {
				t.Fatalf("%d nodes, links %v: behind the calls %#x is near %d", n, links, g.Near(i), i)
			}
		}
		holds(t, "behind other calls", g, 0, links)
	}
}

// Who has distances may change them.
func TestDistIsNew(t *testing.T) {
	for _, n := range []int{1, 2, 5, 64} {
		g := made(t, n, line(n)...)
		for _, off := range []api.Set{0, 1, all} {
			for _, i := range []int{0, n - 1, n, -1} {
				was := slices.Clone(Dist(g, i, off))
				one, two := Dist(g, i, off), Dist(g, i, off)
				for k := range one {
					one[k] = 99
				}
				_ = append(one[:0], 77)
				if !slices.Equal(two, was) || !slices.Equal(Dist(g, i, off), was) {
					t.Errorf("a line of %d: Dist(%d, off %#x), when another one was changed: %v; wanted %v", n, i, off, two, was)
				}
				holds(t, "when distances were changed", g, off, line(n))
			}
		}
	}
}

// nothing asks that a graph without nodes answers nothing, whatever it is asked.
func nothing(t *testing.T, what string, g *graph.Graph) {
	t.Helper()
	for _, off := range []api.Set{0, 1, 1 << 63, all, all - 1} {
		spans(t, what, g, off, Never)
		for _, i := range asked(8) {
			far(t, what, g, i, off)
			for _, most := range farthest(8) {
				if got := Ball(g, i, most, off); got != 0 {
					t.Errorf("%s: Ball(%d, %d, off %#x): %#x", what, i, most, off, got)
				}
			}
		}
	}
}

func TestNil(t *testing.T) { nothing(t, "a nil graph", nil) }

// A graph that graph.New has not made has no nodes.
func TestGraphNotMade(t *testing.T) { nothing(t, "a graph that was not made", &graph.Graph{}) }

// The plain reading is asked as well: by what can be told by hand.
func TestPlain(t *testing.T) {
	links := [][2]int{{0, 1}, {2, 1}, {3, 2}, {3, 0}, {4, 3}}
	p := plainOf(6, links, 1<<5)
	if wide, whole := p.wide(); wide != 3 || !whole {
		t.Errorf("wide: %d, %v", wide, whole)
	}
	if d := p.dist(1); !slices.Equal(d, []int{1, 0, 1, 2, 3, -1}) {
		t.Errorf("dist: %v", d)
	}
	if p.from(1) != 31 || p.ball(1, 1) != 7 || p.ball(1, 0) != 2 || p.ball(1, -1) != 0 || p.from(5) != 0 || p.from(6) != 0 || p.from(-1) != 0 {
		t.Errorf("from, ball: %#x, %#x", p.from(1), p.ball(1, 1))
	}
	if wide, whole := plainOf(6, links, 0).wide(); wide != -1 || whole {
		t.Errorf("wide of parts: %d, %v", wide, whole)
	}
	if wide, whole := plainOf(6, links, 63).wide(); wide != -1 || whole {
		t.Errorf("wide of none: %d, %v", wide, whole)
	}
	if wide, whole := plainOf(6, links, 31).wide(); wide != 0 || !whole {
		t.Errorf("wide of one: %d, %v", wide, whole)
	}
}
