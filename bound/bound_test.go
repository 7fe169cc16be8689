package bound

import (
	"fmt"
	"math"
	"math/big"
	"slices"
	"testing"

	"angelus/api"
	"angelus/clock"
	"angelus/rate"
)

const (
	least    = math.MinInt64
	greatest = math.MaxInt64
	end      = 1 << 60 // the end of time
	longest  = 1 << 40 // the longest period
	widest   = end / 63
)

// part is a number of a configuration, with the edges of what it may be, good and wrong.
type part struct {
	name  string
	set   func(c *api.Config, x int64)
	get   func(c api.Config) int64
	edges []int64
}

var parts = []part{
	{"N", func(c *api.Config, x int64) { c.N = int(x) }, func(c api.Config) int64 { return int64(c.N) },
		[]int64{least, -1, 0, 1, 2, 3, 63, 64, 65, greatest}},
	{"Dmin", func(c *api.Config, x int64) { c.Dmin = x }, func(c api.Config) int64 { return c.Dmin },
		[]int64{least, -1, 0, 1, 2, 63, 64, 65, greatest}},
	{"Dmax", func(c *api.Config, x int64) { c.Dmax = x }, func(c api.Config) int64 { return c.Dmax },
		[]int64{least, -1, 0, 1, 2, 63, 64, 65, greatest}},
	{"Rho", func(c *api.Config, x int64) { c.Rho = x }, func(c api.Config) int64 { return c.Rho },
		[]int64{least, -1, 0, 1, 63, 64, 65, greatest}},
	{"Slew", func(c *api.Config, x int64) { c.Slew = x }, func(c api.Config) int64 { return c.Slew },
		[]int64{least, -1, 0, 1, 2, 255, 256, 257, greatest}},
	{"Round", func(c *api.Config, x int64) { c.Round = x }, func(c api.Config) int64 { return c.Round },
		[]int64{least, -1, 0, 1, longest - 1, longest, longest + 1, greatest}},
	{"Window", func(c *api.Config, x int64) { c.Window = x }, func(c api.Config) int64 { return c.Window },
		[]int64{least, -1, 0, 1, longest - 1, longest, longest + 1, greatest}},
	{"Attend", func(c *api.Config, x int64) { c.Attend = x }, func(c api.Config) int64 { return c.Attend },
		[]int64{least, -1, 0, 1, longest - 1, longest, longest + 1, greatest}},
}

// of is a configuration of just the numbers that play a part.
func of(n int, dmin, dmax, rho, slew, round, window, attend int64) api.Config {
	return api.Config{N: n, Dmin: dmin, Dmax: dmax, Rho: rho, Slew: slew, Round: round, Window: window, Attend: attend}
}

// bases are good configurations: middling ones, and those with everything as small and as great as may be.
var bases = []api.Config{
	of(3, 1, 1, 0, 32, 131072, 32768, 65536),
	of(4, 1, 2, 1, 32, 2097152, 524288, 1000000),
	of(17, 5, 23, 7, 100, 123456789, 1234567, 987654321),
	of(2, 1, 1, 0, 1, 1, 1, 1),
	of(64, 64, 64, 64, 256, longest, longest, longest),
	of(64, 1, 64, 64, 256, longest, longest, longest),
}

// wild are numbers all over int64. Some of them would be good if only their lower bits were taken or their sign lost.
var wild = []int64{
	least, least + 1, least + 2, least + 64, -end, -longest - 1, -longest, -1<<32 + 3, -1 << 32, -1<<32 - 1, math.MinInt32, -1 << 16,
	-257, -256, -65, -64, -63, -3, -2, -1, 0, 1, 2, 3, 31, 32, 33, 62, 63, 64, 65, 66, 127, 128, 255, 256, 257, 258, 512, 1023, 1024, 1025,
	1 << 16, 1<<16 + 2, math.MaxInt32, 1 << 31, 1<<32 - 1, 1 << 32, 1<<32 + 1, 1<<32 + 2, 1<<32 + 64, 1<<32 + 256, 1 << 39,
	longest - 2, longest - 1, longest, longest + 1, longest + 2, 2 * longest, 1<<56 + 1, end, end + 1, 1 << 62, 1<<62 + 2, greatest - 1, greatest,
}

// chance answers numbers of no rule, the same ones each time.
func chance(x uint64) func() uint64 {
	return func() uint64 {
		x ^= x << 13
		x ^= x >> 7
		x ^= x << 17
		return x >> 8
	}
}

// below draws a number from 0 on below n.
func below(next func() uint64, n int) int { return int(next() % uint64(n)) }

// from draws a number from one to another one, both ends often.
func from(next func() uint64, lo, hi int64) int64 {
	switch below(next, 6) {
	case 0:
		return lo
	case 1:
		return hi
	}
	return lo + int64(next()%uint64(hi-lo+1))
}

// drawnPeriod is a period of as many bits as it comes.
func drawnPeriod(next func() uint64) int64 { return from(next, 1, 1<<below(next, 41)) }

// drawn is a configuration that may be.
func drawn(next func() uint64) api.Config {
	dmax := from(next, 1, 64)
	return of(int(from(next, 2, 64)), from(next, 1, dmax), dmax, from(next, 0, 64), from(next, 1, 256),
		drawnPeriod(next), drawnPeriod(next), drawnPeriod(next))
}

// calm is one of which the clocks are so good, and slewed so fast, that there may be periods that are wide enough.
func calm(next func() uint64) api.Config {
	c := drawn(next)
	c.Rho = from(next, 0, 3)
	if c.Rho > 0 {
		c.Slew = from(next, 17*c.Rho, 256)
	}
	if below(next, 2) == 0 {
		c.N = int(from(next, 2, 12))
	}
	return c
}

// The chapter, and what chapters 19, 20 and 23 say of Err, Fast, Slow and Ticks, read plainly, by whole numbers without ends.

func num(x int64) *big.Int { return big.NewInt(x) }

func sum(l ...*big.Int) *big.Int {
	s := new(big.Int)
	for _, x := range l {
		s.Add(s, x)
	}
	return s
}

func less(x, y *big.Int) *big.Int { return new(big.Int).Sub(x, y) }

func product(l ...*big.Int) *big.Int {
	p := num(1)
	for _, x := range l {
		p.Mul(p, x)
	}
	return p
}

// twice is that much two times.
func twice(x *big.Int) *big.Int { return product(num(2), x) }

// down is a quotient, rounded down, of a y above 0.
func down(x, y *big.Int) *big.Int { return new(big.Int).Div(x, y) }

func atLeast(x, y *big.Int) bool { return x.Cmp(y) >= 0 }

func in(x, lo, hi int64) bool { return x >= lo && x <= hi }

func plainGood(c api.Config) bool {
	return in(int64(c.N), 2, 64) &&
		in(c.Dmin, 1, 64) && in(c.Dmax, 1, 64) && c.Dmin <= c.Dmax &&
		in(c.Rho, 0, 64) && in(c.Slew, 1, 256) &&
		in(c.Round, 1, longest) && in(c.Window, 1, longest) && in(c.Attend, 1, longest)
}

// names are those of the table, in its order.
var names = [...]string{"Hops", "Fast", "Slow", "Link", "Read", "Agree", "Start", "Eps", "Most", "Cold", "Rough", "Delta", "Down", "Join"}

// table is the numbers of Bounds in that order.
func table(b Bounds) [len(names)]int64 {
	return [...]int64{int64(b.Hops), b.Fast, b.Slow, b.Link, b.Read, b.Agree, b.Start, b.Eps, b.Most, b.Cold, b.Rough, b.Delta, b.Down, b.Join}
}

// numbers are those of the table.
type numbers struct {
	hops, fast, slow, link, read, agree, start, eps, most, cold, rough, delta, down, join *big.Int
}

func (n numbers) table() [len(names)]*big.Int {
	return [...]*big.Int{n.hops, n.fast, n.slow, n.link, n.read, n.agree, n.start, n.eps, n.most, n.cold, n.rough, n.delta, n.down, n.join}
}

// plainOf is of a configuration that may be.
func plainOf(c api.Config) numbers {
	var n numbers
	dmin, dmax, rho, slew := num(c.Dmin), num(c.Dmax), num(c.Rho), num(c.Slew)
	n.hops = num(int64(c.N) - 1)
	n.fast = sum(num(1024), rho, slew)
	n.slow = less(num(1024), sum(rho, slew))
	t := func(g *big.Int) *big.Int { return sum(down(g, n.slow), num(2)) }
	wrong := func(g *big.Int) *big.Int { return product(num(2), rho, t(g)) }
	round, window, attend := num(c.Round), num(c.Window), num(c.Attend)

	n.link = product(dmax, n.fast)
	n.read = sum(product(n.hops, sum(product(less(dmax, dmin), num(512)), product(rho, dmax))), wrong(twice(window)))
	n.agree = sum(twice(n.read), num(2))
	n.start = sum(n.agree, wrong(twice(round)))
	n.eps = sum(n.start, twice(n.read), num(2), wrong(twice(round)), twice(n.fast))
	n.most = sum(n.start, n.read, num(2))
	n.cold = sum(product(less(dmax, dmin), num(512)), product(sum(twice(rho), slew), dmax), num(1))
	n.rough = sum(n.eps, n.cold, n.most, wrong(twice(round)), product(num(4), n.fast))
	n.delta = sum(product(n.hops, sum(n.link, n.eps)), twice(n.fast))
	n.down = t(sum(attend, twice(n.eps), twice(n.delta)))
	n.join = sum(twice(dmax), num(8), t(sum(twice(round), twice(window))), t(sum(twice(attend), twice(n.eps), twice(n.delta))))
	return n
}

// asks is which of the four askings of Enough a configuration that may be meets.
type asks struct{ window, round, slewed, attend bool }

func (a asks) all() bool { return a.window && a.round && a.slewed && a.attend }

// plainWindow is how wide a window is asked for.
func plainWindow(n numbers) *big.Int {
	return sum(twice(n.rough), n.eps, product(n.hops, n.link), product(num(4), n.fast))
}

// plainSlewed is how much is slewed between two windows.
func plainSlewed(c api.Config, n numbers) *big.Int {
	between := less(num(c.Round), twice(num(c.Window)))
	return product(num(c.Slew), less(down(between, n.fast), num(2)))
}

func plainAsks(c api.Config) asks {
	n := plainOf(c)
	return asks{
		window: atLeast(num(c.Window), plainWindow(n)),
		round:  atLeast(num(c.Round), product(num(4), num(c.Window))),
		slewed: atLeast(plainSlewed(c, n), n.most),
		attend: atLeast(num(c.Attend), twice(n.delta)),
	}
}

func plainEnough(c api.Config) bool { return plainGood(c) && plainAsks(c).all() }

// plainSuited is c with the periods that go with a round, and whether they are enough.
func plainSuited(c api.Config, round int64) (api.Config, bool) {
	c.Round, c.Window, c.Attend = round, round/4, 1
	if !plainGood(c) {
		return c, false
	}
	attend := twice(plainOf(c).delta)
	if !attend.IsInt64() {
		return c, false
	}
	c.Attend = attend.Int64()
	return c, plainEnough(c)
}

// plainSuggest is a configuration, and the power of 2 that its Round is; -1 if there is none.
func plainSuggest(c api.Config) (api.Config, int) {
	for k := 12; k <= 40; k++ {
		if d, ok := plainSuited(c, 1<<k); ok {
			return d, k
		}
	}
	return c, -1
}

// plainLate counts what is beyond the ends of int64 as the nearer end.
func plainLate(b Bounds, h int, tol int64) int64 {
	if h < 0 || h > b.Hops || tol < 0 || product(num(tol), num(63)).Cmp(num(end)) > 0 {
		return 0
	}
	x := sum(product(num(int64(h)), sum(num(b.Link), num(tol))), num(b.Fast))
	if x.Cmp(num(least)) < 0 {
		return least
	}
	if x.Cmp(num(greatest)) > 0 {
		return greatest
	}
	return x.Int64()
}

// told holds Of against the chapter, each number by itself, and tells whether it is OK.
func told(t *testing.T, c api.Config) bool {
	t.Helper()
	b, e := Of(c)
	if !plainGood(c) {
		if e != api.ErrConfig || b != (Bounds{}) {
			t.Errorf("Of(%+v): %+v, %d; wanted ErrConfig", c, b, e)
		}
		return false
	}
	if e != api.OK {
		t.Errorf("Of(%+v): %d; wanted OK", c, e)
		return true
	}
	want := plainOf(c).table()
	for k, x := range table(b) {
		if num(x).Cmp(want[k]) != 0 {
			t.Errorf("Of(%+v): %s %d; wanted %d", c, names[k], x, want[k])
		}
	}
	return true
}

// enough holds Enough against the chapter, and tells what it answers.
func enough(t *testing.T, c api.Config) bool {
	t.Helper()
	want := plainEnough(c)
	if got := Enough(c); got != want {
		t.Errorf("Enough(%+v): %v; wanted %v", c, got, want)
	}
	return want
}

// same is whether two configurations have the same of everything.
func same(c, d api.Config) bool {
	return slices.Equal(c.Links, d.Links) && fmt.Sprintf("%+v", c) == fmt.Sprintf("%+v", d)
}

// suggests holds Suggest against the chapter, and tells which power of 2 its Round is; -1 if there is none.
func suggests(t *testing.T, c api.Config) int {
	t.Helper()
	want, k := plainSuggest(c)
	got, ok := Suggest(c)
	if ok != (k >= 0) || !same(got, want) {
		t.Errorf("Suggest(%+v): %+v, %v; wanted %+v (2^%d)", c, got, ok, want, k)
	}
	return k
}

// lates holds Late against the chapter.
func lates(t *testing.T, b Bounds, h int, tol int64) int64 {
	t.Helper()
	want := plainLate(b, h, tol)
	if got := Late(b, h, tol); got != want {
		t.Errorf("Late(%+v, %d, %d): %d; wanted %d", b, h, tol, got, want)
	}
	return want
}

// bounds is Of of a configuration that may be.
func bounds(t *testing.T, c api.Config) Bounds {
	t.Helper()
	b, e := Of(c)
	if e != api.OK {
		t.Fatalf("Of(%+v): %d", c, e)
	}
	return b
}

// The chapter's example, whatever the periods, for its clocks do not drift.
func TestExample(t *testing.T) {
	for _, period := range []int64{1, 4096, longest} {
		b := bounds(t, of(3, 1, 1, 0, 32, period, period, period))
		if b.Fast != 1056 || b.Read != 0 || b.Agree != 2 || b.Eps != 2116 || b.Delta != 8456 {
			t.Errorf("%+v", b)
		}
	}
}

// The limits are those that the chapter names.
func TestLimits(t *testing.T) {
	if api.Grain != 1024 || api.MaxNodes != 64 || api.MaxHops != 63 || api.MaxDelay != 64 || api.MaxDrift != 64 || api.MaxSlew != 256 ||
		api.MaxSpan != longest || api.MaxTime != end || api.ErrConfig != 17 {
		t.Error("limits")
	}
}

// P26.1

func TestOfByHand(t *testing.T) {
	for _, r := range []struct {
		c    api.Config
		want Bounds
	}{
		{of(3, 1, 1, 0, 32, 131072, 32768, 65536),
			Bounds{2, 1056, 992, 1056, 0, 2, 2, 2116, 4, 33, 6377, 8456, 89, 497}},
		{of(3, 1, 1, 0, 64, 131072, 32768, 17424),
			Bounds{2, 1088, 960, 1088, 0, 2, 2, 2180, 4, 65, 6601, 8712, 42, 413}},
		{of(4, 1, 2, 1, 32, 2097152, 524288, 1000000),
			Bounds{3, 1057, 991, 2114, 3662, 7326, 15794, 33702, 19458, 581, 66437, 109562, 1300, 7613}},
		{of(2, 64, 64, 0, 256, 5000, 300, 70000),
			Bounds{1, 1280, 768, 81920, 0, 2, 2, 2564, 4, 16385, 24073, 87044, 326, 568}},
		{of(2, 1, 1, 0, 1, 1, 1, 1), // as small as may be
			Bounds{1, 1025, 1023, 1025, 0, 2, 2, 2054, 4, 2, 6160, 5129, 16, 28}},
		{of(2, 1, 1, 64, 256, 1, 1, 1),
			Bounds{1, 1344, 704, 1344, 320, 642, 898, 4484, 1220, 385, 11721, 8516, 38, 50}},
		{of(64, 1, 64, 64, 256, 1, 1, 1),
			Bounds{63, 1344, 704, 86016, 2290432, 4580866, 4581122, 9164932, 6871556, 56833, 16098953, 582812412, 1681755, 1681893}},
		{of(64, 1, 64, 0, 1, longest, longest, longest),
			Bounds{63, 1025, 1023, 65600, 2032128, 4064258, 4064258, 8130566, 6096388, 32321, 14263375, 516360508, 1075816824, 6449774087}},
		{of(64, 1, 64, 64, 256, longest, longest, longest), // as great as may be
			Bounds{63, 1344, 704, 86016, 399824700416, 799649400834, 1199471811074, 2398943624836, 1599296511492, 56833, 4398062608777,
				151133453786364, 437733389846, 445542421430}},
		{of(64, 64, 64, 64, 256, longest, longest, longest),
			Bounds{63, 1344, 704, 86016, 399822668288, 799645336578, 1199467746818, 2398935496324, 1599290415108, 24577, 4398048351625,
				151132941690108, 437731911934, 445540943519}},
	} {
		b, e := Of(r.c)
		for k, x := range table(b) {
			if want := table(r.want)[k]; x != want || e != api.OK {
				t.Errorf("Of(%+v): %s %d, %d; wanted %d", r.c, names[k], x, e, want)
			}
		}
		told(t, r.c)
	}
}

// Each part alone at all its edges and all over, the others good.
func TestOfOneAlone(t *testing.T) {
	var are [2]int
	for _, c := range bases {
		for _, p := range parts {
			good := 0
			for _, x := range append(slices.Clone(wild), p.edges...) {
				d := c
				p.set(&d, x)
				if told(t, d) {
					good++
				}
			}
			if good == 0 {
				t.Errorf("%s of %+v: none is good", p.name, c)
			}
			are[1] += good
			are[0] += len(wild) + len(p.edges) - good
		}
	}
	if are[0] < 500 || are[1] < 300 {
		t.Error("too few:", are)
	}
}

// Each part that is wrong alone is refused, by a table of its own.
func TestOfRefuses(t *testing.T) {
	for _, r := range []struct {
		part int
		x    int64
	}{
		{0, 1}, {0, 0}, {0, -1}, {0, 65}, {0, 1<<32 + 3}, {0, least}, {0, greatest},
		{1, 0}, {1, -1}, {1, least}, {1, 3}, {1, 65}, {1, greatest}, // c's Dmax is 2
		{2, 0}, {2, -1}, {2, least}, {2, 65}, {2, greatest},
		{3, -1}, {3, 65}, {3, least}, {3, greatest},
		{4, 0}, {4, -1}, {4, 257}, {4, least}, {4, greatest},
		{5, 0}, {5, -1}, {5, longest + 1}, {5, least}, {5, greatest},
		{6, 0}, {6, -1}, {6, longest + 1}, {6, least}, {6, greatest},
		{7, 0}, {7, -1}, {7, longest + 1}, {7, least}, {7, greatest},
	} {
		c := of(4, 1, 2, 1, 32, 2097152, 524288, 1000000)
		if b, e := Of(c); e != api.OK || b == (Bounds{}) {
			t.Fatal(b, e)
		}
		parts[r.part].set(&c, r.x)
		if b, e := Of(c); e != api.ErrConfig || b != (Bounds{}) {
			t.Errorf("%s %d: %+v, %d", parts[r.part].name, r.x, b, e)
		}
		if Enough(c) {
			t.Errorf("%s %d: Enough", parts[r.part].name, r.x)
		}
	}
	if _, e := Of(api.Config{}); e != api.ErrConfig {
		t.Error("none:", e)
	}
}

// Any two parts, and any three, at all their edges together, the others good.
func TestOfSeveralAtOnce(t *testing.T) {
	var are [2]int
	count := func(c api.Config) {
		if told(t, c) {
			are[1]++
		} else {
			are[0]++
		}
	}
	for k, c := range bases {
		for i, p := range parts {
			for j, q := range parts[:i] {
				for _, x := range p.edges {
					for _, y := range q.edges {
						d := c
						p.set(&d, x)
						q.set(&d, y)
						count(d)
						for _, r := range parts[:j] {
							for _, z := range r.edges {
								if k < 2 {
									r.set(&d, z)
									count(d)
								}
							}
							r.set(&d, r.get(c))
						}
					}
				}
			}
		}
	}
	if are[0] < 20000 || are[1] < 2000 {
		t.Error("too few:", are)
	}
}

// Dmin below, just at and above Dmax, of all delays about those that may be.
func TestOfOfDelays(t *testing.T) {
	for dmin := int64(-2); dmin <= 67; dmin++ {
		for dmax := int64(-2); dmax <= 67; dmax++ {
			c := bases[1]
			c.Dmin, c.Dmax = dmin, dmax
			_, e := Of(c)
			if want := dmin >= 1 && dmin <= dmax && dmax <= 64; want != (e == api.OK) {
				t.Errorf("%d, %d: %d", dmin, dmax, e)
			}
			told(t, c)
		}
	}
}

// All drifts with all slewings about those that may be: rate's Good asks each for itself, so that no two break it only together.
func TestOfOfRates(t *testing.T) {
	for rho := int64(-2); rho <= 67; rho++ {
		for slew := int64(-2); slew <= 259; slew++ {
			c := bases[0]
			c.Rho, c.Slew = rho, slew
			_, e := Of(c)
			if want := rho >= 0 && rho <= 64 && slew >= 1 && slew <= 256; want != (e == api.OK) || want != rate.Good(rho, slew) {
				t.Errorf("%d, %d: %d", rho, slew, e)
			}
			if slew < 4 || slew > 253 || rho%16 == 0 {
				told(t, c)
			}
		}
	}
}

// Every number of nodes, and periods of all powers of 2 and about them.
func TestOfOfNodesAndPeriods(t *testing.T) {
	for _, c := range bases {
		for n := -2; n <= 67; n++ {
			d := c
			d.N = n
			told(t, d)
		}
		for k := range 63 {
			for _, by := range []int64{-1, 0, 1} {
				for _, p := range parts[5:] {
					d := c
					p.set(&d, 1<<k+by)
					told(t, d)
				}
			}
		}
	}
}

// Nothing else of a configuration plays a part, though it be wrong.
func TestNothingElse(t *testing.T) {
	next := chance(261)
	for k := range 3000 {
		c := drawn(next)
		if k%2 == 0 {
			c, _ = Suggest(calm(next))
		}
		if k%7 == 0 {
			p := parts[below(next, len(parts))]
			p.set(&c, p.edges[below(next, len(p.edges))])
		}
		d := c
		d.Links = [][][2]int{nil, {}, {{0, 1}, {1, 2}}, {{-1, 70}, {5, 5}, {5, 5}}}[k%4]
		d.F = int(wild[below(next, len(wild))])
		for _, x := range []*int{&d.Seen, &d.Hist, &d.Fly, &d.Quota, &d.Body} {
			*x = int(wild[below(next, len(wild))])
		}
		b, e := Of(c)
		if x, f := Of(d); x != b || f != e {
			t.Errorf("Of(%+v): %+v, %d; of the bare one %+v, %d", d, x, f, b, e)
		}
		if Enough(c) != Enough(d) {
			t.Errorf("Enough(%+v): %v; of the bare one %v", d, Enough(d), Enough(c))
		}
		suggests(t, d)
	}
}

// Each number by itself, of configurations that are as great and as small as may be, and by chance all over.
func TestOfByChance(t *testing.T) {
	next := chance(262)
	for range 60000 {
		c := drawn(next)
		if !told(t, c) {
			t.Errorf("drawn: %+v", c)
		}
		if t.Failed() {
			return
		}
	}
}

func TestOfOfTheEnds(t *testing.T) {
	ends := []struct{ lo, hi int64 }{{2, 64}, {1, 64}, {1, 64}, {0, 64}, {1, 256}, {1, longest}, {1, longest}, {1, longest}}
	good := 0
	for bits := range 1 << len(parts) {
		var c api.Config
		for k, p := range parts {
			p.set(&c, ends[k].lo)
			if bits>>k&1 > 0 {
				p.set(&c, ends[k].hi)
			}
		}
		if told(t, c) {
			good++
		}
	}
	if good != 192 { // in a quarter of them Dmin is above Dmax
		t.Error(good)
	}
}

// Those that may be or not, by chance.
func TestOfWrongByChance(t *testing.T) {
	next := chance(263)
	var are [2]int
	for range 60000 {
		c := drawn(next)
		for _, p := range parts {
			switch below(next, 20) {
			case 0:
				p.set(&c, p.edges[below(next, len(p.edges))])
			case 1:
				p.set(&c, wild[below(next, len(wild))])
			}
		}
		if told(t, c) {
			are[1]++
		} else {
			are[0]++
		}
	}
	if are[0] < 10000 || are[1] < 10000 {
		t.Error("too few:", are)
	}
}

// P26.2

// The chapter's cluster: what is asked is Window 21206, Round 4 times that, Attend 16912.
func TestEnoughByHand(t *testing.T) {
	for _, r := range []struct {
		round, window, attend int64
		want                  bool
	}{
		{84824, 21206, 16912, true},
		{84823, 21206, 16912, false},
		{84824, 21205, 16912, false},
		{84824, 21206, 16911, false},
		{84827, 21207, 16912, false},
		{84828, 21207, 16912, true},
		{84825, 21206, 16913, true},
		{longest, 21206, 16912, true},
		{longest, 21205, longest, false},
		{longest, longest / 4, longest, true},
		{longest, longest/4 + 1, longest, false},
		{longest - 1, longest / 4, longest, false},
		{longest + 1, 21206, 16912, false}, // what Of refuses
		{84824, 21206, longest + 1, false},
		{84824, 0, 16912, false},
		{84824, -21206, 16912, false},
		{-84824, 21206, 16912, false},
		{84824, 21206, 0, false},
	} {
		c := of(3, 1, 1, 0, 32, r.round, r.window, r.attend)
		if enough(t, c) != r.want {
			t.Errorf("%+v: %v", c, !r.want)
		}
	}
}

// What is slewed, with so little in a tick that it decides: Most is 6096388, which takes that many ticks of 1025 grains each
// where 1 is slewed, and two ticks more.
func TestEnoughOfSlewingByHand(t *testing.T) {
	for _, r := range []struct{ slew, most, ticks int64 }{
		{1, 6096388, 6096388},
		{2, 6096388, 3048194},
		{3, 6096388, 2032130}, // 2032129 ticks leave 1
		{5, 6096388, 1219278}, // and here 3
		{7, 6096388, 870913},
	} {
		c := of(64, 1, 64, 0, r.slew, 0, 1<<26, 1<<40)
		fast := 1024 + r.slew
		for by, want := range map[int64]bool{-fast: false, -1: false, 0: true, 1: true, fast - 1: true, fast: true} {
			c.Round = 2*c.Window + fast*(r.ticks+2) + by
			if b := bounds(t, c); b.Most != r.most {
				t.Fatal(b)
			}
			if enough(t, c) != want {
				t.Errorf("%+v (%d): %v", c, by, !want)
			}
		}
	}
}

// Of what Of refuses, though the periods were wide enough.
func TestEnoughOfWhatIsRefused(t *testing.T) {
	refused := 0
	for _, c := range bases[:2] {
		d, ok := Suggest(c)
		if !ok {
			t.Fatalf("%+v", c)
		}
		d.Attend = longest
		for _, p := range parts {
			for _, x := range append(slices.Clone(wild), p.edges...) {
				w := d
				p.set(&w, x)
				enough(t, w)
				if !plainGood(w) {
					refused++
				}
			}
		}
	}
	if refused < 300 {
		t.Error("too few:", refused)
	}
}

// narrowest is the least number from lo to hi for which it holds, if it does for hi, and for all from some number on.
func narrowest(lo, hi int64, holds func(x int64) bool) int64 {
	for lo < hi {
		if mid := lo + (hi-lo)/2; holds(mid) {
			hi = mid
		} else {
			lo = mid + 1
		}
	}
	return hi
}

// just is a configuration whose periods are just enough, made of one where they are: Window is the least one that goes with its
// Round, then Round the least one that goes with this Window, then Attend what these ask for.
func just(c api.Config) api.Config {
	holds := func(p part) func(x int64) bool {
		return func(x int64) bool {
			d := c
			p.set(&d, x)
			a := plainAsks(d)
			return a.window && a.round && a.slewed
		}
	}
	c.Window = narrowest(1, c.Window, holds(parts[6]))
	c.Round = narrowest(4*c.Window, c.Round, holds(parts[5]))
	c.Attend = twice(plainOf(c).delta).Int64()
	return c
}

// found draws configurations of which Suggest finds periods.
func found(t *testing.T, next func() uint64) api.Config {
	t.Helper()
	for range 1000 {
		if c, ok := Suggest(calm(next)); ok {
			return c
		}
	}
	t.Fatal("none is found")
	return api.Config{}
}

// Each of the four askings, one at a time just below, just at and just above what is asked.
func TestEnoughAtTheEdges(t *testing.T) {
	next := chance(264)
	var alone [4]int // how often an asking was the only one that is not met
	for range 1500 {
		c := just(found(t, next))
		if !enough(t, c) {
			t.Errorf("just: %+v", c)
		}
		for _, p := range parts[5:] {
			for _, by := range []int64{-1057, -3, -2, -1, 0, 1, 2, 3, 1057} {
				d := c
				p.set(&d, p.get(c)+by)
				if enough(t, d) || !plainGood(d) {
					continue
				}
				switch plainAsks(d) {
				case asks{false, true, true, true}:
					alone[0]++
				case asks{true, false, true, true}:
					alone[1]++
				case asks{true, true, false, true}:
					alone[2]++
				case asks{true, true, true, false}:
					alone[3]++
				}
			}
		}
		if t.Failed() {
			return
		}
	}
	for k, n := range alone {
		if n < 300 {
			t.Error("too few:", k, alone)
		}
	}
}

// Where clocks do not drift nothing that is asked hangs on the periods, so that each is brought to its edge by itself.
func TestEnoughOfClocksThatDoNotDrift(t *testing.T) {
	next := chance(265)
	for range 3000 {
		c := drawn(next)
		c.Rho = 0
		c.Round = longest
		n := plainOf(c)
		c.Window, c.Attend = plainWindow(n).Int64(), twice(n.delta).Int64()
		ticks := sum(down(sum(n.most, num(c.Slew-1)), num(c.Slew)), num(2)).Int64() // rounded up, and two
		round := max(4*c.Window, 2*c.Window+ticks*n.fast.Int64())
		for _, by := range []int64{-1, 0, 1} {
			for _, p := range parts[5:] {
				d := c
				d.Round = round
				p.set(&d, p.get(d)+by)
				want := by >= 0
				if p.name == "Window" && by > 0 && d.Round < max(4*d.Window, 2*d.Window+ticks*n.fast.Int64()) {
					want = false // a wider window wants a longer round
				}
				if enough(t, d) != want {
					t.Fatalf("%s %+d: %+v: %v", p.name, by, d, !want)
				}
			}
		}
	}
}

func TestEnoughByChance(t *testing.T) {
	next := chance(266)
	var are [2]int
	for range 30000 {
		c := calm(next)
		c.Round = from(next, 1<<16, 1<<(17+below(next, 24)))
		c.Window = from(next, max(c.Round/8, 1), c.Round/4+1)
		c.Attend = twice(plainOf(of(c.N, c.Dmin, c.Dmax, c.Rho, c.Slew, c.Round, c.Window, 1)).delta).Int64() + from(next, -1, 1)
		if below(next, 8) == 0 {
			p := parts[below(next, len(parts))]
			p.set(&c, p.edges[below(next, len(p.edges))])
		}
		if enough(t, c) {
			are[1]++
		} else {
			are[0]++
		}
	}
	if are[0] < 3000 || are[1] < 3000 {
		t.Error("too few:", are)
	}
}

// Where the round is shorter than its windows there is nothing in between, and less than nothing.
func TestEnoughOfShortRounds(t *testing.T) {
	for _, c := range bases {
		for _, window := range []int64{1, 1000, 1 << 20, longest} {
			for _, round := range []int64{1, window / 2, window - 1, window, 2*window - 1, 2 * window, 2*window + 1, 4*window - 1, 4 * window} {
				c.Round, c.Window, c.Attend = max(round, 1), window, longest
				enough(t, c)
			}
		}
	}
}

// P26.3

// Which power of 2 the Round is. None is found below 2^17, for a window is to be wider than 19 Fast (12 in 2 Rough, 2 in Eps, one
// of a link, 4 more), nor any above 2^38: there all that may be found was found before, or Attend would be too great.
func TestSuggestByHand(t *testing.T) {
	for _, r := range []struct {
		n                     int
		dmin, dmax, rho, slew int64
		power                 int
		attend                int64
	}{
		{3, 1, 1, 0, 32, 17, 16912}, // the chapter's
		{2, 1, 1, 0, 1, 17, 10258},
		{2, 1, 1, 0, 256, 17, 12808},
		{14, 1, 1, 0, 30, 17, 86532},
		{46, 1, 1, 0, 15, 18, 285046},
		{2, 1, 1, 1, 15, 18, 16704},
		{2, 1, 1, 1, 14, -1, 0}, // slewed by less than clocks part
		{2, 1, 1, 3, 47, 19, 49652},
		{2, 1, 1, 3, 46, -1, 0},
		{4, 1, 2, 1, 32, 20, 142948},
		{8, 1, 4, 1, 64, 21, 1067208},
		{2, 1, 1, 4, 64, 24, 1695824},
		{2, 1, 1, 4, 63, -1, 0},
		{2, 1, 1, 4, 91, 27, 13880990},
		{2, 1, 1, 4, 92, -1, 0}, // the window grows less than what it is asked for
		{2, 1, 1, 5, 80, -1, 0},
		{64, 64, 64, 3, 59, 26, 331568304},
		{64, 1, 64, 0, 256, 28, 1034842616},
		{64, 1, 64, 0, 1, 34, 1032721016},
		{63, 64, 64, 4, 91, 35, 220156078516},
		{63, 58, 64, 4, 64, 36, 427954728096},
		{39, 1, 64, 4, 64, 38, 1049287555616},
		{40, 1, 64, 4, 64, 38, 1076910529656},
		{41, 1, 64, 4, 64, -1, 0}, // with so many nodes Attend would be too great
		{40, 29, 64, 4, 64, 38, 1076736089208},
		{41, 29, 64, 4, 64, -1, 0},
		{64, 1, 64, 64, 256, -1, 0},
	} {
		c := of(r.n, r.dmin, r.dmax, r.rho, r.slew, 0, 0, 0)
		d, ok := Suggest(c)
		want := c
		if r.power >= 0 {
			want = of(r.n, r.dmin, r.dmax, r.rho, r.slew, 1<<r.power, 1<<r.power/4, r.attend)
		}
		if ok != (r.power >= 0) || !same(d, want) {
			t.Errorf("Suggest(%+v): %+v, %v; wanted %+v", c, d, ok, want)
		}
		if k := suggests(t, c); k != r.power {
			t.Errorf("plainSuggest(%+v): %d; wanted %d", c, k, r.power)
		}
	}
}

// Where 2^38 is found, what keeps all smaller ones from it is what is slewed; where nothing is, at the greatest round Attend alone.
func TestSuggestOfTheGreatestRounds(t *testing.T) {
	c := of(40, 1, 64, 4, 64, 0, 0, 0)
	for k := 12; k < 38; k++ {
		if d, ok := plainSuited(c, 1<<k); ok || Enough(d) {
			t.Errorf("2^%d: %+v", k, d)
		}
	}
	if d, _ := plainSuited(c, 1<<37); plainAsks(d) != (asks{true, true, false, true}) {
		t.Error(plainAsks(d))
	}
	c.N = 41
	d, ok := plainSuited(c, 1<<38)
	if ok || d.Attend <= longest || plainAsks(d) != (asks{true, true, true, true}) || Enough(d) {
		t.Errorf("%+v: %v", d, plainAsks(d))
	}
}

// It is Enough, and the least such Round; Window is a quarter of it, Attend 2 Delta, and all else as it was.
func TestSuggestsAreEnough(t *testing.T) {
	next := chance(267)
	powers := map[int]int{}
	for range 3000 {
		c := calm(next)
		if below(next, 4) == 0 {
			c.Rho = 4
		}
		c.Links, c.F = [][2]int{{0, 1}, {below(next, 9), 2}}, below(next, 4)
		c.Seen, c.Hist, c.Fly, c.Quota, c.Body = below(next, 9), below(next, 9), below(next, 9), below(next, 9), below(next, 9)
		k := suggests(t, c)
		powers[k]++
		d, ok := Suggest(c)
		if !ok {
			continue
		}
		b := bounds(t, d)
		if !Enough(d) || !plainEnough(d) || d.Round != 1<<k || d.Window*4 != d.Round || d.Attend != 2*b.Delta {
			t.Errorf("Suggest(%+v): %+v", c, d)
		}
		for j := 12; j < k; j++ {
			if w, _ := plainSuited(c, 1<<j); plainEnough(w) || Enough(w) {
				t.Errorf("Suggest(%+v): %+v, but %+v is enough", c, d, w)
			}
		}
		d.Round, d.Window, d.Attend = c.Round, c.Window, c.Attend
		if !same(c, d) {
			t.Errorf("Suggest(%+v) but for its periods: %+v", c, d)
		}
	}
	if powers[-1] < 20 || len(powers) < 10 {
		t.Error("too few:", powers)
	}
}

// Whatever periods come in play no part, though they be wrong.
func TestSuggestWhateverPeriods(t *testing.T) {
	next := chance(268)
	for range 200 {
		c := calm(next)
		want, is := Suggest(c)
		for _, p := range parts[5:] {
			for _, x := range append(slices.Clone(wild), p.edges...) {
				d := c
				p.set(&d, x)
				got, ok := Suggest(d)
				if is && !same(got, want) || !is && !same(got, d) || ok != is {
					t.Fatalf("Suggest(%+v): %+v, %v; wanted %+v, %v", d, got, ok, want, is)
				}
			}
		}
		for range 20 {
			d := c
			for _, p := range parts[5:] {
				p.set(&d, p.edges[below(next, len(p.edges))])
			}
			suggests(t, d)
		}
	}
}

// Those that Of refuses for another reason come back as they are.
func TestSuggestOfWhatIsRefused(t *testing.T) {
	for _, c := range bases[:3] {
		c.Links, c.Quota = [][2]int{{0, 1}}, 3
		for _, p := range parts[:5] {
			for _, x := range append(slices.Clone(wild), p.edges...) {
				d := c
				p.set(&d, x)
				if k := suggests(t, d); k >= 0 {
					continue
				}
				if got, ok := Suggest(d); ok || !same(got, d) {
					t.Errorf("Suggest(%+v): %+v, %v", d, got, ok)
				}
			}
		}
	}
	if d, ok := Suggest(api.Config{}); ok || !same(d, api.Config{}) {
		t.Errorf("none: %+v, %v", d, ok)
	}
}

func TestSuggestByChance(t *testing.T) {
	next := chance(269)
	var are [2]int
	for k := range 4000 {
		c := drawn(next)
		if k%2 == 0 {
			c.Rho = from(next, 0, 6)
		}
		if k%5 == 0 {
			p := parts[below(next, len(parts))]
			p.set(&c, p.edges[below(next, len(p.edges))])
		}
		are[min(1, suggests(t, c)+1)]++
		if t.Failed() {
			return
		}
	}
	if are[0] < 500 || are[1] < 500 {
		t.Error("too few:", are)
	}
}

// What is told shares no links with what came in, whether something is found or not, and c itself stays.
func TestSuggestSharesNothing(t *testing.T) {
	for _, rho := range []int64{0, 64} {
		c := of(3, 1, 1, rho, 32, 7, 8, 9)
		c.Links = append(make([][2]int, 0, 9), [2]int{0, 1}, [2]int{1, 2})
		d, ok := Suggest(c)
		if ok != (rho == 0) || len(d.Links) != 2 || d.Links[0] != [2]int{0, 1} || d.Links[1] != [2]int{1, 2} {
			t.Fatalf("%+v, %v", d, ok)
		}
		if c.Round != 7 || c.Window != 8 || c.Attend != 9 || len(c.Links) != 2 {
			t.Errorf("%+v", c)
		}
		c.Links[0][0] = 40
		if d.Links[0] != [2]int{0, 1} {
			t.Error("it has what came in:", d.Links)
		}
		d.Links[1][1] = 41
		d.Links = append(d.Links, [2]int{42, 43})
		if c.Links[1] != [2]int{1, 2} || c.Links[:3][2] != [2]int{} {
			t.Error("what came in has it:", c.Links[:3])
		}
		for _, none := range [][][2]int{nil, {}} {
			c.Links = none
			if d, _ := Suggest(c); len(d.Links) != 0 {
				t.Error(d.Links)
			}
		}
	}
}

// P26.4

func TestLateByHand(t *testing.T) {
	chapter := bounds(t, of(3, 1, 1, 0, 32, 131072, 32768, 65536))
	thirty := Bounds{Hops: 2, Link: 100, Fast: 10} // of chapter 30's example
	for _, r := range []struct {
		b    Bounds
		h    int
		tol  int64
		want int64
	}{
		{chapter, 0, 0, 1056},
		{chapter, 0, 2116, 1056},
		{chapter, 1, 0, 2112},
		{chapter, 1, 2116, 4228},
		{chapter, 2, 2116, 7400},
		{chapter, 2, 1, 3170},
		{chapter, 3, 2116, 0},
		{chapter, -1, 2116, 0},
		{chapter, 1, -1, 0},
		{chapter, 0, -1, 0},
		{chapter, 2, widest, 2*widest + 3168},
		{chapter, 2, widest + 1, 0},
		{chapter, 0, widest, 1056},
		{chapter, 0, widest + 1, 0},
		{chapter, 1, least, 0},
		{chapter, 1, greatest, 0},
		{chapter, math.MinInt, 5, 0},
		{chapter, math.MaxInt, 5, 0},
		{thirty, 1, 5, 115},
		{thirty, 2, 5, 220},
		{thirty, 3, 5, 0},
		{Bounds{}, 0, 0, 0},
		{Bounds{}, 0, widest, 0},
		{Bounds{}, 1, 5, 0},
		{Bounds{Hops: 63}, 63, widest, end - 1}, // 2^60 leaves 1
		{Bounds{Hops: 63}, 63, widest + 1, 0},
	} {
		if got := Late(r.b, r.h, r.tol); got != r.want {
			t.Errorf("Late(%+v, %d, %d): %d; wanted %d", r.b, r.h, r.tol, got, r.want)
		}
		lates(t, r.b, r.h, r.tol)
	}
	if widest != 18300341342965825 {
		t.Error(int64(widest))
	}
}

// tols are the edges of how wrong a clock may be.
var tols = []int64{least, -1, 0, 1, 2, 5000, widest - 1, widest, widest + 1, end, greatest}

// Of the numbers of small and great configurations, and of none.
func TestLateAtTheEdges(t *testing.T) {
	all := []Bounds{{}, {Hops: 1}, {Link: 7}, {Fast: 7}}
	for _, c := range bases {
		all = append(all, bounds(t, c))
	}
	for _, b := range all {
		for _, h := range []int{math.MinInt, -1, 0, 1, b.Hops - 1, b.Hops, b.Hops + 1, 62, 63, 64, math.MaxInt} {
			for _, tol := range append([]int64{b.Eps, b.Rough, b.Eps - 1}, tols...) {
				x := lates(t, b, h, tol)
				if h < 0 || h > b.Hops || tol < 0 || tol > widest {
					if x != 0 {
						t.Errorf("Late(%+v, %d, %d): %d", b, h, tol, x)
					}
				} else if x != int64(h)*b.Link+int64(h)*tol+b.Fast {
					t.Errorf("Late(%+v, %d, %d): %d", b, h, tol, x)
				}
			}
		}
	}
}

// It hangs on Hops, Link and Fast alone.
func TestLateOfOtherNumbers(t *testing.T) {
	b := Bounds{Hops: 5, Link: 100, Fast: 10}
	c := Bounds{5, 10, 1, 100, 2, 3, 4, 5, 6, 7, 8, 9, 11, 12}
	d := Bounds{5, 10, least, 100, greatest, least, greatest, least, greatest, least, greatest, least, greatest, least}
	for h := -1; h < 8; h++ {
		for _, tol := range tols {
			if x := Late(b, h, tol); Late(c, h, tol) != x || Late(d, h, tol) != x {
				t.Error(h, tol)
			}
		}
	}
}

// Of numbers that no configuration has: nothing goes round.
func TestLateOfAnyNumbers(t *testing.T) {
	var beyond [2]int
	hs := []int{least, -1, 0, 1, 2, 3, 63, 64, 1 << 31, 1<<32 + 1, 1 << 62, greatest - 1, greatest}
	for _, hops := range hs {
		for _, h := range hs {
			for _, link := range wild {
				for _, fast := range []int64{least, least + 1, -1025, -1, 0, 1, 1025, 1 << 62, greatest - 1, greatest} {
					for _, tol := range []int64{-1, 0, 1, 1025, widest, widest + 1} {
						switch lates(t, Bounds{Hops: hops, Link: link, Fast: fast}, h, tol) {
						case least:
							beyond[0]++
						case greatest:
							beyond[1]++
						}
					}
				}
			}
		}
		if t.Failed() {
			return
		}
	}
	if beyond[0] < 1000 || beyond[1] < 1000 {
		t.Error("too few:", beyond)
	}
	// What goes beyond an end and comes back is as it is.
	if x := Late(Bounds{Hops: 2, Link: greatest, Fast: least}, 1, 1); x != 0 {
		t.Error(x)
	}
	if x := Late(Bounds{Hops: 2, Link: 1 << 62, Fast: -1}, 2, 0); x != greatest {
		t.Error(x)
	}
	if x := Late(Bounds{Hops: 2, Link: -1 << 62, Fast: 0}, 2, 0); x != least {
		t.Error(x)
	}
	if x := Late(Bounds{Hops: 2, Link: -1 << 62, Fast: -1}, 2, 0); x != least {
		t.Error(x)
	}
}

func TestLateByChance(t *testing.T) {
	next := chance(270)
	for range 60000 {
		b := Bounds{Hops: below(next, 65), Link: int64(next()) >> below(next, 56), Fast: int64(next()) >> below(next, 56)}
		if below(next, 2) == 0 {
			b, _ = Of(drawn(next))
		}
		lates(t, b, below(next, b.Hops+3)-1, from(next, -1, widest+1)>>below(next, 60))
	}
}

// P26.5

// enoughs are configurations that are just Enough, far more than Enough, that Suggest has found, and any that are.
func enoughs(t *testing.T, next func() uint64, k int) api.Config {
	t.Helper()
	c := found(t, next)
	switch k % 4 {
	case 0:
		c = just(c)
	case 1:
		for range 8 {
			if d, ok := plainSuited(c, 2*c.Round); ok {
				c = d
			}
		}
		c.Attend = from(next, c.Attend, longest)
	case 2:
		d := just(c)
		c.Round = from(next, c.Round, 2*c.Round)
		c.Window = from(next, (d.Window+c.Window)/2, c.Window)
		c.Attend = max(2*bounds(t, c).Delta, 1)
		if !plainEnough(c) {
			c = d
		}
	}
	if !Enough(c) {
		t.Fatalf("not enough: %+v", c)
	}
	return c
}

// What is slewed from a round's last beacon that may still come to the next round's first one is Most at least; a window is
// open long enough for all beacons, by a rough clock, too; and who is not later than Late of Eps is there ahead of Delta.
func TestEnoughIsEnough(t *testing.T) {
	next := chance(271)
	for k := range 4000 {
		c := enoughs(t, next, k)
		b := bounds(t, c)

		// Closed in the first tick that is not below the window's end, the clock tells up to Fast more than that. The first
		// beacon of the next round comes when it tells Eps less than its beginning, or Rough less, if it was guessed.
		for _, early := range []int64{b.Eps, b.Rough} {
			ticks := (c.Round - early - (c.Window + b.Fast)) / b.Fast
			if ticks*c.Slew < b.Most {
				t.Errorf("%+v: slewed %d of %d", c, ticks*c.Slew, b.Most)
			}
		}

		// The last beacon is sent by a clock that is behind by Eps, up to Fast later than due, and is under way over all
		// links; one that is behind by Rough is so late by a rough clock, whose window is longer by that.
		last := b.Eps + b.Fast + int64(b.Hops)*b.Link
		rough := b.Rough + b.Fast + int64(b.Hops)*b.Link
		if c.Window <= last || c.Window+b.Rough <= rough {
			t.Errorf("%+v: the last beacons come at %d, %d", c, last, rough)
		}

		late := int64(0)
		for h := 0; h <= b.Hops; h++ {
			x := Late(b, h, b.Eps)
			if x <= late || x >= b.Delta {
				t.Errorf("%+v: Late over %d links %d, over one less %d; Delta %d", c, h, x, late, b.Delta)
			}
			late = x
		}
		if late+b.Fast != b.Delta || b.Delta >= c.Attend {
			t.Errorf("%+v: Late %d, Delta %d", c, late, b.Delta)
		}
		if t.Failed() {
			return
		}
	}
}

// drive goes on by a tick, by a drift that is as bad as may be, one way, the other way, or any.
func drive(next func() uint64, hard *rate.Hard, rho int64, lean int) int64 {
	switch lean {
	case 0:
		hard.Drift(-rho)
	case 1:
		hard.Drift(rho)
	default:
		hard.Drift(from(next, -rho, rho))
	}
	return hard.Tick()
}

// The same by clocks, tick by tick: one that closes its round, and is to be corrected by Most, has nothing left of that
// when it tells a window less than the next round's beginning.
func TestCorrectionsAreMade(t *testing.T) {
	next := chance(272)
	plays, waited := 0, 0
	for k := 0; plays < 300; k++ {
		c := enoughs(t, next, k)
		if c.Round > 1<<22 {
			continue
		}
		plays++
		b := bounds(t, c)
		begins := c.Round * int64(1+below(next, 1000))
		hard, own := rate.New(0), clock.New(c.Slew)
		own.Boot(begins + c.Window + from(next, 0, b.Fast-1))
		own.Correct([]int64{b.Most, -b.Most, from(next, -b.Most, b.Most)}[k%3])
		lean := below(next, 3)
		for {
			if x, _ := own.Now(); x >= begins+c.Round-c.Window {
				break
			}
			if own.Left() != 0 {
				waited++
			}
			own.Tick(drive(next, hard, c.Rho, lean))
		}
		if own.Left() != 0 {
			t.Fatalf("%+v: %d is left", c, own.Left())
		}
	}
	if waited < 1000 {
		t.Error("too few:", waited)
	}
}

// pass goes over links by a clock that is slewed ahead all the way, and tells what it tells behind them.
func pass(next func() uint64, c api.Config, links int, at int64) int64 {
	hard, own := rate.New(0), clock.New(c.Slew)
	own.Boot(at)
	own.Correct(longest)
	lean, slow := below(next, 3), below(next, 2) == 0
	for range links {
		ticks := from(next, c.Dmin, c.Dmax)
		if slow {
			ticks = c.Dmax
		}
		for range ticks {
			own.Tick(drive(next, hard, c.Rho, lean))
		}
	}
	now, _ := own.Now()
	return now
}

// By a clock that is Eps away at most as a beacon is sent: it comes while the window is open, not later than Late of Eps, and
// ahead of Delta. It is sent in the first tick that is not below the time when it is due.
func TestMessagesComeInTime(t *testing.T) {
	next := chance(273)
	far := 0
	for k := range 1500 {
		c := enoughs(t, next, k)
		b := bounds(t, c)
		h := int(from(next, 1, int64(b.Hops)))
		due := c.Round * int64(1+below(next, 1000))
		sent := due + from(next, 0, b.Fast-1)
		now := pass(next, c, h, sent+from(next, -b.Eps, b.Eps))
		if now >= due+c.Window {
			t.Fatalf("%+v: over %d links, %d behind the round's beginning", c, h, now-due)
		}
		if now-sent > Late(b, h, b.Eps) || now-sent >= b.Delta {
			t.Fatalf("%+v: over %d links, %d behind its timestamp", c, h, now-sent)
		}
		if now-sent == int64(h)*b.Link+b.Eps {
			far++
		}
	}
	if far < 20 {
		t.Error("too few:", far)
	}
}

// The readings of the chapter that all is held against, by hand.
func TestPlain(t *testing.T) {
	if down(num(7), num(2)).Int64() != 3 || down(num(-7), num(2)).Int64() != -4 || down(num(-8), num(2)).Int64() != -4 {
		t.Error("down")
	}
	n := plainOf(of(3, 1, 1, 0, 32, 5000, 600, 70))
	for k, want := range []int64{2, 1056, 992, 1056, 0, 2, 2, 2116, 4, 33, 6377, 8456, 2 + 21214/992, 10 + 2 + 11200/992 + 2 + 21284/992} {
		if n.table()[k].Cmp(num(want)) != 0 {
			t.Error(names[k], n.table()[k], want)
		}
	}
	c := of(3, 1, 1, 0, 32, 84824, 21206, 16912)
	if !plainGood(c) || plainAsks(c) != (asks{true, true, true, true}) || plainWindow(plainOf(c)).Int64() != 21206 ||
		plainSlewed(c, plainOf(c)).Int64() != 32*38 {
		t.Error("plainAsks")
	}
	c.Round = 2 * c.Window
	if plainAsks(c) != (asks{true, false, false, true}) || plainSlewed(c, plainOf(c)).Int64() != -64 {
		t.Error("plainAsks of a short round")
	}
	c.Round--
	if plainSlewed(c, plainOf(c)).Int64() != -96 {
		t.Error("plainSlewed below 0")
	}
	if plainLate(Bounds{Hops: 2, Link: 100, Fast: 10}, 2, 5) != 220 || plainLate(Bounds{Hops: 2, Link: 100, Fast: 10}, 3, 5) != 0 ||
		plainLate(Bounds{Hops: 1}, 1, widest) != widest || plainLate(Bounds{Hops: 1}, 1, widest+1) != 0 {
		t.Error("plainLate")
	}
	if !same(bases[0], bases[0]) || same(bases[0], bases[1]) || same(api.Config{Links: [][2]int{{0, 1}}}, api.Config{}) {
		t.Error("same")
	}
}
