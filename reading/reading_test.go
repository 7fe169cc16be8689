package reading

import (
	"math"
	"math/big"
	"testing"

	"angelus/api"
	"angelus/clock"
	"angelus/hops"
	"angelus/rate"
)

const (
	least    = math.MinInt64
	greatest = math.MaxInt64
	end      = 1 << 60 // the end of time
	farthest = 4128768 // the middle of 63 links of 64 ticks each, in grains
)

// times, links, delays, drifts and slews are the edges of what may be, good and wrong.
var (
	times  = []int64{least, -1, 0, 1, end - 1, end, end + 1, greatest}
	links  = []int{math.MinInt, -1, 0, 1, 62, 63, 64, math.MaxInt}
	delays = []int64{least, -1, 0, 1, 63, 64, 65, greatest}
	drifts = []int64{least, -1, 0, 1, 63, 64, 65, greatest}
	slews  = []int64{least, -1, 0, 1, 255, 256, 257, greatest}
)

// wild are numbers all over int64. Sums, differences and products of some of them go round to small ones, and some would
// be good if only their lower bits were taken or their sign lost.
var wild = []int64{
	least, least + 1, least + 64, least + 1024, least + end, least + end + 1, -1 << 62, -end - 1, -end, -end + 1, -1 << 54, -1 << 53,
	-1<<32 - 1, -1 << 32, -1<<32 + 1, math.MinInt32, -1 << 16, -1025, -1024, -1023, -512, -257, -256, -255, -65, -64, -63, -3, -2, -1,
	0, 1, 2, 3, 31, 62, 63, 64, 65, 66, 127, 128, 255, 256, 257, 258, 511, 512, 513, 1023, 1024, 1025, 5000, 1 << 16,
	math.MaxInt32, 1 << 31, 1<<32 - 1, 1 << 32, 1<<32 + 1, 1<<32 + 64, 1<<32 + 256, 1 << 53, 1 << 54, 1 << 55, 1 << 59, 1<<59 + 1,
	end - farthest, end - 1025, end - 2, end - 1, end, end + 1, end + 2, 2*end - 1, 2 * end, 1 << 62, 1<<62 + 1,
	greatest - end, greatest - 1024, greatest - 64, greatest - 1, greatest,
}

// chance answers numbers of no rule, the same ones each time.
func chance(x uint64) func() uint64 {
	return func() uint64 {
		x ^= x << 13
		x ^= x >> 7
		x ^= x << 17
		return x >> 8
	}
}

// below draws a number from 0 on below n.
func below(next func() uint64, n int) int { return int(next() % uint64(n)) }

// from draws a number from one to another one, both ends often.
func from(next func() uint64, lo, hi int64) int64 {
	switch below(next, 6) {
	case 0:
		return lo
	case 1:
		return hi
	}
	return lo + int64(next()%uint64(hi-lo+1))
}

// whole draws a number out of the whole of int64, most of them by few bits.
func whole(next func() uint64) int64 {
	switch below(next, 4) {
	case 0:
		return wild[below(next, len(wild))]
	case 1:
		return wild[below(next, len(wild))] + int64(below(next, 5)) - 2 // it may go round: that is a number, too
	}
	return int64(next()<<8^next()) >> below(next, 64)
}

// The chapter, and what chapters 19 and 20 say of Good, Mid and Err, read plainly, by whole numbers without ends.

func big64(x int64) *big.Int { return big.NewInt(x) }

func sum(l ...*big.Int) *big.Int {
	s := new(big.Int)
	for _, x := range l {
		s.Add(s, x)
	}
	return s
}

func less(x, y *big.Int) *big.Int { return new(big.Int).Sub(x, y) }

func product(l ...*big.Int) *big.Int {
	p := big64(1)
	for _, x := range l {
		p.Mul(p, x)
	}
	return p
}

// half is rounded down, also below 0.
func half(x *big.Int) *big.Int { return new(big.Int).Div(x, big64(2)) }

// in is whether a whole number is from one to another one.
func in(x *big.Int, lo, hi int64) bool { return x.Cmp(big64(lo)) >= 0 && x.Cmp(big64(hi)) <= 0 }

func plainTime(x int64) bool { return in(big64(x), 0, end) }

func plainHops(h int64, dmin, dmax int64) bool {
	return in(big64(h), 0, 63) && in(big64(dmin), 0, dmax) && in(big64(dmax), dmin, 64)
}

func plainRate(rho, slew int64) bool { return in(big64(rho), 0, 64) && in(big64(slew), 1, 256) }

func plainEstimate(value, sent, now int64) (int64, bool) {
	if !plainTime(value) || !plainTime(sent) || !plainTime(now) || big64(now).Cmp(big64(sent)) < 0 {
		return 0, false
	}
	x := sum(big64(value), half(less(big64(now), big64(sent))))
	if !in(x, least, end) {
		return 0, false
	}
	return x.Int64(), true
}

func plainDiff(value int64, h int, dmin, dmax, at int64) (int64, bool) {
	if !plainTime(value) || !plainTime(at) || !plainHops(int64(h), dmin, dmax) {
		return 0, false
	}
	mid := product(big64(int64(h)), sum(big64(dmin), big64(dmax)), big64(512))
	return less(sum(big64(value), mid), big64(at)).Int64(), true
}

func plainErr(dmin, dmax, rho, slew int64) (int64, bool) {
	if !plainHops(1, dmin, dmax) || !plainRate(rho, slew) {
		return 0, false
	}
	ways := product(less(big64(dmax), big64(dmin)), big64(512))
	clocks := product(sum(product(big64(2), big64(rho)), big64(slew)), big64(dmax))
	return sum(ways, clocks, big64(1)).Int64(), true
}

// plainHopsErr is by how much Diff is wrong at most, of numbers that are good.
func plainHopsErr(h int, dmin, dmax, rho int64) int64 {
	return int64(h) * ((dmax-dmin)*512 + rho*dmax)
}

// estimates, diffs and errs hold a call against what is wanted.

func estimates(t *testing.T, value, sent, now, want int64, is bool) {
	t.Helper()
	if got, ok := Estimate(value, sent, now); got != want || ok != is {
		t.Errorf("Estimate(%d, %d, %d): %d, %v; wanted %d, %v", value, sent, now, got, ok, want, is)
	}
}

func diffs(t *testing.T, value int64, h int, dmin, dmax, at, want int64, is bool) {
	t.Helper()
	if got, ok := Diff(value, h, dmin, dmax, at); got != want || ok != is {
		t.Errorf("Diff(%d, %d, %d, %d, %d): %d, %v; wanted %d, %v", value, h, dmin, dmax, at, got, ok, want, is)
	}
}

func errs(t *testing.T, dmin, dmax, rho, slew, want int64, is bool) {
	t.Helper()
	if got, ok := Err(dmin, dmax, rho, slew); got != want || ok != is {
		t.Errorf("Err(%d, %d, %d, %d): %d, %v; wanted %d, %v", dmin, dmax, rho, slew, got, ok, want, is)
	}
}

// estimated, differs and erred hold a call against the chapter read plainly, and tell what that says.

func estimated(t *testing.T, value, sent, now int64) (int64, bool) {
	t.Helper()
	want, is := plainEstimate(value, sent, now)
	estimates(t, value, sent, now, want, is)
	return want, is
}

func differs(t *testing.T, value int64, h int, dmin, dmax, at int64) (int64, bool) {
	t.Helper()
	want, is := plainDiff(value, h, dmin, dmax, at)
	diffs(t, value, h, dmin, dmax, at, want, is)
	return want, is
}

func erred(t *testing.T, dmin, dmax, rho, slew int64) (int64, bool) {
	t.Helper()
	want, is := plainErr(dmin, dmax, rho, slew)
	errs(t, dmin, dmax, rho, slew, want, is)
	return want, is
}

// The chapter's examples.
func TestExample(t *testing.T) {
	estimates(t, 5000, 1000, 3048, 6024, true)
	diffs(t, 5000, 1, 1, 1, 6100, -76, true)
	errs(t, 1, 2, 1, 32, 581, true)
}

// The limits are those that the chapter names.
func TestLimits(t *testing.T) {
	if api.Grain != 1024 || api.MaxTime != end || api.MaxHops != 63 || api.MaxDelay != 64 || api.MaxDrift != 64 || api.MaxSlew != 256 {
		t.Error(api.Grain, int64(api.MaxTime), api.MaxHops, api.MaxDelay, api.MaxDrift, api.MaxSlew)
	}
}

// P23.1

func TestEstimateByHand(t *testing.T) {
	for _, r := range []struct {
		value, sent, now, want int64
		is                     bool
	}{
		{0, 0, 0, 0, true},
		{10, 5, 8, 11, true},
		{7, 5, 5, 7, true},
		{7, 5, 6, 7, true},
		{7, 5, 7, 8, true},
		{7, 5, 4, 0, false}, // back
		{7, 5, 3, 0, false},
		{7, 1, 0, 0, false},
		{100000, 0, 2048, 101024, true},
		{0, 100000, 102049, 1024, true}, // what is told hangs on what went by, not on when
		{0, 0, end, end / 2, true},
		{end / 2, 0, end, end, true},
		{end/2 + 1, 0, end, 0, false},
		{end / 2, 1, end, end - 1, true},
		{end/2 + 1, 1, end, end, true},
		{end/2 + 1, 2, end, end, true},
		{end, 0, 0, end, true},
		{end, 9, 10, end, true},
		{end, 9, 11, 0, false},
		{end, end, end, end, true},
		{end, end - 1, end, end, true},
		{end, end - 2, end, 0, false},
		{end, 0, end, 0, false},
		{end, end, end - 1, 0, false},
		{0, end, end, 0, true},
		{0, end, 0, 0, false},
		{end + 1, 5, 5, 0, false}, // one that is wrong, the others good
		{-1, 5, 5, 0, false},
		{-1, 5, 7, 0, false}, // though half of what went by would make it good
		{-1, 0, end, 0, false},
		{5, -1, 5, 0, false},
		{5, -1, -1, 0, false},
		{5, -3, -1, 0, false},
		{5, 5, end + 1, 0, false},
		{5, end + 1, end + 1, 0, false},
		{5, end, end + 1, 0, false},
		{least, 5, 9, 0, false},
		{greatest, 5, 9, 0, false},
		{5, least, 9, 0, false},
		{5, greatest, 9, 0, false},
		{5, 9, least, 0, false},
		{5, 9, greatest, 0, false},
		{5, least, greatest, 0, false}, // what went by is no int64
		{5, greatest, least, 0, false},
		{5, least, least, 0, false},
		{5, greatest, greatest, 0, false},
		{least, least, least, 0, false},
		{greatest, greatest, greatest, 0, false},
		{greatest, 0, end, 0, false}, // the sum is no int64
	} {
		estimates(t, r.value, r.sent, r.now, r.want, r.is)
	}
}

// Each of the three at all edges, with the others good and not.
func TestEstimateAtTheEdges(t *testing.T) {
	good := 0
	for _, value := range append(times, 5, end/2, end-5) {
		for _, sent := range append(times, 5, end/2, end-5) {
			for _, now := range append(times, 5, end/2, end-5) {
				if _, is := estimated(t, value, sent, now); is {
					good++
				}
			}
		}
	}
	if good == 0 {
		t.Error("none of them was good")
	}
	for _, x := range times {
		if x >= 0 && x <= end {
			continue
		}
		for _, a := range append(times, 2, 3, 1000, 2000) {
			for _, b := range append(times, 2, 3, 1000, 2000) {
				estimates(t, x, a, b, 0, false)
				estimates(t, a, x, b, 0, false)
				estimates(t, a, b, x, 0, false)
			}
		}
	}
}

func TestEstimateAllOver(t *testing.T) {
	for _, value := range wild {
		for _, sent := range wild {
			for _, now := range wild {
				estimated(t, value, sent, now)
			}
		}
	}
}

// Half of what went by is rounded down; below nothing there is none.
func TestHalfOfWhatWentBy(t *testing.T) {
	for _, sent := range []int64{1, 2, 3, 1000, 1001, 1 << 32, end/2 - 1, end / 2, end - 1001, end - 1000} {
		for _, value := range []int64{0, 1, 2, 5000, 5001, 1 << 32, end - 501, end - 500} {
			for back := range min(sent, 20) {
				estimates(t, value, sent, sent-back-1, 0, false)
			}
			estimates(t, value, sent, sent, value, true)
			estimates(t, value, sent, sent+1, value, true)
			estimates(t, value, sent, sent+2, value+1, true)
			estimates(t, value, sent, sent+3, value+1, true)
			for more := range int64(500) {
				estimates(t, value, sent, sent+2*more, value+more, true)
				estimates(t, value, sent, sent+2*more+1, value+more, true)
			}
		}
	}
}

// What is told may be just the end of time, but not one more.
func TestEstimateAtTheEndOfTime(t *testing.T) {
	for _, gone := range []int64{0, 1, 2, 3, 4, 5, 6, 7, 1000, 1001, 2048, 1 << 32, end/2 - 1, end / 2, end/2 + 1, end - 2, end - 1, end} {
		for _, sent := range []int64{0, 1, 2, 1000, end/2 - 1, end / 2, end - gone - 1, end - gone} {
			if sent < 0 || sent > end-gone {
				continue
			}
			value := end - gone/2
			estimates(t, value-1, sent, sent+gone, end-1, true)
			estimates(t, value, sent, sent+gone, end, true)
			estimates(t, value+1, sent, sent+gone, 0, false)
			estimates(t, value+2, sent, sent+gone, 0, false)
		}
	}
}

func TestEstimateByChance(t *testing.T) {
	next := chance(231)
	var are [2]int
	var back, beyond int
	for range 300000 {
		value, sent, now := whole(next), whole(next), whole(next)
		if below(next, 4) > 0 {
			value, sent, now = value&(2*end-1), sent&(end-1), now&(end-1)
		}
		switch below(next, 3) {
		case 0:
			now = sent + int64(below(next, 200)) - 20
		case 1:
			value = end - (now-sent)/2 + int64(below(next, 9)) - 4
		}
		_, is := estimated(t, value, sent, now)
		switch {
		case is:
			are[1]++
		case plainTime(value) && plainTime(sent) && plainTime(now) && now < sent:
			back++
		case plainTime(value) && plainTime(sent) && plainTime(now):
			beyond++
		default:
			are[0]++
		}
		if t.Failed() {
			return
		}
	}
	if are[0] < 20000 || are[1] < 20000 || back < 20000 || beyond < 20000 {
		t.Error("too few:", are, back, beyond)
	}
}

// P23.2

func TestDiffByHand(t *testing.T) {
	for _, r := range []struct {
		value          int64
		h              int
		dmin, dmax, at int64
		want           int64
		is             bool
	}{
		{0, 0, 0, 0, 0, 0, true},
		{0, 2, 1, 3, 100, 3996, true},
		{5000, 1, 1, 1, 6024, 0, true}, // alike
		{5000, 1, 1, 1, 6023, 1, true},
		{5000, 1, 1, 1, 6025, -1, true},
		{5000, 1, 1, 2, 6100, 436, true}, // a tick and a half
		{5000, 1, 0, 1, 6100, -588, true},
		{5000, 3, 1, 2, 9000, 608, true},
		{5000, 0, 1, 2, 5000, 0, true}, // no link, no time
		{5000, 0, 0, 64, 5001, -1, true},
		{5000, 63, 0, 0, 4000, 1000, true},
		{0, 1, 0, 64, 0, 32768, true},
		{0, 1, 64, 64, 0, 65536, true},
		{0, 63, 64, 64, 0, farthest, true},
		{0, 63, 64, 64, farthest, 0, true},
		{end, 0, 0, 0, 0, end, true},
		{end, 0, 64, 64, 0, end, true},
		{end, 63, 0, 0, 0, end, true},
		{end, 1, 0, 1, 0, end + 512, true},         // beyond the end of time
		{end, 63, 64, 64, 0, end + farthest, true}, // the greatest
		{end, 63, 64, 64, end, farthest, true},
		{0, 0, 0, 0, end, -end, true}, // the least
		{0, 0, 64, 64, end, -end, true},
		{0, 63, 0, 0, end, -end, true},
		{0, 63, 64, 64, end, farthest - end, true},
		{1, 0, 1, 1, end, 1 - end, true},
		{end, 0, 0, 0, end, 0, true},
		{5000, 64, 1, 1, 6100, 0, false}, // one that is wrong, the others good
		{5000, -1, 1, 1, 6100, 0, false},
		{5000, 1, -1, 1, 6100, 0, false},
		{5000, 1, -1, -1, 6100, 0, false},
		{5000, 1, 2, 1, 6100, 0, false},
		{5000, 1, 1, 65, 6100, 0, false},
		{5000, 1, 65, 65, 6100, 0, false},
		{-1, 1, 1, 1, 6100, 0, false},
		{-1, 1, 1, 1, 0, 0, false}, // though it would be good by now
		{end + 1, 1, 1, 1, 6100, 0, false},
		{5000, 1, 1, 1, -1, 0, false},
		{5000, 1, 1, 1, end + 1, 0, false},
		{end + 1, 0, 0, 0, end + 1, 0, false},
		{-1, 0, 0, 0, -1, 0, false},
		{least, 1, 1, 1, 6100, 0, false},
		{greatest, 1, 1, 1, 6100, 0, false},
		{5000, 1, 1, 1, least, 0, false},
		{5000, 1, 1, 1, greatest, 0, false},
		{greatest, 63, 64, 64, least, 0, false}, // that is no int64
		{least, 0, 0, 0, greatest, 0, false},
		{5000, math.MinInt, 1, 1, 6100, 0, false},
		{5000, math.MaxInt, 1, 1, 6100, 0, false},
		{5000, 1, least, 1, 6100, 0, false},
		{5000, 1, greatest, greatest, 6100, 0, false},
		{5000, 1, 1, greatest, 6100, 0, false},
		{5000, 1, 1, least, 6100, 0, false},
		{5000, 0, 2, 1, 5000, 0, false}, // over no link too
		{5000, 0, -1, 1, 5000, 0, false},
		{5000, 0, 1, 65, 5000, 0, false},
	} {
		diffs(t, r.value, r.h, r.dmin, r.dmax, r.at, r.want, r.is)
	}
}

// edges are the edges of the longest delay, where the shortest one is told; what goes round is a number, too.
func edges(dmin int64) []int64 { return append([]int64{dmin - 1, dmin, dmin + 1}, delays...) }

// Each of the five at all edges, with the others good and not.
func TestDiffAtTheEdges(t *testing.T) {
	var are [2]int
	for _, h := range links {
		for _, dmin := range delays {
			for _, dmax := range edges(dmin) {
				for _, value := range append(times, 5000) {
					for _, at := range append(times, 6100) {
						if _, is := differs(t, value, h, dmin, dmax, at); is {
							are[1]++
						} else {
							are[0]++
						}
					}
				}
			}
		}
	}
	if are[0] == 0 || are[1] == 0 {
		t.Error(are)
	}
}

// One that is not good, alone or with any other, makes the answer nothing.
func TestDiffOfWrongNumbers(t *testing.T) {
	for _, x := range wild {
		if !plainTime(x) {
			for _, y := range wild {
				diffs(t, x, 1, 1, 2, y, 0, false)
				diffs(t, y, 1, 1, 2, x, 0, false)
			}
		}
		if x < 0 || x > 63 {
			for _, y := range []int64{0, 1, 64} {
				diffs(t, 5000, int(x), 0, y, 6100, 0, false)
				diffs(t, 5000, int(x), y, 64, 6100, 0, false)
			}
		}
		for _, y := range wild {
			if x < 0 || x > y || y > 64 {
				for _, h := range []int{-1, 0, 1, 63, 64} {
					diffs(t, 5000, h, x, y, 6100, 0, false)
				}
			}
		}
	}
}

// All numbers of links and all delays that may be, each link's middle added to the one ahead.
func TestDiffOverAllLinks(t *testing.T) {
	for dmin := int64(0); dmin <= 64; dmin++ {
		for dmax := dmin; dmax <= 64; dmax++ {
			var mid int64
			for h := range 64 {
				diffs(t, 0, h, dmin, dmax, 0, mid, true)
				diffs(t, 7000, h, dmin, dmax, 9999, mid-2999, true)
				diffs(t, end, h, dmin, dmax, 0, end+mid, true)
				diffs(t, 0, h, dmin, dmax, end, mid-end, true)
				mid += (dmin + dmax) * 512
			}
		}
	}
}

// An answer is not kept within any ends: it goes a grain on with each grain of either time.
func TestDiffGrainByGrain(t *testing.T) {
	for _, by := range []int64{-3, -2, -1, 0, 1, 2, 3} {
		for _, at := range []int64{2048, 5000, 1 << 40, end - 2048} {
			diffs(t, at-1024+by, 1, 1, 1, at, by, true)
			diffs(t, at-1024, 1, 1, 1, at-by, by, true)
			diffs(t, at+by, 0, 1, 1, at, by, true)
		}
	}
	for k := range int64(100) {
		diffs(t, k, 0, 0, 0, end, k-end, true)
		diffs(t, end-k, 63, 64, 64, 0, end+farthest-k, true)
		diffs(t, end, 63, 64, 64, k, end+farthest-k, true)
	}
}

func TestDiffByChance(t *testing.T) {
	next := chance(232)
	var are [2]int
	var behind, ahead int
	for range 300000 {
		value, at := whole(next), whole(next)
		h, dmin, dmax := int(whole(next)), whole(next), whole(next)
		if below(next, 4) > 0 {
			value, at = value&(end-1), at&(end-1)
		}
		if below(next, 4) > 0 {
			h, dmax = below(next, 66)-1, int64(below(next, 66))
			dmin = from(next, -1, dmax+1)
		}
		if below(next, 3) == 0 {
			at = value + int64(below(next, 10000000)) - 2000000
		}
		x, is := differs(t, value, h, dmin, dmax, at)
		switch {
		case !is:
			are[0]++
		case x < 0:
			behind++
		case x > 0:
			ahead++
		}
		if is {
			are[1]++
		}
		if t.Failed() {
			return
		}
	}
	if are[0] < 20000 || are[1] < 20000 || behind < 20000 || ahead < 20000 {
		t.Error("too few:", are, behind, ahead)
	}
}

// P23.3

func TestErrByHand(t *testing.T) {
	for _, r := range []struct {
		dmin, dmax, rho, slew, want int64
		is                          bool
	}{
		{1, 2, 1, 32, 581, true}, // the chapter's
		{1, 1, 0, 1, 2, true},
		{0, 0, 0, 1, 1, true}, // no delay: just what is lost in rounding
		{0, 0, 64, 256, 1, true},
		{0, 1, 0, 1, 514, true},
		{0, 1, 1, 1, 516, true},
		{1, 1, 1, 1, 4, true},
		{1, 1, 0, 2, 3, true},
		{1, 1, 2, 1, 6, true},
		{2, 2, 1, 1, 7, true}, // ways alike
		{64, 64, 0, 1, 65, true},
		{64, 64, 64, 256, 24577, true},
		{63, 64, 64, 256, 25089, true},
		{0, 64, 64, 256, 57345, true}, // the greatest
		{0, 64, 0, 1, 32833, true},
		{0, 63, 63, 255, 56260, true},
		{1, 2, 65, 32, 0, false}, // one that is wrong, the others good
		{1, 2, -1, 32, 0, false},
		{1, 2, 1, 0, 0, false},
		{1, 2, 1, -1, 0, false},
		{1, 2, 1, 257, 0, false},
		{2, 1, 1, 32, 0, false},
		{-1, 2, 1, 32, 0, false},
		{-1, -1, 1, 32, 0, false},
		{1, 65, 1, 32, 0, false},
		{65, 65, 1, 32, 0, false},
		{65, 64, 1, 32, 0, false},
		{0, -1, 1, 32, 0, false},
		{1, 0, 1, 32, 0, false},
		{2, 1, 65, 32, 0, false}, // two of them
		{2, 1, 1, 0, 0, false},
		{1, 2, 65, 0, 0, false},
		{1, 2, -1, 257, 0, false},
		{-1, 65, 1, 32, 0, false},
		{least, 2, 1, 32, 0, false},
		{1, greatest, 1, 32, 0, false},
		{least, greatest, 1, 32, 0, false},
		{greatest, least, 1, 32, 0, false},
		{1, 2, least, 32, 0, false},
		{1, 2, greatest, 32, 0, false},
		{1, 2, 1, least, 0, false},
		{1, 2, 1, greatest, 0, false},
		{greatest, greatest, greatest, greatest, 0, false},
		{least, least, least, least, 0, false},
	} {
		errs(t, r.dmin, r.dmax, r.rho, r.slew, r.want, r.is)
	}
}

// Each of the four at all edges, with the others good and not.
func TestErrAtTheEdges(t *testing.T) {
	var are [2]int
	for _, dmin := range delays {
		for _, dmax := range edges(dmin) {
			for _, rho := range append(drifts, 2) {
				for _, slew := range append(slews, 32) {
					if _, is := erred(t, dmin, dmax, rho, slew); is {
						are[1]++
					} else {
						are[0]++
					}
				}
			}
		}
	}
	if are[0] == 0 || are[1] == 0 {
		t.Error(are)
	}
}

// One that is not good, alone or with any other, makes the answer nothing.
func TestErrOfWrongNumbers(t *testing.T) {
	for _, x := range wild {
		for _, y := range wild {
			if !plainRate(x, y) {
				for _, d := range []int64{0, 1, 64} {
					errs(t, 0, d, x, y, 0, false)
					errs(t, d, 64, x, y, 0, false)
					errs(t, d+1, d, x, y, 0, false)
				}
			}
			if x < 0 || x > y || y > 64 {
				for _, rho := range []int64{-1, 0, 64, 65} {
					for _, slew := range []int64{0, 1, 256, 257} {
						errs(t, x, y, rho, slew, 0, false)
					}
				}
			}
		}
	}
}

// All delays that may be with some rates, and all rates with some delays.
func TestErrOfAllThatMayBe(t *testing.T) {
	for dmin := int64(0); dmin <= 64; dmin++ {
		for dmax := dmin; dmax <= 64; dmax++ {
			for _, rho := range []int64{0, 1, 2, 31, 63, 64} {
				for _, slew := range []int64{1, 2, 32, 100, 255, 256} {
					errs(t, dmin, dmax, rho, slew, 1+512*dmax-512*dmin+rho*dmax+rho*dmax+slew*dmax, true)
				}
			}
		}
	}
	for rho := int64(0); rho <= 64; rho++ {
		for slew := int64(1); slew <= 256; slew++ {
			errs(t, 0, 0, rho, slew, 1, true)
			for _, d := range []int64{1, 2, 3, 37, 63, 64} {
				errs(t, d, d, rho, slew, 1+d*slew+d*rho+d*rho, true)
				errs(t, 0, d, rho, slew, 1+d*512+d*slew+d*rho+d*rho, true)
				errs(t, d-1, d, rho, slew, 513+d*slew+d*rho+d*rho, true)
			}
		}
	}
}

func TestErrByChance(t *testing.T) {
	next := chance(233)
	var are [2]int
	for range 300000 {
		dmin, dmax, rho, slew := whole(next), whole(next), whole(next), whole(next)
		if below(next, 4) > 0 {
			dmax = int64(below(next, 66))
			dmin = from(next, -1, dmax+1)
		}
		if below(next, 4) > 0 {
			rho, slew = int64(below(next, 67))-1, int64(below(next, 259))
		}
		if _, is := erred(t, dmin, dmax, rho, slew); is {
			are[1]++
		} else {
			are[0]++
		}
		if t.Failed() {
			return
		}
	}
	if are[0] < 20000 || are[1] < 20000 {
		t.Error("too few:", are)
	}
}

// P23.4

// cluster is what may be in a play: delays, drifts and slewing, all of them good.
type cluster struct{ dmin, dmax, rho, slew int64 }

func drawnCluster(next func() uint64) cluster {
	dmax := from(next, 0, 64)
	return cluster{from(next, 0, dmax), dmax, from(next, 0, 64), from(next, 1, 256)}
}

// lean is how a clock goes on in a play: by the least that may be, by the most, by either as it comes, or by any that may be.
type lean int

const leans = 4

// inc is by how much a clock goes on in a tick, that is off by so much at most.
func (l lean) inc(next func() uint64, off int64) int64 {
	switch l {
	case 0:
		return 1024 - off
	case 1:
		return 1024 + off
	case 2:
		return 1024 + off*int64(1-2*below(next, 2))
	}
	return 1024 + from(next, -off, off)
}

// play is a probe and its answer: how many ticks each is under way, how both clocks go on meanwhile.
type play struct {
	there, back int64
	own, other  lean
}

// run goes tick by tick, and tells what Estimate says and what the other clock tells by then.
func (p play) run(t *testing.T, next func() uint64, c cluster, sent, other int64) (estimate, truth int64) {
	t.Helper()
	now := sent
	for range p.there {
		now += p.own.inc(next, c.rho)
		other += p.other.inc(next, c.rho+c.slew)
	}
	value := other
	for range p.back {
		now += p.own.inc(next, c.rho)
		other += p.other.inc(next, c.rho+c.slew)
	}
	x, ok := Estimate(value, sent, now)
	if !ok {
		t.Fatalf("%+v of %+v: Estimate(%d, %d, %d): false", p, c, value, sent, now)
	}
	return x, other
}

// off is how far two numbers are apart.
func off(a, b int64) int64 { return max(a-b, b-a) }

// keeps is whether an estimate is wrong by at most Err.
func keeps(t *testing.T, what any, c cluster, estimate, truth int64) {
	t.Helper()
	most, ok := Err(c.dmin, c.dmax, c.rho, c.slew)
	if !ok || off(estimate, truth) > most {
		t.Fatalf("%+v of %+v: %d, and the clock tells %d; Err: %d, %v", what, c, estimate, truth, most, ok)
	}
}

// Begun at any time, with all delays and clocks that may be.
func TestEstimatesByChance(t *testing.T) {
	next := chance(234)
	var kinds [3]int
	for k := range 60000 {
		c := drawnCluster(next)
		p := play{from(next, c.dmin, c.dmax), from(next, c.dmin, c.dmax), lean(below(next, leans)), lean(below(next, leans))}
		switch k % 6 {
		case 0:
			p.there, p.back = c.dmin, c.dmin
		case 1:
			p.there, p.back = c.dmax, c.dmax
		case 2:
			p.there, p.back = c.dmin, c.dmax
		case 3:
			p.there, p.back = c.dmax, c.dmin
		}
		estimate, truth := p.run(t, next, c, from(next, 0, end-1<<20), from(next, 0, end-1<<20))
		keeps(t, p, c, estimate, truth)
		kinds[1+min(1, max(-1, estimate-truth))]++
	}
	if kinds[0] < 5000 || kinds[1] < 100 || kinds[2] < 5000 {
		t.Error("too few:", kinds)
	}
}

// The worst plays: ways as long and as short as may be, and clocks as unlike as may be. Where both ends of the delays are
// one, the worst is wrong by all of Err but the grain for rounding; else one way is short, and one's own clock drifts less.
func TestWorstEstimates(t *testing.T) {
	next := chance(235)
	for dmin := int64(0); dmin <= 64; dmin += 3 {
		for dmax := dmin; dmax <= 64; dmax++ {
			for _, rho := range []int64{0, 1, 2, 63, 64} {
				for _, slew := range []int64{1, 2, 255, 256} {
					c := cluster{dmin, dmax, rho, slew}
					var worst int64
					for _, p := range []play{{dmin, dmax, 0, 1}, {dmax, dmin, 1, 0}, {dmin, dmin, 0, 1}, {dmin, dmin, 1, 0}, {dmax, dmax, 0, 1}, {dmax, dmax, 1, 0}} {
						estimate, truth := p.run(t, next, c, 1000, 5000)
						keeps(t, p, c, estimate, truth)
						worst = max(worst, off(estimate, truth))
					}
					if most, _ := Err(dmin, dmax, rho, slew); worst != most-1-(dmax-dmin)*rho/2 {
						t.Fatalf("%+v: the worst estimate is wrong by %d; Err: %d", c, worst, most)
					}
				}
			}
		}
	}
}

// The same with clocks of the program: one's own is a hardware clock, the other one a logical clock that slews itself.
func TestEstimatesOfClocks(t *testing.T) {
	next := chance(236)
	for k := range 6000 {
		c := drawnCluster(next)
		own, hard := rate.New(from(next, 0, 1<<40)), rate.New(0)
		other := clock.New(c.slew)
		other.Boot(from(next, 0, 1<<40))
		other.Correct([]int64{0, 1 << 30, -1 << 30, from(next, -3000, 3000)}[k%4])
		pass := func(n int64) {
			for range n {
				own.Drift(from(next, -c.rho, c.rho))
				hard.Drift(from(next, -c.rho, c.rho))
				own.Tick()
				other.Tick(hard.Tick())
			}
		}
		sent := own.Now()
		pass(from(next, c.dmin, c.dmax))
		value, _ := other.Now()
		pass(from(next, c.dmin, c.dmax))
		truth, _ := other.Now()
		estimate, ok := Estimate(value, sent, own.Now())
		if !ok {
			t.Fatalf("%+v: Estimate(%d, %d, %d): false", c, value, sent, own.Now())
		}
		keeps(t, "clocks", c, estimate, truth)
	}
}

// way is how a packet goes over h links: by all of dmin, all of dmax, one of each by turns, or any of them.
func way(next func() uint64, kind int, c cluster, h int) (ticks int64) {
	for k := range h {
		switch {
		case kind == 0, kind == 2 && k%2 == 0:
			ticks += c.dmin
		case kind == 1, kind == 2:
			ticks += c.dmax
		default:
			ticks += from(next, c.dmin, c.dmax)
		}
	}
	return ticks
}

// differed is by how much Diff is wrong, of a packet that a clock sent so many ticks ago that has gone on like this since.
func differed(t *testing.T, next func() uint64, c cluster, h int, ticks int64, l lean, value, at int64) int64 {
	t.Helper()
	other := value
	for range ticks {
		other += l.inc(next, c.rho)
	}
	x, ok := Diff(value, h, c.dmin, c.dmax, at)
	most, is := hops.Err(h, c.dmin, c.dmax, c.rho)
	wrong := off(x, other-at)
	if !ok || !is || most != plainHopsErr(h, c.dmin, c.dmax, c.rho) || wrong > most {
		t.Fatalf("Diff(%d, %d, %d, %d, %d): %d, %v, and the clock is ahead by %d; hops' Err: %d, %v", value, h, c.dmin, c.dmax, at, x, ok, other-at, most, is)
	}
	return wrong
}

func TestDiffsByChance(t *testing.T) {
	next := chance(237)
	for k := range 6000 {
		c, h := drawnCluster(next), int(from(next, 0, 63))
		value, at := from(next, 0, end), from(next, 0, end)
		if k%3 == 0 {
			at = min(end, value&(1<<50-1)+from(next, 0, 1<<22))
		}
		differed(t, next, c, h, way(next, k%4, c, h), lean(below(next, leans)), value, at)
	}
}

// The worst packets: as long under way as may be, sent by a clock as fast as may be. They are wrong by just hops' Err.
func TestWorstDiffs(t *testing.T) {
	next := chance(238)
	for _, h := range []int{0, 1, 2, 3, 31, 62, 63} {
		for dmin := int64(0); dmin <= 64; dmin += 8 {
			for dmax := dmin; dmax <= 64; dmax += 4 {
				for _, rho := range []int64{0, 1, 63, 64} {
					c := cluster{dmin, dmax, rho, 1}
					worst := differed(t, next, c, h, int64(h)*dmax, 1, 5000, 6100)
					if most := plainHopsErr(h, dmin, dmax, rho); worst != most {
						t.Fatalf("%d links of %+v: the worst packet is wrong by %d of %d", h, c, worst, most)
					}
					differed(t, next, c, h, int64(h)*dmin, 0, 5000, 6100)
					differed(t, next, c, h, int64(h)*dmin, 1, 5000, 6100)
					differed(t, next, c, h, int64(h)*dmax, 0, 5000, 6100)
				}
			}
		}
	}
}

// The readings of the chapter that all is held against, by hand.
func TestPlain(t *testing.T) {
	if !plainTime(0) || !plainTime(end) || plainTime(-1) || plainTime(end+1) || plainTime(least) || plainTime(greatest) {
		t.Error("plainTime")
	}
	if !plainHops(0, 0, 0) || !plainHops(63, 0, 64) || !plainHops(63, 64, 64) || plainHops(64, 0, 0) || plainHops(-1, 0, 0) ||
		plainHops(1, 2, 1) || plainHops(1, -1, 1) || plainHops(1, 1, 65) || plainHops(1, 65, 65) || plainHops(1, -1, -1) {
		t.Error("plainHops")
	}
	if !plainRate(0, 1) || !plainRate(64, 256) || plainRate(-1, 1) || plainRate(65, 1) || plainRate(0, 0) || plainRate(0, 257) {
		t.Error("plainRate")
	}
	if half(big64(7)).Int64() != 3 || half(big64(-7)).Int64() != -4 {
		t.Error("half")
	}
	if x, ok := plainEstimate(5000, 1000, 3048); x != 6024 || !ok {
		t.Error("plainEstimate", x, ok)
	}
	if x, ok := plainEstimate(end, 0, 1); x != end || !ok {
		t.Error("plainEstimate at the end", x, ok)
	}
	if x, ok := plainEstimate(end, 0, 2); x != 0 || ok {
		t.Error("plainEstimate beyond the end", x, ok)
	}
	if x, ok := plainEstimate(1, 5, 4); x != 0 || ok {
		t.Error("plainEstimate back", x, ok)
	}
	if x, ok := plainDiff(5000, 1, 1, 1, 6100); x != -76 || !ok {
		t.Error("plainDiff", x, ok)
	}
	if x, ok := plainDiff(5000, 64, 1, 1, 6100); x != 0 || ok {
		t.Error("plainDiff of too many links", x, ok)
	}
	if x, ok := plainErr(1, 2, 1, 32); x != 581 || !ok {
		t.Error("plainErr", x, ok)
	}
	if x, ok := plainErr(1, 2, 1, 0); x != 0 || ok {
		t.Error("plainErr of a wrong slew", x, ok)
	}
	if plainHopsErr(3, 1, 2, 1) != 1542 {
		t.Error("plainHopsErr")
	}
}
