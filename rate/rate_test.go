package rate

import (
	"fmt"
	"math"
	"math/big"
	"testing"

	"angelus/api"
)

const (
	least    = math.MinInt64
	greatest = math.MaxInt64
	end      = 1 << 60 // the end of time
	top      = 1 << 20 // what a clock goes on by in a tick at most
)

// wild are numbers all over int64. Sums and products of some of them go round to small ones, and some would be good if
// only their lower bits were taken or their sign lost.
var wild = []int64{
	least, least + 1, least + 63, least + 1024, least + top, -end - 1, -end, -1 << 53, -1<<32 - 1, -1 << 32, -1<<32 + 1,
	math.MinInt32, -top - 1, -top, -top + 1, -1 << 16, -2049, -2048, -1025, -1024, -1023, -512, -257, -256, -255, -129, -128,
	-65, -64, -63, -3, -2, -1,
	0, 1, 2, 3, 31, 63, 64, 65, 66, 127, 128, 129, 255, 256, 257, 258, 512, 704, 991, 1023, 1024, 1025, 1057, 1344, 2048,
	1 << 16, 1<<16 + 1, top - 1025, top - 1024, top - 1023, top - 1, top, top + 1, math.MaxInt32, 1 << 31,
	1<<32 - 1, 1 << 32, 1<<32 + 1, 1<<32 + 64, 1<<32 + 256, 1 << 40, 1 << 53, end - top, end - 1024, end - 1, end, end + 1, 1 << 62, 1<<62 + 1,
	greatest - top, greatest - 1024, greatest - 1023, greatest - 1, greatest,
}

// chance answers numbers of no rule, the same ones each time.
func chance(x uint64) func() uint64 {
	return func() uint64 {
		x ^= x << 13
		x ^= x >> 7
		x ^= x << 17
		return x >> 8
	}
}

// below draws a number from 0 on below n.
func below(next func() uint64, n int) int { return int(next() % uint64(n)) }

// whole draws a number out of the whole of int64, most of them by few bits.
func whole(next func() uint64) int64 {
	switch below(next, 4) {
	case 0:
		return wild[below(next, len(wild))]
	case 1:
		return wild[below(next, len(wild))] + int64(below(next, 5)) - 2 // it may go round: that is a number, too
	}
	return int64(next()<<8^next()) >> below(next, 64)
}

// The chapter, read plainly, by whole numbers without ends.

func big64(x int64) *big.Int { return big.NewInt(x) }

func sum(l ...int64) *big.Int {
	s := new(big.Int)
	for _, x := range l {
		s.Add(s, big64(x))
	}
	return s
}

// within is whether a whole number is from one to another one.
func within(x, lo, hi *big.Int) bool { return lo.Cmp(x) <= 0 && x.Cmp(hi) <= 0 }

// kept is a whole number, kept from one to another one.
func kept(x *big.Int, lo, hi int64) int64 {
	if x.Cmp(big64(lo)) < 0 {
		return lo
	}
	if x.Cmp(big64(hi)) > 0 {
		return hi
	}
	return x.Int64()
}

func plainGood(rho, slew int64) bool {
	return within(big64(rho), big64(0), big64(64)) && within(big64(slew), big64(1), big64(256))
}

func plainFast(rho, slew int64) int64 {
	if plainGood(rho, slew) {
		return sum(1024, rho, slew).Int64()
	}
	return 0
}

func plainSlow(rho, slew int64) int64 {
	if plainGood(rho, slew) {
		return sum(1024, -rho, -slew).Int64()
	}
	return 0
}

func plainTicks(grains, slow int64) int64 {
	if grains < 0 || slow < 1 {
		return 0
	}
	if grains > end {
		grains = end
	}
	n := new(big.Int).Div(big64(grains), big64(slow))
	return n.Add(n, big64(2)).Int64()
}

func plainInc(drift int64) int64 { return kept(sum(1024, drift), 0, top) }

func plainFair(drift, rho int64) bool {
	return within(big64(drift), new(big.Int).Neg(big64(rho)), big64(rho))
}

// plain is a hardware clock as the chapter tells of it.
type plain struct{ at, drift int64 }

func plainNew(at int64) *plain { return &plain{at: kept(big64(at), 0, end)} }

func (p *plain) tick() int64 {
	was := p.at
	p.at = kept(sum(was, plainInc(p.drift)), 0, end)
	return p.at - was
}

// rates, ticks, incs and fairs hold calls against what is wanted.

func rates(t *testing.T, rho, slew, slow, fast int64, is bool) {
	t.Helper()
	if got := Good(rho, slew); got != is {
		t.Errorf("Good(%d, %d): %v", rho, slew, got)
	}
	if got := Slow(rho, slew); got != slow {
		t.Errorf("Slow(%d, %d): %d; wanted %d", rho, slew, got, slow)
	}
	if got := Fast(rho, slew); got != fast {
		t.Errorf("Fast(%d, %d): %d; wanted %d", rho, slew, got, fast)
	}
}

func ticks(t *testing.T, grains, slow, want int64) {
	t.Helper()
	if got := Ticks(grains, slow); got != want {
		t.Errorf("Ticks(%d, %d): %d; wanted %d", grains, slow, got, want)
	}
}

func incs(t *testing.T, drift, want int64) {
	t.Helper()
	if got := Inc(drift); got != want {
		t.Errorf("Inc(%d): %d; wanted %d", drift, got, want)
	}
}

func fairs(t *testing.T, drift, rho int64, want bool) {
	t.Helper()
	if got := Fair(drift, rho); got != want {
		t.Errorf("Fair(%d, %d): %v", drift, rho, got)
	}
}

// tells is whether a clock tells so much, however often it is asked.
func tells(t *testing.T, what string, h *Hard, want int64) {
	t.Helper()
	if a, b := h.Now(), h.Now(); a != want || b != want {
		t.Errorf("%s: Now: %d, %d; wanted %d", what, a, b, want)
	}
}

// goes is whether a clock goes on by so much in each of some ticks, and tells so.
func goes(t *testing.T, what string, h *Hard, by ...int64) {
	t.Helper()
	at := h.Now()
	for k, want := range by {
		if got := h.Tick(); got != want {
			t.Errorf("%s: Tick %d: %d; wanted %d", what, k, got, want)
		}
		at += want
		tells(t, fmt.Sprintf("%s: behind Tick %d", what, k), h, at)
	}
}

// set is a clock that tells some time, with a drift.
func set(at, drift int64) *Hard {
	h := New(at)
	h.Drift(drift)
	return h
}

// The chapter's example.
func TestExample(t *testing.T) {
	rates(t, 1, 32, 991, 1057, true)
	ticks(t, 2000, 991, 4)
}

// The limits are those that the chapter names.
func TestLimits(t *testing.T) {
	if api.Grain != 1024 || api.MaxDrift != 64 || api.MaxSlew != 256 || api.MaxTime != end {
		t.Error(api.Grain, api.MaxDrift, api.MaxSlew, int64(api.MaxTime))
	}
}

// P20.1

func TestRatesByHand(t *testing.T) {
	for _, r := range []struct {
		rho, slew  int64
		slow, fast int64
		is         bool
	}{
		{0, 1, 1023, 1025, true},
		{0, 2, 1022, 1026, true},
		{0, 255, 769, 1279, true},
		{0, 256, 768, 1280, true},
		{1, 1, 1022, 1026, true},
		{1, 2, 1021, 1027, true},
		{1, 32, 991, 1057, true}, // the chapter's
		{1, 256, 767, 1281, true},
		{2, 1, 1021, 1027, true},
		{32, 1, 991, 1057, true},
		{63, 1, 960, 1088, true},
		{63, 255, 706, 1342, true},
		{63, 256, 705, 1343, true},
		{64, 1, 959, 1089, true},
		{64, 2, 958, 1090, true},
		{64, 255, 705, 1343, true},
		{64, 256, 704, 1344, true}, // the slowest and the fastest
		{-1, 1, 0, 0, false},
		{-1, 256, 0, 0, false},
		{65, 1, 0, 0, false},
		{65, 256, 0, 0, false},
		{0, 0, 0, 0, false},
		{64, 0, 0, 0, false},
		{0, -1, 0, 0, false},
		{64, -1, 0, 0, false},
		{0, 257, 0, 0, false},
		{64, 257, 0, 0, false},
		{-1, 0, 0, 0, false},
		{-1, 257, 0, 0, false},
		{65, 0, 0, 0, false},
		{65, 257, 0, 0, false},
		{256, 64, 0, 0, false}, // the wrong way round
		{least, 1, 0, 0, false},
		{greatest, 1, 0, 0, false},
		{0, least, 0, 0, false},
		{0, greatest, 0, 0, false},
		{least, least, 0, 0, false},
		{least, greatest, 0, 0, false},
		{greatest, least, 0, 0, false},
		{greatest, greatest, 0, 0, false},
	} {
		rates(t, r.rho, r.slew, r.slow, r.fast, r.is)
	}
}

// All that are good, and all about them that are not by a few.
func TestAllRates(t *testing.T) {
	good := 0
	for rho := int64(-3); rho <= 67; rho++ {
		for slew := int64(-3); slew <= 260; slew++ {
			is := rho >= 0 && rho < 65 && slew > 0 && slew < 257
			if !is {
				rates(t, rho, slew, 0, 0, false)
				continue
			}
			rates(t, rho, slew, 1024-(rho+slew), 1024+(rho+slew), true)
			good++
		}
	}
	if good != 65*256 {
		t.Errorf("%d of them were good", good)
	}
}

// One bad number, alone or with another one, makes both rates nothing.
func TestBadRates(t *testing.T) {
	for _, x := range wild {
		for _, y := range wild {
			rates(t, x, y, plainSlow(x, y), plainFast(x, y), plainGood(x, y))
		}
		if x < 0 || x > 64 {
			for _, slew := range []int64{0, 1, 2, 255, 256, 257} {
				rates(t, x, slew, 0, 0, false)
			}
		}
		if x < 1 || x > 256 {
			for _, rho := range []int64{-1, 0, 1, 63, 64, 65} {
				rates(t, rho, x, 0, 0, false)
			}
		}
	}
}

func TestTicksByHand(t *testing.T) {
	for _, r := range []struct{ grains, slow, want int64 }{
		{2000, 991, 4}, // the chapter's
		{1981, 991, 3},
		{1982, 991, 4},
		{0, 1, 2},
		{0, 991, 2},
		{0, greatest, 2},
		{1, 1, 3},
		{1, 2, 2},
		{2, 1, 4},
		{7, 2, 5},
		{990, 991, 2},
		{991, 991, 3},
		{992, 991, 3},
		{1023, 1024, 2},
		{1024, 1024, 3},
		{1025, 1024, 3},
		{10000, 704, 16},
		{end - 1, 1, end + 1},
		{end, 1, end + 2},
		{end + 1, 1, end + 2},
		{greatest, 1, end + 2},
		{end, 1024, 1<<50 + 2},
		{end - 1, 1024, 1<<50 + 1},
		{end + 1023, 1024, 1<<50 + 2},
		{end + 1024, 1024, 1<<50 + 2},
		{greatest, 1024, 1<<50 + 2},
		{end - 1, end, 2},
		{end, end, 3},
		{end + 1, end, 3},
		{greatest, end, 3},
		{greatest, end - 1, 3},
		{end, end + 1, 2},
		{end + 1, end + 1, 2}, // no more than the end of time
		{greatest, end + 1, 2},
		{greatest, greatest, 2},
		{greatest, greatest - 1, 2},
		{greatest, 7, 164703072086692427},
		{-1, 1, 0},
		{-1, 5, 0},
		{-1, greatest, 0},
		{-991, 991, 0},
		{-991, -991, 0},
		{least, 1, 0},
		{least, 1024, 0},
		{0, 0, 0},
		{0, -1, 0},
		{1, 0, 0},
		{1, -1, 0},
		{1024, -1024, 0},
		{2000, 0, 0},
		{end, 0, 0},
		{end, -1, 0},
		{greatest, 0, 0},
		{greatest, -1, 0},
		{greatest, least, 0},
		{least, 0, 0},
		{least, -1, 0}, // that is no int64
		{least, least, 0},
		{-1, 0, 0},
		{-1, -1, 0},
	} {
		ticks(t, r.grains, r.slow, r.want)
	}
}

// around are numbers of grains about the ends, and about what a few ticks take.
func around(slow int64) []int64 {
	l := []int64{least, least + 1, -2, -1, 0, 1, 2, end - 2, end - 1, end, end + 1, end + 2, greatest - 1, greatest}
	for _, n := range []int64{1, 2, 3, 10} {
		if slow > 0 && slow <= greatest/n-1 {
			l = append(l, n*slow-1, n*slow, n*slow+1)
		}
	}
	return append(l, slow)
}

// At a whole number of ticks one more is taken, and not a grain ahead.
func TestTicksStepByStep(t *testing.T) {
	for _, slow := range []int64{1, 2, 3, 7, 703, 704, 705, 991, 1022, 1023, 1024, 1025, 1344, top, 1 << 40, end - 1, end} {
		for n := range min(40, end/slow+1) {
			ticks(t, n*slow, slow, n+2)
			if n > 0 {
				ticks(t, n*slow-1, slow, n+1)
			}
			if slow > 1 && n*slow < end {
				ticks(t, n*slow+1, slow, n+2)
			}
		}
	}
}

func TestTicksAtTheirEdges(t *testing.T) {
	for _, slow := range append([]int64{4, 5, 9, 700, 800, 900, 1000, 1 << 30, 1 << 50, 1 << 59, end - 2, end + 2}, wild...) {
		for _, grains := range append(around(slow), wild...) {
			ticks(t, grains, slow, plainTicks(grains, slow))
		}
	}
}

func TestTicksByChance(t *testing.T) {
	next := chance(201)
	some := 0
	for range 300000 {
		grains, slow := whole(next), whole(next)
		if below(next, 3) > 0 {
			grains, slow = grains&greatest, int64(below(next, 3000))
		}
		ticks(t, grains, slow, plainTicks(grains, slow))
		if t.Failed() {
			return
		}
		if Ticks(grains, slow) > 2 {
			some++
		}
	}
	if some < 100000 {
		t.Errorf("only %d of them took ticks", some)
	}
}

// P20.2

func TestIncByHand(t *testing.T) {
	for _, r := range []struct{ drift, want int64 }{
		{0, 1024},
		{1, 1025},
		{-1, 1023},
		{7, 1031},
		{64, 1088},
		{-64, 960},
		{-1022, 2},
		{-1023, 1},
		{-1024, 0},
		{-1025, 0},
		{-1026, 0},
		{-2000, 0},
		{-2048, 0},
		{1024, 2048},
		{top - 1026, top - 2},
		{top - 1025, top - 1},
		{top - 1024, top},
		{top - 1023, top},
		{top - 1, top},
		{top, top},
		{1 << 40, top},
		{-1 << 40, 0},
		{end, top},
		{-end, 0},
		{greatest - 1024, top},
		{greatest - 1023, top}, // from here on the sum is no int64
		{greatest, top},
		{least + 1024, 0},
		{least, 0},
	} {
		incs(t, r.drift, r.want)
	}
}

// All drifts at which a clock goes on by anything but what it does at least and at most, and some thousand beyond them.
func TestAllIncs(t *testing.T) {
	for drift := int64(-9000); drift < top+9000; drift++ {
		want := drift + 1024
		if want < 0 {
			want = 0
		}
		if want > top {
			want = top
		}
		if got := Inc(drift); got != want {
			t.Fatalf("Inc(%d): %d; wanted %d", drift, got, want)
		}
	}
}

func TestFairByHand(t *testing.T) {
	for _, r := range []struct {
		drift, rho int64
		want       bool
	}{
		{0, 0, true},
		{1, 0, false},
		{-1, 0, false},
		{0, 1, true},
		{1, 1, true},
		{-1, 1, true},
		{2, 1, false},
		{-2, 1, false},
		{-3, 3, true},
		{3, 3, true},
		{4, 3, false},
		{-4, 3, false},
		{0, 64, true},
		{63, 64, true},
		{-63, 64, true},
		{64, 64, true},
		{-64, 64, true},
		{65, 64, false},
		{-65, 64, false},
		{65, 65, true}, // any bound may be asked, not good ones alone
		{-100000, 100000, true},
		{-100001, 100000, false},
		{0, -1, false},
		{1, -1, false},
		{-1, -1, false},
		{0, -64, false},
		{64, -64, false},
		{-64, -64, false},
		{-65, -64, false},
		{0, least, false},
		{1, least, false},
		{-1, least, false},
		{least, least, false},
		{greatest, least, false},
		{0, least + 1, false},
		{least, least + 1, false},
		{greatest, least + 1, false},
		{0, greatest, true},
		{1, greatest, true},
		{-1, greatest, true},
		{greatest, greatest, true},
		{least + 1, greatest, true},
		{least, greatest, false}, // by one too small
		{greatest, greatest - 1, false},
		{greatest - 1, greatest - 1, true},
		{least + 1, greatest - 1, false},
		{least + 2, greatest - 1, true},
		{least, 0, false},
		{greatest, 0, false},
		{least, 1, false},
		{greatest, 1, false},
		{least, 64, false},
		{greatest, 64, false},
		{least, -1, false},
		{greatest, -1, false},
	} {
		fairs(t, r.drift, r.rho, r.want)
	}
}

// Each bound that is good, and what is about it both ways.
func TestFairAboutEachBound(t *testing.T) {
	for rho := int64(0); rho <= 70; rho++ {
		for drift := int64(-75); drift <= 75; drift++ {
			fairs(t, drift, rho, drift <= rho && drift >= 0 || -drift <= rho && drift < 0)
			if rho > 0 {
				fairs(t, drift, -rho, false)
			}
		}
	}
	for _, rho := range wild {
		if rho < 0 {
			for _, drift := range []int64{rho, rho + 1, -1, 0, 1, -(rho + 1), greatest, least} {
				fairs(t, drift, rho, false)
			}
			continue
		}
		fairs(t, rho, rho, true)
		fairs(t, -rho, rho, true)
		fairs(t, -rho-1, rho, false)
		if rho < greatest {
			fairs(t, rho+1, rho, false)
		}
	}
}

func TestDriftsAllOver(t *testing.T) {
	for _, drift := range wild {
		incs(t, drift, plainInc(drift))
		for _, rho := range wild {
			fairs(t, drift, rho, plainFair(drift, rho))
		}
	}
	next := chance(202)
	var are [2]int
	for range 200000 {
		drift, rho := whole(next), whole(next)
		incs(t, drift, plainInc(drift))
		fairs(t, drift, rho, plainFair(drift, rho))
		if t.Failed() {
			return
		}
		if plainFair(drift, rho) {
			are[1]++
		} else {
			are[0]++
		}
	}
	if are[0] < 20000 || are[1] < 20000 {
		t.Errorf("%d drifts were not fair, %d were", are[0], are[1])
	}
}

// A fair drift is just one by which a clock goes on by Slow at least and by Fast at most, though it be slewed by all that may be.
func TestFairClocksGoSlowAtLeastAndFastAtMost(t *testing.T) {
	for rho := int64(0); rho <= 64; rho++ {
		for _, slew := range []int64{1, 2, 32, 255, 256} {
			for drift := int64(-70); drift <= 70; drift++ {
				inc := Inc(drift)
				if is := inc-slew >= Slow(rho, slew) && inc+slew <= Fast(rho, slew); is != Fair(drift, rho) {
					t.Fatalf("a drift of %d, at most %d, slewing %d: %v", drift, rho, slew, is)
				}
			}
		}
	}
}

// P20.3

func TestNew(t *testing.T) {
	for _, r := range []struct{ at, want int64 }{
		{least, 0}, {least + 1, 0}, {-end, 0}, {-1024, 0}, {-5, 0}, {-1, 0}, {0, 0}, {1, 1}, {2, 2}, {1023, 1023}, {1024, 1024},
		{1 << 32, 1 << 32}, {1 << 40, 1 << 40}, {end - 1024, end - 1024}, {end - 1, end - 1}, {end, end}, {end + 1, end}, {1 << 62, end},
		{greatest - 1, end}, {greatest, end},
	} {
		h := New(r.at)
		if h == nil {
			t.Fatalf("New(%d): nil", r.at)
		}
		what := fmt.Sprintf("New(%d)", r.at)
		tells(t, what, h, r.want)
		goes(t, what, h, min(1024, end-r.want), min(1024, max(0, end-r.want-1024)))
	}
}

// A clock that is new has no drift.
func TestTickOfANewClock(t *testing.T) {
	h := New(0)
	tells(t, "a new clock", h, 0)
	goes(t, "a new clock", h, 1024, 1024, 1024)
	tells(t, "a new clock", h, 3072)
}

// Each drift counts from then on, till there is another one; of several in a row the last one does.
func TestDrift(t *testing.T) {
	h := New(-5)
	h.Drift(-2000)
	goes(t, "far behind", h, 0, 0, 0)
	h.Drift(7)
	goes(t, "ahead", h, 1031, 1031, 1031)
	h.Drift(-1)
	h.Drift(greatest)
	h.Drift(least)
	tells(t, "a drift alone", h, 3093)
	h.Drift(-3)
	tells(t, "a drift alone", h, 3093)
	goes(t, "the last of four", h, 1021, 1021)
	h.Drift(0)
	goes(t, "none again", h, 1024, 1024)
	h.Drift(2)
	h.Drift(2)
	goes(t, "one twice is none of twice as much", h, 1026, 1026)
	h.Drift(-2)
	goes(t, "nor is it taken off", h, 1022)
	h.Drift(1 << 40)
	goes(t, "too far", h, top)
	h.Drift(-1 << 40)
	goes(t, "what was too far is not kept", h, 0)
	h.Drift(5)
	goes(t, "nor is this", h, 1029)
}

// It goes on by Inc of each drift.
func TestTickOfEachDrift(t *testing.T) {
	for _, d := range wild {
		for _, at := range []int64{0, 1, 5000, 1 << 40, end - 3*top} {
			h := set(at, d)
			want := plainInc(d)
			goes(t, fmt.Sprintf("from %d by a drift of %d", at, d), h, want, want)
		}
	}
	for d := int64(-1100); d <= 1100; d++ {
		goes(t, fmt.Sprintf("a drift of %d", d), set(77, d), plainInc(d))
	}
}

func TestClocksThatStandStill(t *testing.T) {
	for _, d := range []int64{-1024, -1025, -1026, -2048, -1 << 32, -end, least + 1023, least + 1, least} {
		for _, at := range []int64{0, 1, 1024, 1 << 50, end - 1, end} {
			h := set(at, d)
			goes(t, fmt.Sprintf("from %d by a drift of %d", at, d), h, 0, 0, 0)
			h.Drift(-1023)
			goes(t, fmt.Sprintf("from %d by as little as may be", at), h, min(1, end-at))
		}
	}
}

func TestClocksAtTheirFastest(t *testing.T) {
	for _, d := range []int64{top - 1024, top - 1023, top, 1 << 32, end, greatest - 1024, greatest - 1023, greatest} {
		for _, at := range []int64{0, 1, 1024, 1 << 50, end - 2*top} {
			goes(t, fmt.Sprintf("from %d by a drift of %d", at, d), set(at, d), top, top)
		}
		goes(t, fmt.Sprintf("a drift of %d, near the end", d), set(end-2*top+1, d), top, top-1, 0)
		goes(t, "one less than the fastest", set(9, top-1025), top-1)
	}
}

// A clock stops at the end of time, and tells by how much it came there.
func TestTheEndOfTime(t *testing.T) {
	for _, d := range wild {
		inc := plainInc(d)
		if inc == 0 {
			continue
		}
		what := fmt.Sprintf("a drift of %d", d)
		goes(t, what+", just one step", set(end-inc, d), inc, 0, 0)
		goes(t, what+", one grain more", set(end-inc-1, d), inc, 1, 0)
		goes(t, what+", one grain less", set(end-inc+1, d), inc-1, 0, 0)
		goes(t, what+", a grain", set(end-1, d), 1, 0, 0)
		goes(t, what+", none", set(end, d), 0, 0)
		goes(t, what+", from beyond it", set(greatest, d), 0, 0)
		goes(t, what+", two steps", set(end-2*inc, d), inc, inc, 0)
	}
	h := New(end - 1000)
	goes(t, "no drift", h, 1000, 0)
	h.Drift(-1024)
	goes(t, "at the end, still", h, 0)
	h.Drift(least)
	goes(t, "at the end, far behind", h, 0)
	h.Drift(greatest)
	goes(t, "at the end, far ahead", h, 0)
	tells(t, "at the end", h, end)
}

func TestNil(t *testing.T) {
	var h *Hard
	for _, d := range []int64{0, 1, -2000, 1 << 40, greatest, least} {
		tells(t, "nil", h, 0)
		goes(t, "nil", h, 0, 0)
		h.Drift(d)
		tells(t, "nil with a drift", h, 0)
		goes(t, "nil with a drift", h, 0, 0, 0)
	}
	h.Drift(3)
	goes(t, "one that is none of it", New(10), 1024)
}

// Clocks that are told of by turns do what each would do alone.
func TestClocksDoNotTouchOneAnother(t *testing.T) {
	a, b := New(100), New(100)
	if a == b {
		t.Fatal("two new clocks are one")
	}
	a.Drift(5)
	goes(t, "the other one has a drift", b, 1024)
	goes(t, "its own drift", a, 1029)
	b.Drift(-5)
	goes(t, "its own drift still", a, 1029)
	goes(t, "its own drift", b, 1019)
	tells(t, "the first", a, 2158)
	tells(t, "the second", b, 2143)
	c := New(100)
	tells(t, "a third", c, 100)
	goes(t, "a third", c, 1024)

	next := chance(203)
	var many [40]*Hard
	var alike [40]*plain
	for i := range many {
		at := whole(next)
		many[i], alike[i] = New(at), plainNew(at)
	}
	for range 20000 {
		i := below(next, len(many))
		if below(next, 3) == 0 {
			d := int64(below(next, 3000)) - 1500
			many[i].Drift(d)
			alike[i].drift = d
		} else if got, want := many[i].Tick(), alike[i].tick(); got != want {
			t.Fatalf("clock %d: Tick: %d; wanted %d", i, got, want)
		}
		o := below(next, len(many))
		tells(t, fmt.Sprintf("clock %d, amid clock %d's", o, i), many[o], alike[o].at)
	}
}

// drawn draws a drift of some kind: fair, about one of the edges, or any at all.
func drawn(next func() uint64) int64 {
	switch below(next, 5) {
	case 0:
		return whole(next)
	case 1:
		return -1024 + int64(below(next, 7)) - 3
	case 2:
		return top - 1024 + int64(below(next, 7)) - 3
	}
	return int64(below(next, 129)) - 64
}

// begun draws a time at which a clock begins: any at all, early, or near the end.
func begun(next func() uint64) int64 {
	switch below(next, 4) {
	case 0:
		return whole(next)
	case 1:
		return end - int64(below(next, 8*top))
	}
	return int64(below(next, 1<<40))
}

// Plays by chance: against the chapter read plainly, never back, and always what New told and the sum of what Tick told.
func TestPlaysByChance(t *testing.T) {
	next := chance(204)
	ended := 0
	for range 3000 {
		at := begun(next)
		h, p := New(at), plainNew(at)
		first := h.Now()
		var gone int64
		for range 1 + below(next, 60) {
			if below(next, 4) == 0 {
				d := drawn(next)
				h.Drift(d)
				p.drift = d
				tells(t, "a drift alone", h, p.at)
				continue
			}
			was := h.Now()
			by, want := h.Tick(), p.tick()
			gone += by
			now := h.Now()
			if by != want || now != p.at || now < was || now-was != by || now != first+gone || by < 0 || by > top || now > end {
				t.Fatalf("New(%d), a drift of %d at %d: Tick %d, Now %d; wanted %d, %d", at, p.drift, was, by, now, want, p.at)
			}
		}
		if h.Now() == end {
			ended++
		}
	}
	if ended < 100 || ended > 2000 {
		t.Errorf("%d of 3000 came to the end of time", ended)
	}
}

// P20.4

// A hardware clock never goes back, whatever its drifts are, each behind each other one.
func TestNeverBack(t *testing.T) {
	for _, at := range []int64{0, 1, 1 << 40, end - 4*top, end - 1, end} {
		for _, d := range wild {
			for _, o := range wild {
				h := set(at, d)
				l := []int64{h.Now()}
				for k := range 6 {
					h.Tick()
					l = append(l, h.Now())
					h.Drift([]int64{o, d}[k%2])
					l = append(l, h.Now())
				}
				for k := 1; k < len(l); k++ {
					if l[k] < l[k-1] {
						t.Fatalf("from %d by drifts of %d and %d: %v", at, d, o, l)
					}
				}
			}
		}
	}
}

// keeps is whether a clock went on by so many ticks, rho of each of them more or less at most.
func keeps(t *testing.T, what string, gone, n, rho int64) {
	t.Helper()
	lo, hi := sum(n*1024), sum(n*1024)
	wide := new(big.Int).Mul(big64(n), big64(rho))
	if !within(big64(gone), lo.Sub(lo, wide), hi.Add(hi, wide)) {
		t.Fatalf("%s: %d grains in %d ticks, of a drift of at most %d", what, gone, n, rho)
	}
}

// Far from the end of time, by drifts by chance that are fair.
func TestFairClocksByChance(t *testing.T) {
	next := chance(205)
	for range 3000 {
		rho := int64(below(next, 65))
		if below(next, 4) == 0 {
			rho = whole(next) & greatest
		}
		lean := below(next, 3)
		h := New(int64(below(next, 1<<50)))
		first := h.Now()
		for n := range int64(1 + below(next, 200)) {
			d := fair(next, rho, lean)
			if !Fair(d, rho) {
				t.Fatalf("%d is not fair for %d", d, rho)
			}
			h.Drift(d)
			h.Tick()
			keeps(t, "by chance", h.Now()-first, n+1, rho)
		}
	}
}

// fair draws a drift that is fair: a lean one is often as far ahead, or behind, as may be.
func fair(next func() uint64, rho int64, lean int) int64 {
	if lean > 0 && below(next, 3) > 0 {
		return []int64{rho, -rho}[lean-1]
	}
	d := int64(next()<<8^next()) & greatest
	if rho < greatest {
		d %= rho + 1
	}
	if below(next, 2) == 0 {
		return -d
	}
	return d
}

// The worst ones: all ticks wrong by rho, the one way and the other. No narrower bound would do for them.
func TestWorstClocks(t *testing.T) {
	for rho := int64(0); rho <= 1024; rho++ {
		first, last := New(1<<30), New(1<<30)
		for n := int64(1); n <= 100; n++ {
			first.Drift(rho)
			last.Drift(-rho)
			first.Tick()
			last.Tick()
			ahead, behind := first.Now()-1<<30, last.Now()-1<<30
			keeps(t, "ahead", ahead, n, rho)
			keeps(t, "behind", behind, n, rho)
			if ahead != n*1024+n*rho || behind != n*1024-n*rho {
				t.Fatalf("a drift of %d: %d and %d in %d ticks", rho, ahead, behind, n)
			}
		}
	}
}

// A clock whose drift is unfair by one grain is beyond the bound from the first tick on.
func TestUnfairClocks(t *testing.T) {
	for rho := int64(0); rho <= 64; rho++ {
		for _, d := range []int64{rho + 1, -rho - 1} {
			h := set(0, d)
			for n := int64(1); n <= 50; n++ {
				h.Tick()
				if off := h.Now() - n*1024; off >= -n*rho && off <= n*rho || Fair(d, rho) {
					t.Fatalf("a drift of %d, at most %d: off by %d in %d ticks", d, rho, off, n)
				}
			}
		}
	}
}

// comes is whether a clock that goes on by slow at least, as a drift drawn at each tick has it, has gone on by so many grains behind Ticks.
func comes(t *testing.T, grains, slow int64, drift func() int64) {
	t.Helper()
	h := New(0)
	n := Ticks(grains, slow)
	for range n {
		h.Drift(drift())
		if by := h.Tick(); by < slow {
			t.Fatalf("it went on by %d, less than %d", by, slow)
		}
	}
	if h.Now() < grains {
		t.Fatalf("Ticks(%d, %d): %d, and the clock went on by %d", grains, slow, n, h.Now())
	}
}

func TestTicksAreEnoughForTheSlowest(t *testing.T) {
	for _, slow := range []int64{1, 2, 3, 500, 703, 704, 705, 991, 1022, 1023, 1024, 1025, 1344, 5000, top - 1, top} {
		for n := int64(0); n <= 30; n++ {
			for _, grains := range []int64{n*slow - 1, n * slow, n*slow + 1, n*slow + slow/2, n*slow + slow - 1} {
				comes(t, grains, slow, func() int64 { return slow - 1024 })
			}
		}
	}
}

func TestTicksAreEnoughByChance(t *testing.T) {
	next := chance(206)
	for range 20000 {
		slow := int64(1 + below(next, 1500))
		if below(next, 3) == 0 {
			slow = Slow(int64(below(next, 65)), int64(1+below(next, 256)))
		}
		more := 1 + below(next, 300)
		comes(t, int64(below(next, int(100*slow))), slow, func() int64 { return slow - 1024 + int64(below(next, more)) })
	}
}

// A slewed clock goes on by Slow at least: by so many grains, too.
func TestTicksAreEnoughForSlewedClocks(t *testing.T) {
	for rho := int64(0); rho <= 64; rho++ {
		for _, slew := range []int64{1, 2, 32, 255, 256} {
			for _, grains := range []int64{0, 1, 703, 704, 1024, 8712, 100000} {
				h := set(0, -rho)
				var at int64
				for range Ticks(grains, Slow(rho, slew)) {
					at += h.Tick() - slew
				}
				if at < grains {
					t.Fatalf("a drift of %d, slewing %d: %d grains of %d", rho, slew, at, grains)
				}
			}
		}
	}
}

// For any grains up to the end of time, and any slow at all: so many ticks of slow come to more than one of them beyond the grains, and to two at most.
func TestTicksAreEnoughAllOver(t *testing.T) {
	next := chance(207)
	for k := range 100000 {
		grains, slow := whole(next)&(end-1), whole(next)&greatest|1
		if k%7 == 0 {
			grains = end
		}
		far := new(big.Int).Mul(big64(Ticks(grains, slow)), big64(slow))
		lo := sum(grains, slow)
		if hi := sum(grains, slow, slow); far.Cmp(lo) <= 0 || far.Cmp(hi) > 0 {
			t.Fatalf("Ticks(%d, %d): %d", grains, slow, Ticks(grains, slow))
		}
	}
}

// The readings of the chapter that all is held against, by hand.
func TestPlain(t *testing.T) {
	if !plainGood(0, 1) || !plainGood(64, 256) || plainGood(-1, 1) || plainGood(65, 1) || plainGood(0, 0) || plainGood(0, 257) {
		t.Error("plainGood")
	}
	if plainFast(1, 32) != 1057 || plainSlow(1, 32) != 991 || plainFast(65, 1) != 0 || plainSlow(0, 0) != 0 {
		t.Error("plainFast, plainSlow")
	}
	if plainTicks(2000, 991) != 4 || plainTicks(-1, 5) != 0 || plainTicks(5, 0) != 0 || plainTicks(greatest, 1) != end+2 {
		t.Error("plainTicks")
	}
	if plainInc(-5) != 1019 || plainInc(greatest) != top || plainInc(least) != 0 {
		t.Error("plainInc")
	}
	if !plainFair(-3, 3) || plainFair(4, 3) || plainFair(0, -1) || plainFair(least, least) || plainFair(least, greatest) {
		t.Error("plainFair")
	}
	p := plainNew(end - 1500)
	if p.tick() != 1024 || p.tick() != 476 || p.tick() != 0 || p.at != end || plainNew(-1).at != 0 || plainNew(greatest).at != end {
		t.Error("plain")
	}
}
