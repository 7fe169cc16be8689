package drift

import (
	"fmt"
	"math"
	"math/big"
	"slices"
	"testing"

	"angelus/api"
	"angelus/clock"
	"angelus/rate"
)

const (
	least    = math.MinInt64
	greatest = math.MaxInt64
	end      = 1 << 60 // the end of time
	all      = api.Set(math.MaxUint64)
)

// ends are the clocks and ticks that the chapter names, and those beside them.
var ends = []int64{least, -1, 0, 1, end - 1, end, end + 1, greatest}

// rates are ends of slow and fast. Products of some of them with ticks go round, some of those to small numbers.
var rates = []int64{
	least, least + 1, -1 << 62, -end - 1, -end, -end + 1, -1 << 59, -1<<32 - 1, -1 << 32, -1<<32 + 1, -1024, -2, -1,
	0, 1, 2, 3, 991, 1024, 1057, 1 << 31, 1<<32 - 1, 1 << 32, 1<<32 + 1, 1 << 59, end - 1, end, end + 1, 1 << 62, 1<<62 + 1, greatest - 1, greatest,
}

// spans are how many ticks may lie between two Notes.
var spans = []int64{1, 2, 3, 4, 5, 7, 8, 16, 1000, 1 << 31, 1<<32 - 1, 1 << 32, 1<<32 + 1, 1 << 59, end - 1, end}

// wild are numbers all over int64.
var wild = []int64{
	least, least + 1, least + end, -1 << 62, -end - 1, -end, -end + 1, -1 << 53, -1 << 40, -1<<32 - 1, -1 << 32, -1<<32 + 1, math.MinInt32,
	-1 << 16, -1025, -1024, -1023, -100, -11, -10, -9, -3, -2, -1, 0, 1, 2, 3, 9, 10, 11, 100, 1023, 1024, 1025, 1 << 16, math.MaxInt32,
	1 << 31, 1<<32 - 1, 1 << 32, 1<<32 + 1, 1 << 40, 1 << 53, 1 << 59, end - 1024, end - 2, end - 1, end, end + 1, end + 2, 2*end - 1, 2 * end,
	1 << 62, greatest - end, greatest - 1, greatest,
}

// chance answers numbers of no rule, the same ones each time.
func chance(x uint64) func() uint64 {
	return func() uint64 {
		x ^= x << 13
		x ^= x >> 7
		x ^= x << 17
		return x >> 8
	}
}

// below draws a number from 0 on below n.
func below(next func() uint64, n int) int { return int(next() % uint64(n)) }

// from draws a number from lo to hi.
func from(next func() uint64, lo, hi int64) int64 {
	return lo + int64((next()<<8^next())%(uint64(hi)-uint64(lo)+1))
}

// whole draws a number out of the whole of int64, most of them by few bits.
func whole(next func() uint64) int64 {
	switch below(next, 4) {
	case 0:
		return wild[below(next, len(wild))]
	case 1:
		return wild[below(next, len(wild))] + int64(below(next, 5)) - 2 // it may go round: that is a number, too
	}
	return int64(next()<<8^next()) >> below(next, 64)
}

// bits draws a set: of all nodes, of few, of those ahead of some node, or of any.
func bits(next func() uint64) api.Set {
	any := api.Set(next()<<40 ^ next())
	switch below(next, 5) {
	case 0:
		return all
	case 1:
		return any & api.Set(next()<<40^next()) & api.Set(next()<<40^next())
	case 2:
		return all >> below(next, 64)
	}
	return any
}

// set adds up what each node's bit counts.
func set(l ...int) api.Set {
	var s api.Set
	for _, i := range l {
		bit := api.Set(1)
		for range i {
			bit *= 2
		}
		s |= bit
	}
	return s
}

// in is whether a node is in a set, told by halving it.
func in(s api.Set, i int) bool {
	for range i {
		s /= 2
	}
	return s%2 == 1
}

// same is n clocks that all tell x.
func same(n int, x int64) []int64 {
	l := make([]int64, n)
	for k := range l {
		l[k] = x
	}
	return l
}

// some is a list as text, or the beginning of a long one.
func some(l []int64) string {
	if len(l) > 12 {
		return fmt.Sprintf("%v and so on, %d of them", l[:12], len(l))
	}
	return fmt.Sprint(l)
}

// The chapter, read plainly.

// within is a number that is kept from 0 to the end of time.
func within(x int64) int64 {
	switch {
	case x < 0:
		return 0
	case x > end:
		return end
	}
	return x
}

// times is a product without an end.
func times(a, b int64) *big.Int { return new(big.Int).Mul(big.NewInt(a), big.NewInt(b)) }

// page is one Note: when, what each clock told, how far the farthest two were apart, and which ones were out of pace.
type page struct {
	tick   int64
	clocks map[int]int64
	gap    int64
	pace   []int
}

// plain is a watch that keeps all Notes, and asks them all each time.
type plain struct {
	eps, slow, fast int64
	book            []page
}

// out is whether a clock is out of pace that went on by so much in so many ticks.
func (p *plain) out(by, ticks int64) bool {
	went := big.NewInt(by)
	return went.Cmp(times(ticks, p.slow)) < 0 || went.Cmp(times(ticks, p.fast)) > 0
}

func (p *plain) isApart(x page) bool {
	if p.eps < 0 {
		return x.gap > 0
	}
	return x.gap > p.eps
}

func (p *plain) note(tick int64, l []int64, s api.Set) bool {
	x := page{tick: within(tick), clocks: map[int]int64{}}
	for i, told := range l {
		if i < 64 && in(s, i) {
			x.clocks[i] = within(told)
		}
	}
	for _, a := range x.clocks {
		for _, b := range x.clocks {
			x.gap = max(x.gap, a-b)
		}
	}
	if len(p.book) > 0 {
		last := p.book[len(p.book)-1]
		for i, told := range x.clocks {
			was, had := last.clocks[i]
			if ticks := x.tick - last.tick; had && ticks >= 1 && p.out(told-was, ticks) {
				x.pace = append(x.pace, i)
			}
		}
	}
	p.book = append(p.book, x)
	return !p.isApart(x) && len(x.pace) == 0
}

func (p *plain) worst() (gap, tick int64) {
	for _, x := range slices.Backward(p.book) {
		if x.gap >= gap && x.gap > 0 {
			gap, tick = x.gap, x.tick
		}
	}
	return gap, tick
}

func (p *plain) count() (apart, pace int) {
	for _, x := range p.book {
		if p.isApart(x) {
			apart++
		}
		pace += len(x.pace)
	}
	return apart, pace
}

// step is a Note that is to be made.
type step struct {
	tick int64
	l    []int64
	s    api.Set
}

func (x step) String() string { return fmt.Sprintf("Note(%d, %s, %x)", x.tick, some(x.l), uint64(x.s)) }

// pair is a watch, and the same one read plainly.
type pair struct {
	w    *Watch
	p    *plain
	said []step
}

func made(eps, slow, fast int64) *pair {
	return &pair{w: New(eps, slow, fast), p: &plain{eps: eps, slow: slow, fast: fast}}
}

func (x *pair) String() string {
	said := x.said
	if len(said) > 4 {
		said = said[len(said)-4:]
	}
	return fmt.Sprintf("New(%d, %d, %d), %d notes, at last %v", x.p.eps, x.p.slow, x.p.fast, len(x.said), said)
}

// note makes a Note of both; whether they answer the same, and tell the same behind it.
func (x *pair) note(t *testing.T, tick int64, l []int64, s api.Set) bool {
	t.Helper()
	was := slices.Clone(l)
	x.said = append(x.said, step{tick, was, s})
	got, want := x.w.Note(tick, l, s), x.p.note(tick, l, s)
	if got != want {
		t.Fatalf("%v: %t; wanted %t", x, got, want)
	}
	if !slices.Equal(l, was) {
		t.Fatalf("%v changed what it was handed: %s", x, some(l))
	}
	apart, pace := x.p.count()
	gap, at := x.p.worst()
	tells(t, x, x.w, apart, pace, gap, at)
	return got
}

// tells is whether a watch tells so much, however often it is asked.
func tells(t *testing.T, what fmt.Stringer, w *Watch, apart, pace int, gap, tick int64) {
	t.Helper()
	for range 2 {
		if a, p := w.Count(); a != apart || p != pace {
			t.Fatalf("%v: Count: %d, %d; wanted %d, %d", what, a, p, apart, pace)
		}
		if g, at := w.Worst(); g != gap || at != tick {
			t.Fatalf("%v: Worst: %d, %d; wanted %d, %d", what, g, at, gap, tick)
		}
		if got := w.Fine(); got != (apart == 0 && pace == 0) {
			t.Fatalf("%v: Fine: %t, with %d and %d", what, got, apart, pace)
		}
	}
}

// A line is a Note by hand: what it answers, and what the watch tells behind it.
type line struct {
	step
	fine        bool
	apart, pace int
	gap, at     int64
}

// hand is whether a watch answers each line as it must.
func hand(t *testing.T, eps, slow, fast int64, lines ...line) {
	t.Helper()
	x := made(eps, slow, fast)
	tells(t, x, x.w, 0, 0, 0, 0)
	for _, y := range lines {
		if got := x.note(t, y.tick, y.l, y.s); got != y.fine {
			t.Fatalf("%v: %t; wanted %t", x, got, y.fine)
		}
		tells(t, x, x.w, y.apart, y.pace, y.gap, y.at)
	}
}

// play makes Notes of a new watch, each held against the chapter read plainly.
func play(t *testing.T, eps, slow, fast int64, steps ...step) *pair {
	t.Helper()
	x := made(eps, slow, fast)
	for _, y := range steps {
		x.note(t, y.tick, y.l, y.s)
	}
	return x
}

// went is a Note at a tick, and one so many ticks behind it, by which one clock went on by so much; whether it is in pace.
func went(t *testing.T, slow, fast, tick, ticks, at, by int64) bool {
	t.Helper()
	x := made(greatest, slow, fast)
	x.note(t, tick, []int64{at}, 1)
	return x.note(t, tick+ticks, []int64{at + by}, 1)
}

// start is what a clock tells that is to go on by so much and to stay within the ends of time, the least such.
func start(by int64) int64 { return max(0, -by) }

// The limits that the chapter goes by, and the readings that all is held against, by hand.
func TestPlain(t *testing.T) {
	if api.MaxTime != end || api.MaxNodes != 64 {
		t.Error("limits")
	}
	if within(least) != 0 || within(-1) != 0 || within(7) != 7 || within(end) != end || within(end+1) != end || within(greatest) != end {
		t.Error("within")
	}
	if set(0, 63) != 1<<63+1 || !in(5, 2) || in(5, 1) || !in(all, 63) || set() != 0 {
		t.Error("set, in")
	}
	p := &plain{eps: 10, slow: 1, fast: 3}
	if !p.note(1, []int64{5, 9}, 3) || !p.note(2, []int64{8, 10}, 3) || p.note(3, []int64{8, 12}, 3) || p.note(4, []int64{9, 20}, 3) {
		t.Error("note")
	}
	if apart, pace := p.count(); apart != 1 || pace != 2 {
		t.Error("count", apart, pace)
	}
	if gap, tick := p.worst(); gap != 11 || tick != 4 {
		t.Error("worst", gap, tick)
	}
	if p.out(4, 4) || !p.out(3, 4) || p.out(12, 4) || !p.out(13, 4) {
		t.Error("out")
	}
}

// The chapter's example.
func TestExample(t *testing.T) {
	hand(t, 10, 1, 3,
		line{step{1, []int64{5, 9}, 3}, true, 0, 0, 4, 1},
		line{step{2, []int64{8, 10}, 3}, true, 0, 0, 4, 1},
		line{step{3, []int64{8, 12}, 3}, false, 0, 1, 4, 1})
}

// P28.1

// Eps: below 0 counts as 0. Clocks are apart by just as much, by one less and by one more.
func TestEps(t *testing.T) {
	for _, eps := range []int64{least, least + 1, -end, -2, -1, 0, 1, 2, 3, 1000, 1 << 32, end - 2, end - 1, end, end + 1, greatest - 1, greatest} {
		for _, gap := range []int64{0, 1, 2, eps - 1, eps, eps + 1, end - 1, end} {
			if gap < 0 || gap > end {
				continue
			}
			for _, low := range []int64{0, 1, (end - gap) / 2, end - gap - 1, end - gap} {
				if low < 0 || low+gap > end {
					continue
				}
				for _, l := range [][]int64{{low, low + gap}, {low + gap, low}, {low, low + gap/2, low + gap}, {low + gap/2, low + gap, low}, {low + gap, low, low + gap/2}} {
					x := made(eps, least, greatest)
					if got, want := x.note(t, 5, l, all), gap <= max(eps, 0); got != want {
						t.Fatalf("%v: %t; wanted %t", x, got, want)
					}
				}
			}
		}
	}
}

func TestEpsByHand(t *testing.T) {
	hand(t, 0, 0, greatest,
		line{step{1, []int64{7, 7, 7}, 7}, true, 0, 0, 0, 0},
		line{step{2, []int64{7, 8, 7}, 7}, false, 1, 0, 1, 2},
		line{step{3, []int64{8, 8, 8}, 7}, true, 1, 0, 1, 2})
	hand(t, -1, 0, greatest,
		line{step{1, []int64{7, 7}, 3}, true, 0, 0, 0, 0},
		line{step{2, []int64{7, 8}, 3}, false, 1, 0, 1, 2})
	hand(t, 1, -1, greatest,
		line{step{1, []int64{7, 8}, 3}, true, 0, 0, 1, 1},
		line{step{2, []int64{9, 7}, 3}, false, 1, 0, 2, 2})
	hand(t, end-1, least, greatest,
		line{step{1, []int64{1, end}, 3}, true, 0, 0, end - 1, 1},
		line{step{2, []int64{end, 0}, 3}, false, 1, 0, end, 2})
	hand(t, end, least, greatest,
		line{step{1, []int64{least, greatest}, 3}, true, 0, 0, end, 1})
}

// Of three clocks and more it is the greatest and the least one that count, wherever they stand.
func TestGapOfMany(t *testing.T) {
	for n := 3; n <= 64; n++ {
		for a := range n {
			b := (a + 1 + a%(n-1)) % n
			l := same(n, 500)
			l[a], l[b] = 490, 511
			for eps, apart := range map[int64]int{20: 1, 21: 0, 22: 0} {
				x := made(eps, 0, 0)
				if got := x.note(t, 9, l, all); got != (apart == 0) {
					t.Fatalf("%v: %t", x, got)
				}
				tells(t, x, x.w, apart, 0, 21, 9)
			}
			x := made(10, 0, 0)
			if !x.note(t, 9, l, all&^set(b)) || x.note(t, 9, l, all&^set(a)) {
				t.Fatal(x)
			}
		}
	}
}

// Slow and fast: a clock goes on by just these ticks times slow, by one less, by just these ticks times fast, by one more, and far beyond.
func TestPace(t *testing.T) {
	for _, ticks := range spans {
		for _, slow := range rates {
			for _, fast := range rates {
				ways := []int64{-end, -end + 1, -1, 0, 1, end - 1, end}
				for _, x := range []int64{slow, fast} {
					if far := times(ticks, x); far.IsInt64() && far.CmpAbs(big.NewInt(end)) <= 0 {
						ways = append(ways, far.Int64()-1, far.Int64(), far.Int64()+1)
					}
				}
				for _, by := range ways {
					if by < -end || by > end {
						continue
					}
					want := times(ticks, slow).Cmp(big.NewInt(by)) <= 0 && times(ticks, fast).Cmp(big.NewInt(by)) >= 0
					for _, tick := range []int64{0, end - ticks} {
						if got := went(t, slow, fast, tick, ticks, start(by), by); got != want {
							t.Fatalf("slow %d, fast %d, by %d in %d ticks: %t", slow, fast, by, ticks, got)
						}
					}
				}
			}
		}
	}
}

func TestPaceByHand(t *testing.T) {
	for _, x := range []struct {
		slow, fast, ticks, by int64
		want                  bool
	}{
		{10, 12, 1, 9, false}, {10, 12, 1, 10, true}, {10, 12, 1, 11, true}, {10, 12, 1, 12, true}, {10, 12, 1, 13, false},
		{10, 12, 3, 29, false}, {10, 12, 3, 30, true}, {10, 12, 3, 36, true}, {10, 12, 3, 37, false}, {10, 12, 3, 12, false},
		{991, 1057, 64, 63423, false}, {991, 1057, 64, 63424, true}, {991, 1057, 64, 67648, true}, {991, 1057, 64, 67649, false},
		{0, 0, 1, 0, true}, {0, 0, 1, 1, false}, {0, 0, 1, -1, false}, {0, 0, end, 0, true}, {0, 0, end, -1, false}, {0, 1, end, end, true},
		{1, 1, end, end, true}, {1, 1, end, end - 1, false}, {1, 1, end - 1, end, false}, {0, 1, end - 1, end, false}, {0, 2, end - 1, end, true},
		{-5, -2, 1, -5, true}, {-5, -2, 1, -6, false}, {-5, -2, 1, -2, true}, {-5, -2, 1, -1, false}, {-5, -2, 1, 0, false}, {-5, -2, 1, 5, false},
		{-5, -2, 3, -15, true}, {-5, -2, 3, -16, false}, {-5, -2, 3, -6, true}, {-5, -2, 3, -5, false},
		{-5, 5, 2, -10, true}, {-5, 5, 2, -11, false}, {-5, 5, 2, 10, true}, {-5, 5, 2, 11, false}, {-1, 1, end, -end, true}, {-1, 1, end, end, true},
		{3, 1, 1, 0, false}, {3, 1, 1, 1, false}, {3, 1, 1, 2, false}, {3, 1, 1, 3, false}, {3, 1, 1, 4, false}, {1, 0, 1, 0, false}, {1, 0, 1, 1, false},
		{least, greatest, 1, end, true}, {least, greatest, 1, -end, true}, {least, greatest, end, -end, true}, {greatest, greatest, 1, end, false},
		{least, least, 1, -end, false}, {greatest, least, 1, 0, false}, {least, -1, 2, -2, true}, {least, -1, 2, -1, false}, {1, greatest, 2, 1, false},
		{1 << 62, greatest, 4, 0, false}, {least, -1 << 62, 4, 0, false}, {1 << 32, greatest, 1 << 32, 0, false}, {1 << 32, greatest, 1 << 32, end, false},
		{least, -1 << 32, 1 << 32, 0, false}, {least, -1 << 32, 1 << 32, -end, false}, {-1 << 32, 1 << 32, 1 << 32, end, true}, {-1 << 32, 1 << 32, 1 << 32, -end, true},
		{0, 1 << 32, 1 << 32, 5, true}, {1<<32 + 1, greatest, 1 << 32, end, false}, {1 << 28, greatest, 1 << 32, end, true}, {1<<28 + 1, greatest, 1 << 32, end, false},
		{0, 1 << 28, 1 << 32, end, true}, {0, 1<<28 - 1, 1 << 32, end, false}, {-1 << 28, 0, 1 << 32, -end, true}, {-1<<28 + 1, 0, 1 << 32, -end, false},
		{0, 3, 2, 7, false}, {0, 3, 2, 6, true}, {0, 3, 2, 5, true}, {3, 9, 2, 5, false}, {3, 9, 2, 6, true}, {-3, 9, 2, -7, false}, {-9, -3, 2, -5, false},
	} {
		for _, tick := range []int64{0, (end - x.ticks) / 2, end - x.ticks} {
			for _, at := range []int64{start(x.by), end - max(0, x.by)} {
				if got := went(t, x.slow, x.fast, tick, x.ticks, at, x.by); got != x.want {
					t.Errorf("slow %d, fast %d, by %d in %d ticks from %d, %d: %t", x.slow, x.fast, x.by, x.ticks, tick, at, got)
				}
			}
		}
	}
}

// All small rates, ticks and ways.
func TestPaceOfFew(t *testing.T) {
	for slow := int64(-4); slow <= 4; slow++ {
		for fast := int64(-4); fast <= 4; fast++ {
			for ticks := int64(1); ticks <= 5; ticks++ {
				for by := int64(-22); by <= 22; by++ {
					if got, want := went(t, slow, fast, 3, ticks, 50, by), by >= ticks*slow && by <= ticks*fast; got != want {
						t.Fatalf("slow %d, fast %d, by %d in %d ticks: %t", slow, fast, by, ticks, got)
					}
				}
			}
		}
	}
}

func TestPaceByChance(t *testing.T) {
	next := chance(281)
	for range 60000 {
		ticks := from(next, 1, 1<<below(next, 61))
		x := made(greatest, whole(next), whole(next))
		by := whole(next) % (end + 1)
		switch near := times(ticks, x.p.slow); {
		case below(next, 2) == 0 && near.CmpAbs(big.NewInt(end-2)) < 0:
			by = near.Int64() + from(next, -2, 2)
		case below(next, 2) == 0 && times(ticks, x.p.fast).CmpAbs(big.NewInt(end-2)) < 0:
			by = ticks*x.p.fast + from(next, -2, 2)
		}
		at, tick := start(by), from(next, 0, end-ticks)
		x.note(t, tick, []int64{at}, 1)
		x.note(t, tick+ticks, []int64{at + by}, 1)
	}
}

// Ticks that stay, go back, go on by one and by many, and go on only ahead of being kept. Where they do not go on no clock
// is out of pace, whatever it tells; where they do the clock that stays is, and so is the one that goes on too far.
func TestTicks(t *testing.T) {
	for _, x := range []struct{ was, is, ticks int64 }{
		{0, 0, 0}, {5, 5, 0}, {end, end, 0}, {6, 5, 0}, {end, 0, 0}, {end, end - 1, 0}, {1, 0, 0}, {greatest, least, 0}, {0, -1, 0}, {1, -1, 0},
		{-2, -1, 0}, {-1, 0, 0}, {least, 0, 0}, {least, least + 1, 0}, {least, -1, 0}, {end, end + 1, 0}, {end + 1, end + 2, 0}, {end, greatest, 0}, {greatest - 1, greatest, 0},
		{0, 1, 1}, {-1, 1, 1}, {least, 1, 1}, {4, 5, 1}, {end - 1, end, 1}, {end - 1, end + 1, 1}, {end - 1, greatest, 1},
		{0, 2, 2}, {4, 11, 7}, {-7, 7, 7}, {end - 5, end + 5, 5}, {0, 1000, 1000}, {0, end, end}, {least, greatest, end}, {-1, end + 1, end}, {1, end, end - 1}, {0, end - 1, end - 1},
	} {
		for _, y := range []struct{ was, is int64 }{
			{0, 0}, {0, 1}, {1, 0}, {0, end}, {end, 0}, {end, end}, {7, 7}, {0, x.ticks - 1}, {0, x.ticks}, {0, x.ticks + 1}, {0, 2 * x.ticks}, {0, 2*x.ticks + 1},
		} {
			w := made(greatest, 1, 2)
			w.note(t, x.was, []int64{y.was}, 1)
			by := within(y.is) - within(y.was)
			if got, want := w.note(t, x.is, []int64{y.is}, 1), x.ticks == 0 || by >= x.ticks && by <= 2*x.ticks; got != want {
				t.Errorf("%v: %t", w, got)
			}
		}
	}
}

func TestTicksByHand(t *testing.T) {
	hand(t, 0, 10, 12, // it stays, goes back, and goes on again from there
		line{step{7, []int64{100}, 1}, true, 0, 0, 0, 0},
		line{step{7, []int64{100}, 1}, true, 0, 0, 0, 0},
		line{step{7, []int64{900}, 1}, true, 0, 0, 0, 0},
		line{step{8, []int64{910}, 1}, true, 0, 0, 0, 0},
		line{step{3, []int64{5}, 1}, true, 0, 0, 0, 0},
		line{step{4, []int64{17}, 1}, true, 0, 0, 0, 0},
		line{step{2, []int64{17}, 1}, true, 0, 0, 0, 0},
		line{step{3, []int64{17}, 1}, false, 0, 1, 0, 0},
		line{step{3, []int64{0}, 1}, true, 0, 1, 0, 0},
		line{step{8, []int64{49}, 1}, false, 0, 2, 0, 0},
		line{step{13, []int64{99}, 1}, true, 0, 2, 0, 0},
		line{step{18, []int64{159}, 1}, true, 0, 2, 0, 0},
		line{step{23, []int64{220}, 1}, false, 0, 3, 0, 0})
	hand(t, 0, 1, 1, // ticks behind the end of time, and ahead of its beginning
		line{step{least, []int64{0}, 1}, true, 0, 0, 0, 0},
		line{step{-1, []int64{77}, 1}, true, 0, 0, 0, 0},
		line{step{0, []int64{5}, 1}, true, 0, 0, 0, 0},
		line{step{end, []int64{greatest}, 1}, false, 0, 1, 0, 0},
		line{step{end + 1, []int64{0}, 1}, true, 0, 1, 0, 0},
		line{step{greatest, []int64{9}, 1}, true, 0, 1, 0, 0},
		line{step{least, []int64{9}, 1}, true, 0, 1, 0, 0},
		line{step{1, []int64{10}, 1}, true, 0, 1, 0, 0})
}

// All pairs of ticks at the ends, with all pairs of clocks there.
func TestEnds(t *testing.T) {
	for _, was := range ends {
		for _, is := range ends {
			for _, a := range ends {
				for _, b := range ends {
					for _, r := range [][2]int64{{0, 0}, {0, 1}, {1, 1}, {-1, 1}, {least, greatest}, {1, end}, {-end, -1}, {end - 1, end}} {
						play(t, 0, r[0], r[1], step{was, []int64{a, b}, 3}, step{is, []int64{b, a}, 3}, step{is, []int64{a, a}, 3})
						play(t, end-1, r[0], r[1], step{was, []int64{a}, 1}, step{is, []int64{b}, 1}, step{was, []int64{a, b}, 3}, step{is, []int64{a, a}, 3})
					}
				}
			}
		}
	}
}

// A clock is kept as it comes in: at the end of time it stays, and is out of pace if it may not.
func TestKept(t *testing.T) {
	hand(t, 1, 1, 3,
		line{step{1, []int64{-7, 1}, 3}, true, 0, 0, 1, 1}, // apart by 1, not by 8
		line{step{2, []int64{2, 2}, 3}, true, 0, 0, 1, 1},  // by 2 from 0, not by 9
		line{step{3, []int64{-1, 0}, 3}, false, 0, 2, 1, 1})
	hand(t, 1, 0, 3,
		line{step{1, []int64{end - 1, greatest}, 3}, true, 0, 0, 1, 1},
		line{step{2, []int64{end + 9, end + 1}, 3}, true, 0, 0, 1, 1},
		line{step{3, []int64{greatest, end}, 3}, true, 0, 0, 1, 1})
	hand(t, 1, 1, 3,
		line{step{1, []int64{end - 1, greatest - 1}, 3}, true, 0, 0, 1, 1},
		line{step{2, []int64{end + 9, greatest}, 3}, false, 0, 1, 1, 1}, // the second one stays at the end of time
		line{step{3, []int64{greatest, greatest}, 3}, false, 0, 3, 1, 1})
}

// Of no clock: nil and an empty list, an empty set, a set with only nodes that are no clock of the list.
func TestNoClock(t *testing.T) {
	none := []step{{0, nil, 0}, {0, nil, all}, {0, []int64{}, 3}, {0, []int64{1, 2}, 0}, {0, []int64{1, 2}, 4}, {0, []int64{1, 2}, all - 3}, {0, []int64{5}, set(63)}, {0, same(63, 7), set(63)}, {0, same(70, 7), 0}}
	for _, eps := range []int64{least, 0, greatest} {
		for _, x := range none {
			for _, y := range none {
				w := made(eps, 5, 5)
				x.tick, y.tick = 4, 9
				if !w.note(t, x.tick, x.l, x.s) || !w.note(t, y.tick, y.l, y.s) || !w.note(t, 10, []int64{500}, 1) || !w.note(t, 11, []int64{505}, 1) {
					t.Fatal(w)
				}
				// Behind a Note of no clock none is out of pace; the one behind that goes by it again.
				if !w.note(t, 12, x.l, x.s) || !w.note(t, 13, []int64{0, 0}, 3) || w.note(t, 14, []int64{5, 6}, 3) {
					t.Fatal(w)
				}
				if apart, pace := w.w.Count(); pace != 1 || apart != 1 && eps < 1 || apart != 0 && eps > 0 {
					t.Fatal(w, apart, pace)
				}
			}
		}
	}
}

// Of one clock: it is never apart from itself.
func TestOneClock(t *testing.T) {
	for i := range 64 {
		l := make([]int64, i+1)
		for _, eps := range []int64{-1, 0} {
			w := made(eps, 2, 3)
			l[i] = 100
			if !w.note(t, 1, l, set(i)) {
				t.Fatal(w)
			}
			for _, x := range []struct {
				tick, told int64
				want       bool
			}{{2, 102, true}, {3, 103, false}, {4, 106, true}, {5, 110, false}, {7, 114, true}, {8, 0, false}} {
				l[i] = x.told
				if got := w.note(t, x.tick, l, set(i)); got != x.want {
					t.Fatal(w, got)
				}
			}
			tells(t, w, w.w, 0, 3, 0, 0)
		}
	}
}

// Lists of no clock, of one, of some, of 64 and of more, with all sets of few and of many nodes. From the 64th on none is in any.
func TestMany(t *testing.T) {
	for _, n := range []int{0, 1, 2, 3, 5, 33, 62, 63, 64, 65, 66, 100, 127, 128, 129, 130} {
		for _, s := range []api.Set{0, 1, 2, 3, set(0, 63), set(63), set(62, 63), set(0, 1, 31, 32, 62), all / 2, all - 1, all} {
			first, second, third := make([]int64, n), make([]int64, n), make([]int64, n)
			for p := range n {
				first[p] = int64(p) * int64(p)
				second[p] = first[p] + int64(p)%7
				third[p] = second[p] + int64(p)%5
			}
			for p := 64; p < n; p++ { // they would be apart, and out of pace
				first[p], second[p], third[p] = end, 0, end
			}
			for _, eps := range []int64{0, 3969, 3844, 1000} {
				play(t, eps, 1, 4, step{10, first, s}, step{11, second, s}, step{12, third, s}, step{14, third, all}, step{15, first, s})
			}
		}
	}
	l, m := same(130, 7), same(130, 8)
	for p := 64; p < 130; p++ {
		l[p], m[p] = int64(p)*1000, 0
	}
	hand(t, 0, 1, 1,
		line{step{1, l, all}, true, 0, 0, 0, 0},
		line{step{2, m, all}, true, 0, 0, 0, 0},
		line{step{3, l, all}, false, 0, 64, 0, 0},
		line{step{4, m[:64], all}, true, 0, 64, 0, 0},
		line{step{5, l[:65], all}, false, 0, 128, 0, 0})
}

// Each node is a clock of its own: the one that goes too far is counted, and no other, whatever others tell.
func TestEachNode(t *testing.T) {
	for n := 1; n <= 66; n++ {
		for p := range n {
			first, second := make([]int64, n), make([]int64, n)
			for q := range n {
				first[q], second[q] = int64(q)*100, int64(q)*100+10
			}
			second[p]++
			x := made(end, 10, 10)
			if !x.note(t, 1, first, all) {
				t.Fatal(x)
			}
			if got := x.note(t, 2, second, all); got != (p > 63) {
				t.Fatalf("%v, of %d clocks the %dth: %t", x, n, p, got)
			}
			y := made(end, 10, 10)
			if y.note(t, 1, first, all); p < 64 && !y.note(t, 2, second, all&^set(p)) {
				t.Fatalf("%v, of %d clocks not the %dth", y, n, p)
			}
		}
	}
}

// The first Note of all: none is out of pace, whenever it is, and whatever the clocks tell.
func TestFirst(t *testing.T) {
	for _, tick := range wild {
		for _, told := range wild {
			for _, r := range [][2]int64{{1, 1}, {greatest, least}, {greatest, greatest}, {least, least}, {0, 0}} {
				x := made(0, r[0], r[1])
				if !x.note(t, tick, []int64{told, told}, 3) {
					t.Fatal(x)
				}
				tells(t, x, x.w, 0, 0, 0, 0)
			}
		}
	}
}

// A clock that the last Note did not tell is not out of pace, though the one ahead of it told it; nor is one that is not told now.
func TestOnlyTheLast(t *testing.T) {
	hand(t, greatest, 10, 10,
		line{step{1, []int64{100, 200}, 3}, true, 0, 0, 100, 1},
		line{step{2, []int64{110, 0}, 1}, true, 0, 0, 100, 1},   // the second one is not told
		line{step{3, []int64{120, 205}, 3}, true, 0, 0, 100, 1}, // it was not at the last Note
		line{step{4, []int64{0, 215}, 2}, true, 0, 0, 100, 1},
		line{step{5, []int64{7, 225}, 3}, true, 0, 0, 218, 5},
		line{step{6, []int64{17}, 3}, true, 0, 0, 218, 5}, // the list does not have it
		line{step{7, []int64{27, 0}, 3}, true, 0, 0, 218, 5},
		line{step{8, []int64{37, 9}, 3}, false, 0, 1, 218, 5},
		line{step{9, []int64{46, 19}, 3}, false, 0, 2, 218, 5})
	hand(t, greatest, 10, 10, // as many clocks, but none that was told
		line{step{1, []int64{100, 200, 300, 400}, 3}, true, 0, 0, 100, 1},
		line{step{2, []int64{100, 200, 300, 400}, 12}, true, 0, 0, 100, 1},
		line{step{3, []int64{100, 200, 300, 400}, 3}, true, 0, 0, 100, 1},
		line{step{4, []int64{100, 210, 310, 400}, 6}, true, 0, 0, 100, 1},
		line{step{5, []int64{100, 220, 310, 400}, 12}, false, 0, 1, 100, 1})
	hand(t, greatest, 10, 10, // back, but at once
		line{step{1, []int64{100}, 1}, true, 0, 0, 0, 0},
		line{step{1, nil, 1}, true, 0, 0, 0, 0},
		line{step{2, []int64{100}, 1}, true, 0, 0, 0, 0},
		line{step{3, nil, 0}, true, 0, 0, 0, 0},
		line{step{4, []int64{100}, 1}, true, 0, 0, 0, 0},
		line{step{5, []int64{100}, 1}, false, 0, 1, 0, 0})
}

// It is the last Note that counts, also where its clocks were apart or out of pace, and where it told no clock.
func TestTheLastCounts(t *testing.T) {
	hand(t, 10, 10, 12,
		line{step{1, []int64{100, 100}, 3}, true, 0, 0, 0, 0},
		line{step{2, []int64{500, 112}, 3}, false, 1, 1, 388, 2}, // apart, and the first one out of pace
		line{step{3, []int64{510, 504}, 3}, false, 1, 2, 388, 2}, // the first one goes on from there
		line{step{4, []int64{522, 514}, 3}, true, 1, 2, 388, 2},
		line{step{5, []int64{122, 114}, 3}, false, 1, 4, 388, 2}, // both went back
		line{step{6, []int64{132, 126}, 3}, true, 1, 4, 388, 2},
		line{step{6, []int64{932, 926}, 3}, true, 1, 4, 388, 2}, // within one tick
		line{step{7, []int64{943, 937}, 3}, true, 1, 4, 388, 2},
		line{step{8, []int64{0, 0}, 0}, true, 1, 4, 388, 2}, // none
		line{step{9, []int64{40, 44}, 3}, true, 1, 4, 388, 2},
		line{step{11, []int64{60, 68}, 3}, true, 1, 4, 388, 2}, // two ticks
		line{step{12, []int64{70, 81}, 3}, false, 2, 5, 388, 2})
	hand(t, 10, 10, 12, // the tick of a Note of no clock is not that of the last clocks
		line{step{1, []int64{100}, 1}, true, 0, 0, 0, 0},
		line{step{9, nil, 0}, true, 0, 0, 0, 0},
		line{step{3, []int64{500}, 1}, true, 0, 0, 0, 0},
		line{step{4, []int64{511}, 1}, true, 0, 0, 0, 0},
		line{step{5, []int64{511}, 1}, false, 0, 1, 0, 0})
}

// Several clocks out of pace at one Note; clocks that are apart and out of pace at one Note.
func TestSeveral(t *testing.T) {
	hand(t, 1000, 10, 12,
		line{step{1, []int64{100, 100, 100, 100, 100}, 31}, true, 0, 0, 0, 0},
		line{step{2, []int64{109, 110, 112, 113, 50}, 31}, false, 0, 3, 63, 2},
		line{step{3, []int64{119, 120, 121, 122, 123}, 31}, false, 0, 6, 63, 2},
		line{step{4, []int64{119, 120, 121, 122, 123}, 31}, false, 0, 11, 63, 2},
		line{step{5, []int64{119, 130, 121, 122, 123}, 7}, false, 0, 13, 63, 2})
	hand(t, 3, 10, 12,
		line{step{1, []int64{100, 100}, 3}, true, 0, 0, 0, 0},
		line{step{2, []int64{109, 113}, 3}, false, 1, 2, 4, 2},
		line{step{3, []int64{119, 124}, 3}, false, 2, 2, 5, 3}, // apart alone
		line{step{4, []int64{120, 122}, 3}, false, 2, 4, 5, 3}, // out of pace alone
		line{step{5, []int64{130, 133}, 3}, true, 2, 4, 5, 3},
		line{step{5, []int64{0, end}, 3}, false, 3, 4, end, 5})
	x := made(0, 1, 1)
	for n := range int64(50) { // all 64 out of pace at each Note but the first one
		x.note(t, n, same(64, n%2), all)
	}
	y := made(0, 2, 2)
	for n := range int64(50) {
		y.note(t, n, same(64, n%2), all)
	}
	tells(t, x, x.w, 0, 24*64, 0, 0)
	tells(t, y, y.w, 0, 49*64, 0, 0)
}

// P28.2

func TestWorst(t *testing.T) {
	hand(t, 100, least, greatest, // the gap counts also within eps; the first tick of as much stays
		line{step{3, []int64{5, 5}, 3}, true, 0, 0, 0, 0},
		line{step{4, []int64{9, 2}, 1}, true, 0, 0, 0, 0},
		line{step{5, nil, 3}, true, 0, 0, 0, 0},
		line{step{6, []int64{5, 8}, 3}, true, 0, 0, 3, 6},
		line{step{7, []int64{8, 5}, 3}, true, 0, 0, 3, 6},
		line{step{8, []int64{5, 7}, 3}, true, 0, 0, 3, 6},
		line{step{9, []int64{5, 9}, 3}, true, 0, 0, 4, 9},
		line{step{2, []int64{9, 5}, 3}, true, 0, 0, 4, 9}, // at a lesser tick, but behind it
		line{step{2, []int64{0, 5}, 3}, true, 0, 0, 5, 2},
		line{step{10, []int64{0, 101}, 3}, false, 1, 0, 101, 10},
		line{step{11, []int64{101, 0}, 3}, false, 2, 0, 101, 10},
		line{step{12, []int64{0, 100}, 3}, true, 2, 0, 101, 10},
		line{step{13, []int64{least, greatest}, 3}, false, 3, 0, end, 13},
		line{step{14, []int64{0, end}, 3}, false, 4, 0, end, 13})
	for _, tick := range wild { // the tick is kept
		x := made(5, least, greatest)
		x.note(t, tick, []int64{1, 3}, 3)
		tells(t, x, x.w, 0, 0, 2, within(tick))
		x.note(t, 8, []int64{1, 3}, 3)
		tells(t, x, x.w, 0, 0, 2, within(tick))
	}
	hand(t, 0, least, greatest, // the first one is at the tick 0, or counts as such
		line{step{0, []int64{5, 8}, 3}, false, 1, 0, 3, 0},
		line{step{1, []int64{5, 8}, 3}, false, 2, 0, 3, 0})
	hand(t, 0, least, greatest,
		line{step{-9, []int64{5, 8}, 3}, false, 1, 0, 3, 0},
		line{step{0, []int64{5, 8}, 3}, false, 2, 0, 3, 0},
		line{step{end + 5, []int64{5, 9}, 3}, false, 3, 0, 4, end},
		line{step{end, []int64{5, 9}, 3}, false, 4, 0, 4, end},
		line{step{9, []int64{5, 9}, 3}, false, 5, 0, 4, end})
}

// Noughts, as long as no two clocks were apart at all, whatever the ticks.
func TestWorstOfNone(t *testing.T) {
	next := chance(282)
	x := made(0, 1, 1)
	for range 200 {
		x.note(t, whole(next), same(below(next, 70), whole(next)), bits(next))
		if gap, tick := x.w.Worst(); gap != 0 || tick != 0 {
			t.Fatal(x, gap, tick)
		}
	}
}

// One for a Note whose clocks were apart, however many, however often.
func TestCountApart(t *testing.T) {
	for n := 2; n <= 65; n++ {
		l := make([]int64, n)
		for p := range l {
			l[p] = int64(p) * 1000
		}
		x := made(999, 0, 0)
		for k := range int64(20) {
			if x.note(t, k, l, all) {
				t.Fatal(x)
			}
			tells(t, x, x.w, int(k)+1, 0, int64(min(n, 64)-1)*1000, 0)
		}
	}
}

// Fine: just as long as both are 0, and never again.
func TestFine(t *testing.T) {
	for _, x := range []step{{2, []int64{10, 12}, 3}, {2, []int64{9, 10}, 3}, {2, []int64{11, 12}, 3}, {2, []int64{0, 0}, 3}, {2, []int64{9, 50}, 3}} {
		w := made(1, 10, 11)
		if !w.w.Fine() || !w.note(t, 1, []int64{0, 0}, 3) || !w.w.Fine() {
			t.Fatal(w)
		}
		if w.note(t, x.tick, x.l, x.s) || w.w.Fine() {
			t.Fatal(w)
		}
		for k := range int64(5) {
			if !w.note(t, 1, nil, 0) || !w.note(t, 1, []int64{0, 0}, 3) || !w.note(t, 1, nil, 0) || !w.note(t, k, []int64{5, 5}, 3) || w.w.Fine() {
				t.Fatal(w)
			}
		}
	}
}

// Each answer, against the chapter read plainly.

// All plays of three Notes at few ticks, of few clocks, each from the same watch.
func TestAllShortPlays(t *testing.T) {
	var steps []step
	for _, tick := range []int64{0, 1, 3} {
		for _, l := range [][]int64{nil, {0}, {2}, {0, 1}, {1, 0}, {2, 2}, {0, 3}, {5, 4}} {
			for s := range api.Set(4) {
				steps = append(steps, step{tick, l, s})
			}
		}
	}
	for _, x := range steps {
		for _, y := range steps {
			head := play(t, 1, 1, 2, x, y)
			for _, z := range steps {
				w := *head.w // all that a watch keeps stands in it
				tail := pair{&w, &plain{1, 1, 2, slices.Clone(head.p.book)}, slices.Clone(head.said)}
				tail.note(t, z.tick, z.l, z.s)
			}
		}
	}
}

// clocks draws what n clocks tell: all over int64, near one another, near an end, or out of few.
func clocks(next func() uint64, n int) []int64 {
	kind, about := below(next, 6), from(next, 0, end)
	l := make([]int64, n)
	for k := range l {
		switch kind {
		case 0:
			l[k] = whole(next)
		case 1, 2:
			l[k] = about + from(next, -9, 9)
		case 3:
			l[k] = end + from(next, -4, 4)
		case 4:
			l[k] = ends[below(next, len(ends))]
		default:
			l[k] = from(next, -2, 4)
		}
	}
	return l
}

// draw draws the Note that comes behind one: most of them a little later, of the clocks a little farther on.
func draw(next func() uint64, was step, n int) step {
	if below(next, 5) == 0 {
		return step{whole(next), clocks(next, below(next, n+1)), bits(next)}
	}
	x := step{was.tick, slices.Clone(was.l), was.s}
	if by := from(next, -1, 3); x.tick < greatest-3 && x.tick > least {
		x.tick += by
	}
	for k := range x.l {
		if x.l[k] < greatest-99 && x.l[k] > least+99 {
			x.l[k] += from(next, -2, 5)
		}
	}
	switch below(next, 6) {
	case 0:
		x.l = append(x.l, clocks(next, 1)...)
	case 1:
		x.l = x.l[:below(next, len(x.l)+1)]
	case 2:
		x.s ^= bits(next)
	}
	return x
}

// watch draws one: most of them of small numbers.
func watch(next func() uint64) *pair {
	if below(next, 4) == 0 {
		return made(whole(next), whole(next), whole(next))
	}
	slow := from(next, -3, 3)
	return made(from(next, -1, 20), slow, slow+from(next, -1, 4))
}

func TestByChance(t *testing.T) {
	next := chance(283)
	for k := range 3000 {
		n := 1 + below(next, 8)
		if k%20 == 0 {
			n = 60 + below(next, 10)
		}
		x, was := watch(next), step{from(next, 0, 50), clocks(next, n), all}
		for range 1 + below(next, 40) {
			x.note(t, was.tick, was.l, was.s)
			was = draw(next, was, n)
		}
	}
}

// What is handed in, and two watches side by side.

// write writes to all that a list has room for, also behind its end.
func write(l []int64) {
	l = l[:cap(l)]
	for k := range l {
		l[k] ^= 0x5a5a5a
	}
}

// A list may be written to behind the call without any later answer being another.
func TestShares(t *testing.T) {
	next := chance(284)
	for range 2000 {
		n := 1 + below(next, 70)
		x, was := watch(next), step{from(next, 0, 50), clocks(next, n), bits(next)}
		for range 1 + below(next, 6) {
			l := slices.Clone(was.l)
			x.note(t, was.tick, l, was.s)
			write(l)
			apart, pace := x.p.count()
			gap, at := x.p.worst()
			tells(t, x, x.w, apart, pace, gap, at)
			was = draw(next, was, n)
		}
	}
	l := []int64{100, 200}
	w := New(greatest, 10, 10)
	for n := range int64(20) { // the same list again and again
		if !w.Note(n, l, 3) {
			t.Fatal(n)
		}
		l[0], l[1] = l[0]+10, l[1]+10
	}
}

// What stands behind a list's end is neither read nor written.
func TestBehindTheEnd(t *testing.T) {
	l := []int64{10, 12, 1000, end, 7}
	for n := range len(l) + 1 {
		x, y := made(2, 0, 0), made(2, 0, 0)
		short := slices.Clip(slices.Clone(l[:n]))
		for k := range int64(3) {
			if x.note(t, k, l[:n], all) != y.note(t, k, short, all) || x.w.Fine() != (n < 3) {
				t.Fatal(x)
			}
		}
	}
	if !slices.Equal(l, []int64{10, 12, 1000, end, 7}) {
		t.Error(l)
	}
}

// Two watches side by side: neither knows of the other one, also where both go by the same list.
func TestSideBySide(t *testing.T) {
	next := chance(285)
	for range 400 {
		n := 1 + below(next, 6)
		a, b := watch(next), watch(next)
		was, is := step{from(next, 0, 50), clocks(next, n), all}, step{from(next, 0, 50), clocks(next, n), all}
		for range 1 + below(next, 30) {
			switch below(next, 4) {
			case 0:
				a.note(t, was.tick, was.l, was.s)
			case 1:
				b.note(t, is.tick, is.l, is.s)
			default:
				a.note(t, was.tick, was.l, was.s)
				b.note(t, was.tick, was.l, was.s)
			}
			was, is = draw(next, was, n), draw(next, is, n)
		}
	}
	a, b := made(1, 1, 1), made(1, 1, 1)
	a.note(t, 1, []int64{5, 9}, 3)
	tells(t, b, b.w, 0, 0, 0, 0)
	b.note(t, 2, []int64{5, 5}, 3)
	tells(t, a, a.w, 1, 0, 4, 1)
}

// A nil watch.
func TestNil(t *testing.T) {
	var w *Watch
	for range 3 {
		if w.Fine() {
			t.Error("Fine")
		}
		if gap, tick := w.Worst(); gap != 0 || tick != 0 {
			t.Error(gap, tick)
		}
		if apart, pace := w.Count(); apart != 0 || pace != 0 {
			t.Error(apart, pace)
		}
		for _, x := range []step{{1, nil, 0}, {1, []int64{5, 9}, 3}, {2, []int64{0, end}, 3}, {least, []int64{least, greatest}, all}, {3, same(100, 5), all}} {
			if w.Note(x.tick, x.l, x.s) {
				t.Error(x)
			}
		}
	}
}

// A watch that New did not make is one of noughts.
func TestZero(t *testing.T) {
	x := &pair{w: &Watch{}, p: &plain{}}
	tells(t, x, x.w, 0, 0, 0, 0)
	if !x.note(t, 4, []int64{5, 5}, 3) || !x.note(t, 9, []int64{5, 5}, 3) || x.note(t, 10, []int64{5, 6}, 3) {
		t.Error(x)
	}
}

// P28.3

// gang is clocks of chance that go on in each tick by slow at least and by fast at most.
type gang struct {
	next       func() uint64
	slow, fast int64
	tick       int64
	l          []int64
}

// run goes on by some ticks. Many clocks go by just slow, or by just fast.
func (g *gang) run(ticks int) {
	g.tick += int64(ticks)
	for range ticks {
		for p := range g.l {
			switch below(g.next, 4) {
			case 0:
				g.l[p] += g.slow
			case 1:
				g.l[p] += g.fast
			default:
				g.l[p] += from(g.next, g.slow, g.fast)
			}
		}
	}
}

// good draws a rho and a slew that are good, often at an end.
func good(next func() uint64) (rho, slew int64) {
	rho, slew = from(next, 0, api.MaxDrift), from(next, 1, api.MaxSlew)
	switch below(next, 4) {
	case 0:
		rho, slew = 0, 1
	case 1:
		rho, slew = api.MaxDrift, api.MaxSlew
	}
	return rho, slew
}

// Whatever they tell at first (so that they do not come to the end of time, where they would stop), none is out of pace,
// also over several ticks at once, and within one; and all is fine, where they are not apart.
func TestInPace(t *testing.T) {
	next := chance(286)
	for k := range 600 {
		rho, slew := good(next)
		g := gang{next: next, slow: rate.Slow(rho, slew), fast: rate.Fast(rho, slew), tick: from(next, 0, 1<<40)}
		for range 1 + below(next, 8+k%57) {
			g.l = append(g.l, from(next, 0, end-1<<40))
		}
		w, near := New(greatest, g.slow, g.fast), made(from(next, 0, end), g.slow, g.fast)
		for range 30 {
			s := bits(next)
			if !w.Note(g.tick, g.l, s) || !w.Fine() {
				t.Fatalf("rho %d, slew %d: out of pace at the tick %d", rho, slew, g.tick)
			}
			near.note(t, g.tick, g.l, s)
			if _, pace := near.w.Count(); pace != 0 {
				t.Fatalf("rho %d, slew %d: %d out of pace at the tick %d", rho, slew, pace, g.tick)
			}
			g.run(below(next, 4) * below(next, 4))
		}
	}
}

// Rates that are no clock's: slow and fast of any sign.
func TestInPaceOfAnyRate(t *testing.T) {
	next := chance(287)
	for range 600 {
		slow := from(next, -1<<below(next, 45), 1<<below(next, 45))
		g := gang{next: next, slow: slow, fast: slow + from(next, 0, 1<<below(next, 45)), tick: 5}
		for range 1 + below(next, 10) {
			g.l = append(g.l, from(next, 1<<59-1<<58, 1<<59+1<<58))
		}
		w := New(greatest, g.slow, g.fast)
		for range 30 {
			if !w.Note(g.tick, g.l, bits(next)) || !w.Fine() {
				t.Fatalf("slow %d, fast %d: out of pace at the tick %d", g.slow, g.fast, g.tick)
			}
			g.run(below(next, 8))
		}
	}
}

// Clocks that start as one and go the one by slow, the other one by fast, are apart from the first tick on at which that is
// more than eps; all is fine till then.
func TestFineTillApart(t *testing.T) {
	for _, x := range [][2]int64{{0, 1}, {1, 32}, {64, 256}, {3, 200}} {
		slow, fast := rate.Slow(x[0], x[1]), rate.Fast(x[0], x[1])
		for _, eps := range []int64{0, 1, fast - slow - 1, fast - slow, fast - slow + 1, 5 * (fast - slow), 2116} {
			w := made(eps, slow, fast)
			for n := range int64(60) {
				far := n * (fast - slow)
				if got := w.note(t, n, []int64{9 + n*slow, 9 + n*fast, 9 + n*1024}, 7); got != (far <= eps) || w.w.Fine() != got {
					t.Fatalf("%v: %t", w, got)
				}
			}
		}
	}
}

// The worst clocks: no narrower rates would do for them. One grain beyond, in one of several ticks, is out of pace.
func TestAtTheRates(t *testing.T) {
	next := chance(288)
	for range 500 {
		rho, slew := good(next)
		slow, fast := rate.Slow(rho, slew), rate.Fast(rho, slew)
		w, narrow, under, over := New(greatest, slow, fast), New(greatest, slow+1, fast-1), New(greatest, slow, fast), New(greatest, slow, fast)
		var tick int64
		for k := range 20 {
			n := from(next, 1, 9)
			was := tick
			tick += n
			l := []int64{tick * slow, tick * fast}
			if !w.Note(tick, l, 3) {
				t.Fatalf("rho %d, slew %d, at the tick %d", rho, slew, tick)
			}
			if narrow.Note(tick, l, 3); k == 0 {
				continue
			}
			under.Note(was, []int64{was*slow + 1, was * slow}, 3)
			over.Note(was, []int64{was * fast, was*fast - 1}, 3)
			if under.Note(tick, []int64{tick * slow, tick * slow}, 3) || over.Note(tick, []int64{tick * fast, tick * fast}, 3) {
				t.Fatalf("rho %d, slew %d: one grain beyond in %d ticks", rho, slew, n)
			}
		}
		if _, pace := narrow.Count(); pace != 38 {
			t.Fatalf("rho %d, slew %d: %d", rho, slew, pace)
		}
	}
}

// Whole clocks: hardware clocks whose drift is fair, and synced clocks by them that are corrected as they go.
func TestWholeClocks(t *testing.T) {
	next := chance(289)
	for range 150 {
		rho, slew := good(next)
		n := 1 + below(next, 6)
		hard, soft, l := make([]*rate.Hard, n), make([]*clock.Clock, n), make([]int64, n)
		for p := range n {
			hard[p], soft[p] = rate.New(from(next, 0, 1<<50)), clock.New(slew)
			soft[p].Boot(from(next, 0, 1<<50))
		}
		w := New(greatest, rate.Slow(rho, slew), rate.Fast(rho, slew))
		for tick := range int64(200) {
			for p := range n {
				l[p], _ = soft[p].Now()
			}
			if s := bits(next); below(next, 3) > 0 && (!w.Note(tick, l, s) || !w.Fine()) {
				t.Fatalf("rho %d, slew %d, at the tick %d", rho, slew, tick)
			}
			for p := range n {
				if hard[p].Drift(from(next, -rho, rho)); below(next, 10) == 0 {
					soft[p].Correct(from(next, -9000, 9000))
				}
				soft[p].Tick(hard[p].Tick())
			}
		}
	}
}
