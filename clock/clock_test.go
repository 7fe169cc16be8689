package clock

import (
	"fmt"
	"math"
	"math/big"
	"reflect"
	"testing"

	"angelus/api"
)

const (
	least    = math.MinInt64
	greatest = math.MaxInt64
	end      = 1 << 60 // the end of time
	top      = 1 << 20 // what a hardware clock goes on by in a tick at most
)

// wild are numbers all over int64. Sums of some of them go round to small ones, and some would be within the ends if
// only their lower bits were taken or their sign lost.
var wild = []int64{
	least, least + 1, least + 10, least + 256, least + top, least + end, -1 << 62, -end - 1025, -end - 257, -end - 1, -end, -end + 1, -end + 256,
	-1 << 53, -1 << 40, -1<<32 - 1, -1 << 32, -1<<32 + 1, -1<<32 + 10, math.MinInt32, -top - 1, -top, -top + 1, -1025, -1024, -1023,
	-513, -512, -257, -256, -255, -100, -25, -11, -10, -9, -2, -1,
	0, 1, 2, 9, 10, 11, 25, 100, 255, 256, 257, 512, 513, 1023, 1024, 1025,
	top - 256, top - 1, top, top + 1, top + 256, math.MaxInt32, 1 << 31, 1<<32 - 1, 1 << 32, 1<<32 + 1, 1<<32 + 10, 1 << 40, 1 << 53,
	end - top, end - 1025, end - 1024, end - 257, end - 256, end - 255, end - 10, end - 1, end, end + 1, end + 256, 2*end - 1, 2 * end, 2*end + 1,
	1 << 62, greatest - end, greatest - end + 1, greatest - top, greatest - 256, greatest - 255, greatest - 1, greatest,
}

// slews are some, good and wrong.
var slews = []int64{least, -1, 0, 1, 2, 3, 10, 100, 255, 256, 257, greatest}

// incs are the edges of what a hardware clock goes on by.
var incs = []int64{least, least + 1, -end, -1 << 32, -1024, -2, -1, 0, 1, 2, 9, 10, 11, 1023, 1024, 1025, top - 1, top, top + 1, 1 << 32, 1<<32 + 5, end, greatest - 1, greatest}

// chance answers numbers of no rule, the same ones each time.
func chance(x uint64) func() uint64 {
	return func() uint64 {
		x ^= x << 13
		x ^= x >> 7
		x ^= x << 17
		return x >> 8
	}
}

// below draws a number from 0 on below n.
func below(next func() uint64, n int) int { return int(next() % uint64(n)) }

// whole draws a number out of the whole of int64, most of them by few bits.
func whole(next func() uint64) int64 {
	switch below(next, 4) {
	case 0:
		return wild[below(next, len(wild))]
	case 1:
		return wild[below(next, len(wild))] + int64(below(next, 5)) - 2 // it may go round: that is a number, too
	}
	return int64(next()<<8^next()) >> below(next, 64)
}

// The chapter, and what chapter 21 says of Aim and Step, read plainly, by whole numbers without ends.

func big64(x int64) *big.Int { return big.NewInt(x) }

// kept is a whole number, kept from one to another one.
func kept(x *big.Int, lo, hi int64) *big.Int {
	if x.Cmp(big64(lo)) < 0 {
		return big64(lo)
	}
	if x.Cmp(big64(hi)) > 0 {
		return big64(hi)
	}
	return x
}

// plain is a clock as the chapter tells of it.
type plain struct {
	slew     int64
	phase    int
	at, left *big.Int
}

func plainNew(slew int64) *plain {
	return &plain{kept(big64(slew), 1, 256).Int64(), 0, new(big.Int), new(big.Int)}
}

func (p *plain) boot(at int64) api.Errno {
	if p.phase == 0 {
		p.phase, p.at = 2, kept(big64(at), 0, end)
		return api.OK
	}
	return api.ErrPhase
}

func (p *plain) guess(at int64) api.Errno {
	if p.phase == 0 || p.phase == 1 {
		p.phase, p.at = 1, kept(big64(at), 0, end)
		return api.OK
	}
	return api.ErrPhase
}

func (p *plain) correct(d int64) api.Errno {
	if p.phase == 0 {
		return api.ErrPhase
	}
	if p.phase == 1 {
		p.phase, p.at = 2, kept(new(big.Int).Add(p.at, big64(d)), 0, end)
		return api.OK
	}
	p.left = kept(big64(d), -end, end)
	return api.OK
}

func (p *plain) reset() { *p = *plainNew(p.slew) }

// step makes one grain behind the other, as long as there is one left, and one that may be made.
func (p *plain) step(inc int64) int64 {
	by := kept(big64(inc), 0, top).Int64()
	for range p.slew {
		switch sign := int64(p.left.Sign()); {
		case sign == 0, sign < 0 && by == 0:
			return by
		default:
			p.left = new(big.Int).Sub(p.left, big64(sign))
			by += sign
		}
	}
	return by
}

func (p *plain) tick(inc int64) int64 {
	if p.phase == 0 {
		return 0
	}
	was := p.at
	p.at = kept(new(big.Int).Add(was, big64(p.step(inc))), 0, end)
	return new(big.Int).Sub(p.at, was).Int64()
}

// The phases, each with what it is called.
var phases = []struct {
	phase int
	name  string
}{{api.Cold, "cold"}, {api.Rough, "rough"}, {api.Synced, "synced"}}

// in makes a clock that is in a phase, and tells at, if it is not cold.
func in(slew int64, phase int, at int64) *Clock {
	c := New(slew)
	switch phase {
	case api.Rough:
		c.Guess(at)
	case api.Synced:
		c.Boot(at)
	}
	return c
}

// alike is the same one, read plainly.
func alike(slew int64, phase int, at int64) *plain {
	p := plainNew(slew)
	switch phase {
	case api.Rough:
		p.guess(at)
	case api.Synced:
		p.boot(at)
	}
	return p
}

// amid makes a synced clock of which some correction is left.
func amid(slew, at, d int64) *Clock {
	c := in(slew, api.Synced, at)
	c.Correct(d)
	return c
}

// holds is whether a clock is in a phase, tells so much, and has so much left, however often and in whatever order that is asked.
func holds(t *testing.T, what string, c *Clock, phase int, at, left int64) {
	t.Helper()
	for range 2 {
		if got := c.Phase(); got != phase {
			t.Errorf("%s: Phase: %d; wanted %d", what, got, phase)
		}
		if got, ok := c.Now(); got != at || ok != (phase != api.Cold) {
			t.Errorf("%s: Now: %d, %t; wanted %d in phase %d", what, got, ok, at, phase)
		}
		if got := c.Left(); got != left {
			t.Errorf("%s: Left: %d; wanted %d", what, got, left)
		}
	}
}

// same is whether a clock is what the one is that is read plainly.
func same(t *testing.T, what string, c *Clock, p *plain) {
	t.Helper()
	holds(t, what, c, p.phase, p.at.Int64(), p.left.Int64())
}

// says is whether a call answers what it must.
func says(t *testing.T, what string, got, want api.Errno) {
	t.Helper()
	if got != want {
		t.Errorf("%s: %d; wanted %d", what, got, want)
	}
}

// ticks is whether a clock goes on by so much in each of some ticks.
func ticks(t *testing.T, what string, c *Clock, inc int64, by ...int64) {
	t.Helper()
	for k, want := range by {
		if got := c.Tick(inc); got != want {
			t.Errorf("%s: Tick(%d), the %dth: %d; wanted %d", what, inc, k+1, got, want)
		}
	}
}

// A doing is a call that changes a clock, or may.
type doing struct {
	call string
	x    int64
}

func (d doing) String() string { return fmt.Sprintf("%s(%d)", d.call, d.x) }

// do does it; what the call answers, as a number.
func (d doing) do(c *Clock) int64 {
	switch d.call {
	case "Boot":
		return int64(c.Boot(d.x))
	case "Guess":
		return int64(c.Guess(d.x))
	case "Correct":
		return int64(c.Correct(d.x))
	case "Tick":
		return c.Tick(d.x)
	}
	c.Reset()
	return 0
}

// read does it to the one that is read plainly.
func (d doing) read(p *plain) int64 {
	switch d.call {
	case "Boot":
		return int64(p.boot(d.x))
	case "Guess":
		return int64(p.guess(d.x))
	case "Correct":
		return int64(p.correct(d.x))
	case "Tick":
		return p.tick(d.x)
	}
	p.reset()
	return 0
}

// done is whether a doing answers what it does to the one that is read plainly, and both are the same behind it.
func done(t *testing.T, what string, d doing, c *Clock, p *plain) {
	t.Helper()
	if got, want := d.do(c), d.read(p); got != want {
		t.Errorf("%s: %v: %d; wanted %d", what, d, got, want)
	}
	same(t, fmt.Sprintf("%s, behind %v", what, d), c, p)
}

// played is whether each doing of a play answers what it must.
func played(t *testing.T, slew int64, play []doing) {
	t.Helper()
	c, p := New(slew), plainNew(slew)
	for k, d := range play {
		done(t, fmt.Sprintf("New(%d), %v", slew, play[:k]), d, c, p)
	}
}

// likeNew is whether a clock is as a new one of a slew, now and in all that comes.
func likeNew(t *testing.T, what string, c *Clock, slew int64) {
	t.Helper()
	p := plainNew(slew)
	same(t, what, c, p)
	for _, d := range []doing{
		{"Correct", 77}, {"Tick", 1024}, {"Guess", 500}, {"Tick", 1024}, {"Guess", 700}, {"Correct", -5}, {"Tick", 1024},
		{"Correct", 600}, {"Tick", 1024}, {"Correct", -600}, {"Tick", 1024}, {"Boot", 3}, {"Guess", 3}, {"Tick", 4},
	} {
		done(t, what, d, c, p)
	}
}

// The chapter's example.
func TestExample(t *testing.T) {
	for _, slew := range slews {
		c := New(slew)
		says(t, "Guess(1000)", c.Guess(1000), api.OK)
		ticks(t, "the example", c, 1024, 1024)
		says(t, "Correct(-24)", c.Correct(-24), api.OK)
		holds(t, "the example", c, api.Synced, 2000, 0)
	}
}

// The limits and the phases are those that the chapter names.
func TestLimits(t *testing.T) {
	if api.MaxSlew != 256 || api.MaxTime != end || api.Cold != 0 || api.Rough != 1 || api.Synced != 2 {
		t.Error(api.MaxSlew, int64(api.MaxTime), api.Cold, api.Rough, api.Synced)
	}
}

// A clock has the chapter's calls and no other ones: what it embeds is not told of beyond it.
func TestNoOtherCalls(t *testing.T) {
	of := reflect.TypeFor[*Clock]()
	var got []string
	for i := range of.NumMethod() {
		got = append(got, of.Method(i).Name)
	}
	if want := "[Boot Correct Guess Left Now Phase Reset Tick]"; fmt.Sprint(got) != want {
		t.Errorf("%v; wanted %s", got, want)
	}
	for i := range of.Elem().NumField() {
		if f := of.Elem().Field(i); f.IsExported() {
			t.Errorf("%s may be set by whoever has a clock", f.Name)
		}
	}
}

// P22.1

// A new clock is cold and has nothing left, whatever its slew, and corrects itself by that, kept from 1 to 256.
func TestNewByHand(t *testing.T) {
	for _, r := range []struct{ slew, want int64 }{
		{least, 1}, {least + 10, 1}, {-1 << 32, 1}, {-1<<32 + 10, 1}, {-256, 1}, {-2, 1}, {-1, 1}, {0, 1}, {1, 1}, {2, 2}, {3, 3}, {10, 10},
		{128, 128}, {254, 254}, {255, 255}, {256, 256}, {257, 256}, {258, 256}, {512, 256}, {1<<32 + 10, 256}, {end, 256}, {greatest - 1, 256}, {greatest, 256},
	} {
		what := fmt.Sprintf("New(%d)", r.slew)
		c := New(r.slew)
		if c == nil {
			t.Fatalf("%s: nil", what)
		}
		holds(t, what, c, api.Cold, 0, 0)
		ticks(t, what, c, 1024, 0, 0)
		holds(t, what+", behind ticks", c, api.Cold, 0, 0)
		says(t, what+", Boot", c.Boot(5000), api.OK)
		ticks(t, what+", of nothing", c, 1024, 1024)
		says(t, what+", ahead", c.Correct(600), api.OK)
		ticks(t, what+", ahead", c, 1024, 1024+r.want, 1024+r.want)
		holds(t, what+", ahead", c, api.Synced, 5000+3*1024+2*r.want, 600-2*r.want)
		says(t, what+", behind", c.Correct(-600), api.OK)
		ticks(t, what+", behind", c, 1024, 1024-r.want, 1024-r.want)
		holds(t, what+", behind", c, api.Synced, 5000+5*1024, 2*r.want-600)
	}
}

func TestAllSlews(t *testing.T) {
	for slew := int64(-300); slew <= 700; slew++ {
		want := slew
		if want < 1 {
			want = 1
		}
		if want > 256 {
			want = 256
		}
		for _, sign := range []int64{1, -1} {
			c := amid(slew, 100, sign*5000)
			what := fmt.Sprintf("New(%d)", slew)
			ticks(t, what, c, 5000, 5000+sign*want)
			holds(t, what, c, api.Synced, 5100+sign*want, sign*(5000-want))
		}
	}
}

// Through its life: each phase is told as its number, and what the clock tells only if it is not cold.
func TestPhases(t *testing.T) {
	c := New(10)
	holds(t, "new", c, 0, 0, 0)
	c.Guess(0)
	holds(t, "guessed to be 0", c, 1, 0, 0)
	if at, ok := c.Now(); at != 0 || !ok {
		t.Error("rough at 0:", at, ok)
	}
	c.Correct(0)
	holds(t, "corrected by nothing", c, 2, 0, 0)
	if at, ok := c.Now(); at != 0 || !ok {
		t.Error("synced at 0:", at, ok)
	}
	c.Correct(-15)
	holds(t, "aimed", c, 2, 0, -15)
	c.Tick(100)
	holds(t, "behind a tick", c, 2, 90, -5)
	c.Reset()
	holds(t, "reset", c, 0, 0, 0)
	c.Boot(0)
	holds(t, "booted at 0", c, 2, 0, 0)
	if at, ok := c.Now(); at != 0 || !ok {
		t.Error("booted at 0:", at, ok)
	}
}

// Asking changes nothing: clocks that are asked at each turn do what those do that are not.
func TestAskingChangesNothing(t *testing.T) {
	next := chance(221)
	for range 3000 {
		slew := slews[below(next, len(slews))]
		a, b := New(slew), New(slew)
		for k := range 12 {
			for range k {
				a.Left()
				a.Phase()
				a.Now()
				a.Now()
				a.Phase()
				a.Left()
			}
			d := drawn(next)
			if x, y := d.do(a), d.do(b); x != y {
				t.Fatalf("New(%d), %v: %d of one that was asked, %d of one that was not", slew, d, x, y)
			}
		}
		at, ok := a.Now()
		if x, y := b.Now(); x != at || y != ok || a.Phase() != b.Phase() || a.Left() != b.Left() {
			t.Fatalf("New(%d): %d of one that was asked, %d of one that was not", slew, at, x)
		}
	}
}

// P22.2

// What a clock tells that is started at a time, or guesses it.
var starts = []struct{ at, want int64 }{
	{least, 0}, {least + 1, 0}, {-1 << 62, 0}, {-end - 1, 0}, {-end, 0}, {-1 << 32, 0}, {-1<<32 + 5, 0}, {-1024, 0}, {-5, 0}, {-2, 0}, {-1, 0}, {0, 0}, {1, 1}, {2, 2},
	{255, 255}, {1000, 1000}, {1024, 1024}, {1 << 31, 1 << 31}, {1 << 32, 1 << 32}, {1<<32 + 5, 1<<32 + 5}, {1 << 40, 1 << 40}, {1<<53 + 1, 1<<53 + 1},
	{end - 2, end - 2}, {end - 1, end - 1}, {end, end}, {end + 1, end}, {end + 2, end}, {2*end + 5, end}, {1 << 62, end}, {greatest - 1, end}, {greatest, end},
}

func TestBootByHand(t *testing.T) {
	for _, r := range starts {
		c := New(10)
		what := fmt.Sprintf("Boot(%d)", r.at)
		says(t, what, c.Boot(r.at), api.OK)
		holds(t, what, c, api.Synced, r.want, 0)
		ticks(t, what, c, 1024, min(1024, end-r.want))
		holds(t, what+", behind a tick", c, api.Synced, min(r.want+1024, end), 0)
	}
}

func TestGuessByHand(t *testing.T) {
	for _, r := range starts {
		c := New(10)
		what := fmt.Sprintf("Guess(%d)", r.at)
		says(t, what, c.Guess(r.at), api.OK)
		holds(t, what, c, api.Rough, r.want, 0)
		ticks(t, what, c, 1024, min(1024, end-r.want))
		holds(t, what+", behind a tick", c, api.Rough, min(r.want+1024, end), 0)
	}
}

// A second guess counts, and the first one no more: it may go back, or on.
func TestGuessTwice(t *testing.T) {
	for _, was := range starts {
		for _, r := range starts {
			c := New(10)
			what := fmt.Sprintf("Guess(%d) behind Guess(%d)", r.at, was.at)
			c.Guess(was.at)
			says(t, what, c.Guess(r.at), api.OK)
			holds(t, what, c, api.Rough, r.want, 0)
			c.Tick(1024)
			says(t, what, c.Guess(r.at), api.OK)
			holds(t, what+", and behind a tick again", c, api.Rough, r.want, 0)
		}
	}
}

// What Boot, Guess and Correct tell in each phase; where it is ErrPhase nothing changes, and all goes on as if it had not been called.
func TestCallsInEachPhase(t *testing.T) {
	for _, slew := range []int64{1, 10, 256} {
		for _, ph := range phases {
			for _, left := range []int64{0, 7, -7, 3000, -3000} {
				for _, x := range wild {
					refused := []doing{}
					switch ph.phase {
					case api.Cold:
						refused = []doing{{"Correct", x}}
					case api.Rough:
						refused = []doing{{"Boot", x}}
					case api.Synced:
						refused = []doing{{"Boot", x}, {"Guess", x}}
					}
					for _, d := range refused {
						c := in(slew, ph.phase, 5000)
						at, rest := int64(5000), int64(0)
						if ph.phase == api.Cold {
							at = 0
						}
						if ph.phase == api.Synced {
							c.Correct(left)
							rest = left
						}
						what := fmt.Sprintf("%v of a %s clock", d, ph.name)
						for range 2 {
							says(t, what, api.Errno(d.do(c)), api.ErrPhase)
							holds(t, what, c, ph.phase, at, rest)
						}
						p := alike(slew, ph.phase, 5000)
						p.left = big64(rest)
						done(t, what, doing{"Tick", 1024}, c, p)
						done(t, what, doing{"Tick", 5}, c, p)
						c.Reset()
						likeNew(t, what+", reset", c, slew)
					}
				}
			}
		}
	}
	for _, r := range []struct {
		phase int
		call  string
		want  api.Errno
	}{
		{api.Cold, "Boot", api.OK}, {api.Rough, "Boot", api.ErrPhase}, {api.Synced, "Boot", api.ErrPhase},
		{api.Cold, "Guess", api.OK}, {api.Rough, "Guess", api.OK}, {api.Synced, "Guess", api.ErrPhase},
		{api.Cold, "Correct", api.ErrPhase}, {api.Rough, "Correct", api.OK}, {api.Synced, "Correct", api.OK},
	} {
		for _, x := range wild {
			d := doing{r.call, x}
			says(t, fmt.Sprintf("%v in phase %d", d, r.phase), api.Errno(d.do(in(10, r.phase, 5000))), r.want)
		}
	}
}

// A clock that is at an end of time is of its phase all the same.
func TestCallsAtTheEnds(t *testing.T) {
	for _, at := range []int64{0, 1, end - 1, end} {
		for _, x := range []int64{least, -1, 0, 1, at, end, greatest} {
			what := fmt.Sprintf("at %d", at)
			c := in(10, api.Rough, at)
			says(t, what+", rough, Boot", c.Boot(x), api.ErrPhase)
			holds(t, what, c, api.Rough, at, 0)
			c = in(10, api.Synced, at)
			says(t, what+", synced, Boot", c.Boot(x), api.ErrPhase)
			says(t, what+", synced, Guess", c.Guess(x), api.ErrPhase)
			holds(t, what, c, api.Synced, at, 0)
		}
	}
}

// Each way to be synced is one, and each way to be rough.
func TestHowItCameToItsPhase(t *testing.T) {
	for _, r := range []struct {
		play  []doing
		phase int
		at    int64
	}{
		{[]doing{{"Boot", 40}}, api.Synced, 40},
		{[]doing{{"Guess", 40}, {"Correct", 3}}, api.Synced, 43},
		{[]doing{{"Guess", 40}, {"Guess", 50}, {"Correct", 0}}, api.Synced, 50},
		{[]doing{{"Guess", 40}, {"Tick", 10}, {"Correct", -3}}, api.Synced, 47},
		{[]doing{{"Boot", 40}, {"Reset", 0}, {"Guess", 60}, {"Correct", 1}}, api.Synced, 61},
		{[]doing{{"Guess", 40}, {"Reset", 0}, {"Boot", 60}}, api.Synced, 60},
		{[]doing{{"Guess", 40}}, api.Rough, 40},
		{[]doing{{"Guess", 40}, {"Guess", 30}}, api.Rough, 30},
		{[]doing{{"Correct", 9}, {"Guess", 40}}, api.Rough, 40},
		{[]doing{{"Boot", 40}, {"Reset", 0}, {"Guess", 30}}, api.Rough, 30},
		{[]doing{{"Reset", 0}}, api.Cold, 0},
		{[]doing{{"Correct", 9}}, api.Cold, 0},
		{[]doing{{"Tick", 9}}, api.Cold, 0},
		{[]doing{{"Boot", 40}, {"Reset", 0}}, api.Cold, 0},
		{[]doing{{"Boot", 40}, {"Reset", 0}, {"Reset", 0}}, api.Cold, 0},
	} {
		c := New(10)
		for _, d := range r.play {
			d.do(c)
		}
		what := fmt.Sprint(r.play)
		holds(t, what, c, r.phase, r.at, 0)
		for _, d := range []doing{{"Boot", 7}, {"Guess", 7}, {"Correct", 7}} {
			want := api.OK
			switch {
			case d.call == "Boot" && r.phase != api.Cold, d.call == "Guess" && r.phase == api.Synced, d.call == "Correct" && r.phase == api.Cold:
				want = api.ErrPhase
			}
			o := New(10)
			for _, e := range r.play {
				e.do(o)
			}
			says(t, fmt.Sprintf("%v, then %v", r.play, d), api.Errno(d.do(o)), want)
		}
	}
}

// A clock that is reset is as a new one with the same slew, whatever it was and whatever was left of a correction.
func TestReset(t *testing.T) {
	for _, slew := range slews {
		for _, ph := range phases {
			for _, at := range []int64{0, 1, 5000, end - 1, end} {
				what := fmt.Sprintf("New(%d), %s at %d, reset", slew, ph.name, at)
				c := in(slew, ph.phase, at)
				c.Reset()
				holds(t, what, c, api.Cold, 0, 0)
				likeNew(t, what, c, slew)
				c.Reset()
				c.Reset()
				holds(t, what+" again, and twice", c, api.Cold, 0, 0)
				ticks(t, what, c, 1024, 0)
				says(t, what+", Correct", c.Correct(5), api.ErrPhase)
				likeNew(t, what+" again, and twice", c, slew)
			}
		}
		for _, left := range []int64{1, -1, 5, -5, 256, -256, 600, -600, end, -end, greatest, least} {
			for _, n := range []int{0, 1, 3} {
				c := amid(slew, 5000, left)
				for range n {
					c.Tick(100)
				}
				what := fmt.Sprintf("New(%d), Correct(%d), %d ticks, reset", slew, left, n)
				c.Reset()
				holds(t, what, c, api.Cold, 0, 0)
				c.Boot(70)
				holds(t, what+", booted", c, api.Synced, 70, 0)
				ticks(t, what+", booted", c, 1000, 1000, 1000)
				c.Correct(left)
				c.Reset()
				c.Guess(70)
				holds(t, what+", guessed", c, api.Rough, 70, 0)
				ticks(t, what+", guessed", c, 1000, 1000, 1000)
				c.Correct(30)
				holds(t, what+", corrected", c, api.Synced, 2100, 0)
				ticks(t, what+", corrected", c, 1000, 1000)
				c.Reset()
				likeNew(t, what, c, slew)
			}
		}
	}
}

// P22.3

// The edges of d about a clock that tells at.
func edges(at int64) []int64 {
	return []int64{
		least, least + 1, least + at, -1 << 62, -end - at, -end - 1, -end, -end + 1, -at - 2, -at - 1, -at, -at + 1, -1025, -257, -256, -255, -10, -2, -1,
		0, 1, 2, 10, 255, 256, 257, 1025, end - at - 1, end - at, end - at + 1, end - at + 2, end - 1, end, end + 1, 1 << 62,
		greatest - end, greatest - at - 1, greatest - at, greatest - at/2, greatest - 1, greatest,
	}
}

func TestCorrectRoughByHand(t *testing.T) {
	for _, r := range []struct{ at, d, want int64 }{
		{2024, -24, 2000}, // the chapter's
		{100, -60, 40},
		{50, -60, 0},
		{1000, least, 0},
		{1000, least + 1, 0},
		{1000, -end - 1, 0},
		{1000, -end, 0},
		{1000, -1001, 0},
		{1000, -1000, 0},
		{1000, -999, 1},
		{1000, -257, 743},
		{1000, -1, 999},
		{1000, 0, 1000},
		{1000, 1, 1001},
		{1000, 257, 1257},
		{1000, end - 1001, end - 1},
		{1000, end - 1000, end},
		{1000, end - 999, end},
		{1000, end, end},
		{1000, end + 1, end},
		{1000, greatest - 1, end},
		{1000, greatest, end},
		{0, least, 0},
		{0, -end, 0},
		{0, -1, 0},
		{0, 0, 0},
		{0, 1, 1},
		{0, end - 1, end - 1},
		{0, end, end},
		{0, end + 1, end},
		{0, greatest, end},
		{1, -2, 0},
		{1, -1, 0},
		{1, end - 1, end},
		{1, end, end},
		{1, greatest - 1, end},
		{1, greatest, end},
		{end - 1, least, 0},
		{end - 1, -end, 0},
		{end - 1, 1 - end, 0},
		{end - 1, 2 - end, 1},
		{end - 1, -1, end - 2},
		{end - 1, 0, end - 1},
		{end - 1, 1, end},
		{end - 1, 2, end},
		{end - 1, greatest, end},
		{end, least, 0},
		{end, least + 1, 0},
		{end, -end - 1, 0},
		{end, -end, 0},
		{end, 1 - end, 1},
		{end, -1, end - 1},
		{end, 0, end},
		{end, 1, end},
		{end, end, end},
		{end, greatest - end, end},
		{end, greatest - end + 1, end},
		{end, greatest, end},
	} {
		for _, slew := range []int64{1, 10, 256} {
			c := in(slew, api.Rough, r.at)
			what := fmt.Sprintf("rough at %d, Correct(%d)", r.at, r.d)
			says(t, what, c.Correct(r.d), api.OK)
			holds(t, what, c, api.Synced, r.want, 0)
			ticks(t, what, c, 1024, min(1024, end-r.want))
			holds(t, what+", behind a tick", c, api.Synced, min(r.want+1024, end), 0)
		}
	}
}

// All small numbers: at once, whatever the slew, and never below 0.
func TestCorrectRoughSmall(t *testing.T) {
	for at := int64(0); at <= 40; at++ {
		for d := int64(-60); d <= 60; d++ {
			c := in(1, api.Rough, at)
			what := fmt.Sprintf("rough at %d, Correct(%d)", at, d)
			says(t, what, c.Correct(d), api.OK)
			holds(t, what, c, api.Synced, max(at+d, 0), 0)
		}
	}
}

func TestCorrectRoughAllOver(t *testing.T) {
	for _, at := range wild {
		told := alike(10, api.Rough, at).at.Int64()
		for _, d := range append(edges(told), wild...) {
			c, p := in(10, api.Rough, at), alike(10, api.Rough, at)
			what := fmt.Sprintf("Guess(%d)", at)
			done(t, what, doing{"Correct", d}, c, p)
			done(t, what, doing{"Tick", 1024}, c, p)
		}
	}
}

// A rough clock that has gone on is corrected from where it is, not from where it was guessed to be.
func TestCorrectRoughBehindTicks(t *testing.T) {
	c := in(10, api.Rough, 1000)
	ticks(t, "rough", c, 1000, 1000, 1000, 1000)
	says(t, "Correct(-3999)", c.Correct(-3999), api.OK)
	holds(t, "behind ticks", c, api.Synced, 1, 0)
	c = in(10, api.Rough, end-1500)
	ticks(t, "rough", c, 1000, 1000)
	says(t, "Correct(500)", c.Correct(500), api.OK)
	holds(t, "behind ticks", c, api.Synced, end, 0)
	c = in(10, api.Rough, end-1500)
	ticks(t, "rough", c, 1000, 1000, 500, 0)
	says(t, "Correct(-1)", c.Correct(-1), api.OK)
	holds(t, "behind ticks", c, api.Synced, end-1, 0)
}

// What is left of a synced clock's correction, by hand: what it tells stays.
func TestCorrectSyncedByHand(t *testing.T) {
	for _, r := range []struct{ d, want int64 }{
		{least, -end}, {least + 1, -end}, {-1 << 62, -end}, {-end - 2, -end}, {-end - 1, -end}, {-end, -end}, {-end + 1, -end + 1}, {-1 << 40, -1 << 40}, {-1 << 32, -1 << 32},
		{-1001, -1001}, {-1000, -1000}, {-999, -999}, {-257, -257}, {-2, -2}, {-1, -1}, {0, 0}, {1, 1}, {2, 2}, {257, 257}, {1 << 32, 1 << 32}, {1 << 40, 1 << 40},
		{end - 1001, end - 1001}, {end - 1000, end - 1000}, {end - 999, end - 999}, {end - 1, end - 1}, {end, end}, {end + 1, end}, {end + 2, end}, {1 << 62, end},
		{greatest - 1, end}, {greatest, end},
	} {
		for _, at := range []int64{0, 1, 1000, end - 1, end} {
			for _, was := range []int64{0, 1, -1, 5, -5, 300, -300, end - 1, 1 - end, end, -end} {
				c := amid(10, at, was)
				what := fmt.Sprintf("synced at %d, Correct(%d) behind Correct(%d)", at, r.d, was)
				for range 2 {
					says(t, what, c.Correct(r.d), api.OK)
					holds(t, what, c, api.Synced, at, r.want)
				}
			}
		}
	}
}

// Not what is left already, nor what was made of it, counts any more.
func TestCorrectSyncedSets(t *testing.T) {
	c := amid(10, 1000, 25)
	c.Correct(25)
	holds(t, "the same twice", c, api.Synced, 1000, 25)
	ticks(t, "the same twice", c, 100, 110, 110)
	holds(t, "a part of it made", c, api.Synced, 1220, 5)
	c.Correct(25)
	holds(t, "the same again", c, api.Synced, 1220, 25)
	ticks(t, "the same again", c, 100, 110)
	c.Correct(-7)
	holds(t, "of the other sign", c, api.Synced, 1330, -7)
	ticks(t, "of the other sign", c, 100, 93, 100)
	c.Correct(-30)
	ticks(t, "taken back", c, 100, 90)
	c.Correct(0)
	holds(t, "nothing", c, api.Synced, 1613, 0)
	ticks(t, "nothing", c, 100, 100)
}

func TestCorrectSyncedAllOver(t *testing.T) {
	for _, at := range []int64{0, 1, 1000, end - 1030, end - 1, end} {
		for _, d := range append(edges(at), wild...) {
			for _, was := range []int64{0, 9, -9, end, -end} {
				c, p := in(10, api.Synced, at), alike(10, api.Synced, at)
				what := fmt.Sprintf("Boot(%d), Correct(%d)", at, was)
				done(t, what, doing{"Correct", was}, c, p)
				done(t, what, doing{"Correct", d}, c, p)
				done(t, what, doing{"Tick", 1024}, c, p)
			}
		}
	}
}

// The first correction of a rough clock is made at once, the second one is aimed at, as is one of a clock that was booted.
func TestCorrectOnceAtOnce(t *testing.T) {
	c := in(10, api.Rough, 100)
	c.Correct(50)
	holds(t, "the first", c, api.Synced, 150, 0)
	c.Correct(50)
	holds(t, "the second", c, api.Synced, 150, 50)
	ticks(t, "the second", c, 100, 110)
	c.Reset()
	c.Guess(100)
	c.Correct(-50)
	holds(t, "the first, reset", c, api.Synced, 50, 0)
	c.Correct(-50)
	holds(t, "the second, reset", c, api.Synced, 50, -50)
	c = in(10, api.Synced, 100)
	c.Correct(50)
	holds(t, "booted", c, api.Synced, 100, 50)
}

// P22.4

func TestTickCold(t *testing.T) {
	for _, slew := range slews {
		c := New(slew)
		for _, inc := range append(incs, wild...) {
			what := fmt.Sprintf("New(%d), Tick(%d)", slew, inc)
			ticks(t, what, c, inc, 0, 0)
			holds(t, what, c, api.Cold, 0, 0)
		}
		c.Boot(9)
		holds(t, "booted behind ticks", c, api.Synced, 9, 0)
		c.Reset()
		c.Tick(1024)
		likeNew(t, "reset, and behind a tick", c, slew)
	}
}

// A clock with nothing to correct goes on by inc, kept from 0 to 2^20, whether it is rough or synced.
func TestTickWithNothingLeft(t *testing.T) {
	for _, r := range []struct{ inc, want int64 }{
		{least, 0}, {least + 1, 0}, {-end, 0}, {-1 << 32, 0}, {-1<<32 + 5, 0}, {-1024, 0}, {-2, 0}, {-1, 0}, {0, 0}, {1, 1}, {2, 2}, {255, 255}, {256, 256}, {257, 257},
		{1000, 1000}, {1023, 1023}, {1024, 1024}, {1025, 1025}, {top - 1, top - 1}, {top, top}, {top + 1, top}, {top + 256, top}, {1 << 32, top}, {1<<32 + 5, top},
		{1 << 40, top}, {end, top}, {greatest - 1, top}, {greatest, top},
	} {
		for _, slew := range slews {
			for _, phase := range []int{api.Rough, api.Synced} {
				c := in(slew, phase, 5000)
				what := fmt.Sprintf("New(%d), phase %d, Tick(%d)", slew, phase, r.inc)
				ticks(t, what, c, r.inc, r.want)
				holds(t, what, c, phase, 5000+r.want, 0)
				ticks(t, what, c, r.inc, r.want, r.want)
				holds(t, what+" thrice", c, phase, 5000+3*r.want, 0)
			}
			c := in(slew, api.Rough, 5000)
			c.Correct(-5000)
			ticks(t, "corrected", c, r.inc, r.want)
			holds(t, "corrected", c, api.Synced, r.want, 0)
		}
	}
}

// The parts that ticks make of a correction, by hand.
func TestTickByHand(t *testing.T) {
	for _, r := range []struct{ slew, left, inc, by, rest int64 }{
		// chapter 21's
		{10, -25, 100, 90, -15},
		{10, -15, 100, 90, -5},
		{10, -5, 100, 95, 0},
		{10, -25, 4, 0, -21},
		// less than slew left
		{10, 7, least, 7, 0},
		{10, 7, -1, 7, 0},
		{10, 7, 0, 7, 0},
		{10, 7, 1, 8, 0},
		{10, 7, 1024, 1031, 0},
		{10, 7, top - 1, top + 6, 0},
		{10, 7, top, top + 7, 0},
		{10, 7, top + 1, top + 7, 0},
		{10, 7, greatest, top + 7, 0},
		{10, -7, least, 0, -7},
		{10, -7, -1, 0, -7},
		{10, -7, 0, 0, -7},
		{10, -7, 1, 0, -6},
		{10, -7, 6, 0, -1},
		{10, -7, 7, 0, 0},
		{10, -7, 8, 1, 0},
		{10, -7, 1024, 1017, 0},
		{10, -7, top - 1, top - 8, 0},
		{10, -7, top, top - 7, 0},
		{10, -7, top + 1, top - 7, 0},
		{10, -7, greatest, top - 7, 0},
		// just slew left
		{10, 10, least, 10, 0},
		{10, 10, -1, 10, 0},
		{10, 10, 0, 10, 0},
		{10, 10, 1, 11, 0},
		{10, 10, 1024, 1034, 0},
		{10, 10, top - 1, top + 9, 0},
		{10, 10, top, top + 10, 0},
		{10, 10, top + 1, top + 10, 0},
		{10, 10, greatest, top + 10, 0},
		{10, -10, least, 0, -10},
		{10, -10, -1, 0, -10},
		{10, -10, 0, 0, -10},
		{10, -10, 1, 0, -9},
		{10, -10, 9, 0, -1},
		{10, -10, 10, 0, 0},
		{10, -10, 11, 1, 0},
		{10, -10, 1024, 1014, 0},
		{10, -10, top - 1, top - 11, 0},
		{10, -10, top, top - 10, 0},
		{10, -10, top + 1, top - 10, 0},
		{10, -10, greatest, top - 10, 0},
		// more than slew left
		{10, 11, least, 10, 1},
		{10, 11, -1, 10, 1},
		{10, 11, 0, 10, 1},
		{10, 11, 1, 11, 1},
		{10, 11, 1024, 1034, 1},
		{10, 11, top - 1, top + 9, 1},
		{10, 11, top, top + 10, 1},
		{10, 11, top + 1, top + 10, 1},
		{10, 11, greatest, top + 10, 1},
		{10, -11, least, 0, -11},
		{10, -11, -1, 0, -11},
		{10, -11, 0, 0, -11},
		{10, -11, 1, 0, -10},
		{10, -11, 9, 0, -2},
		{10, -11, 10, 0, -1},
		{10, -11, 11, 1, -1},
		{10, -11, 1024, 1014, -1},
		{10, -11, top - 1, top - 11, -1},
		{10, -11, top, top - 10, -1},
		{10, -11, top + 1, top - 10, -1},
		{10, -11, greatest, top - 10, -1},
		// the least slew, and the greatest one
		{1, 2, 1024, 1025, 1},
		{1, -2, 1024, 1023, -1},
		{0, -2, 1024, 1023, -1},
		{least, 2, 1024, 1025, 1},
		{255, 300, 1024, 1279, 45},
		{256, 300, 1024, 1280, 44},
		{257, 300, 1024, 1280, 44},
		{greatest, -300, 1024, 768, -44},
		{256, -300, 200, 0, -100},
		{256, -300, 256, 0, -44},
		{256, -300, 257, 1, -44},
		{256, end, greatest, top + 256, end - 256},
		{256, -end, greatest, top - 256, 256 - end},
	} {
		what := fmt.Sprintf("slew %d, %d left", r.slew, r.left)
		c := amid(r.slew, 1<<40, r.left)
		ticks(t, what, c, r.inc, r.by)
		holds(t, fmt.Sprintf("%s, behind Tick(%d)", what, r.inc), c, api.Synced, 1<<40+r.by, r.rest)
	}
}

// A correction tick by tick to its end, and then nothing.
func TestTicksToTheEndOfACorrection(t *testing.T) {
	c := amid(10, 1000, -25)
	ticks(t, "taken back", c, 100, 90, 90, 95, 100, 100)
	holds(t, "taken back", c, api.Synced, 1475, 0)
	c.Correct(25)
	ticks(t, "added", c, 100, 110, 110, 105, 100, 100)
	holds(t, "added", c, api.Synced, 2000, 0)
	c.Correct(-25)
	ticks(t, "it stands still", c, 4, 0, 0, 0, 0, 0, 0, 3, 4)
	holds(t, "it stands still", c, api.Synced, 2007, 0)
}

// All that small numbers come to.
func TestAllSmallTicks(t *testing.T) {
	for _, slew := range []int64{1, 2, 5, 10} {
		for left := int64(-25); left <= 25; left++ {
			for inc := int64(-3); inc <= 25; inc++ {
				for _, at := range []int64{0, 7, end - 12, end} {
					c, p := in(slew, api.Synced, at), alike(slew, api.Synced, at)
					what := fmt.Sprintf("slew %d, at %d, %d left", slew, at, left)
					done(t, what, doing{"Correct", left}, c, p)
					done(t, what, doing{"Tick", inc}, c, p)
				}
			}
		}
	}
}

// Each phase, each edge of time, each inc.
func TestTicksAllOver(t *testing.T) {
	for _, ph := range phases {
		for _, at := range []int64{0, 1, 1000, end - top - 256, end - top, end - 1024, end - 1, end} {
			for _, inc := range append(incs, wild...) {
				for _, left := range []int64{0, 9, -9, 10, -10, 11, -11, 5000, -5000, end, -end} {
					c, p := in(10, ph.phase, at), alike(10, ph.phase, at)
					what := fmt.Sprintf("%s at %d", ph.name, at)
					if ph.phase == api.Synced {
						done(t, what, doing{"Correct", left}, c, p)
					}
					done(t, what, doing{"Tick", inc}, c, p)
					done(t, what, doing{"Tick", inc}, c, p)
				}
			}
			if t.Failed() {
				return
			}
		}
	}
}

// Up to the end of time and not beyond it; what a tick tells is by how much the clock went on.
func TestTickToTheEndOfTime(t *testing.T) {
	for _, r := range []struct{ at, left, inc, by, rest int64 }{
		{end - 1025, 0, 1024, 1024, 0},
		{end - 1024, 0, 1024, 1024, 0},
		{end - 1023, 0, 1024, 1023, 0},
		{end - 2, 0, 1024, 2, 0},
		{end - 1, 0, 1024, 1, 0},
		{end, 0, 1024, 0, 0},
		{end - 1, 0, 0, 0, 0},
		{end - 1, 0, 1, 1, 0},
		{end - 1, 0, 2, 1, 0},
		{end, 0, 0, 0, 0},
		{end, 0, 1, 0, 0},
		{end, 0, least, 0, 0},
		{end, 0, greatest, 0, 0},
		{end - top - 1, 0, greatest, top, 0},
		{end - top, 0, greatest, top, 0},
		{end - top + 1, 0, greatest, top - 1, 0},
		// ahead: what is made is left no more, though time has no room for it
		{end - 1035, 25, 1024, 1034, 15},
		{end - 1034, 25, 1024, 1034, 15},
		{end - 1033, 25, 1024, 1033, 15},
		{end - 1024, 25, 1024, 1024, 15},
		{end - 5, 25, 1024, 5, 15},
		{end - 5, 25, 0, 5, 15},
		{end - 10, 25, 0, 10, 15},
		{end - 11, 25, 0, 10, 15},
		{end - 1, 7, 0, 1, 0},
		{end, 25, 1024, 0, 15},
		{end, 25, 0, 0, 15},
		{end, 7, 0, 0, 0},
		{end, 7, greatest, 0, 0},
		// taken back
		{end - 1015, -25, 1024, 1014, -15},
		{end - 1014, -25, 1024, 1014, -15},
		{end - 1013, -25, 1024, 1013, -15},
		{end - 5, -25, 14, 4, -15},
		{end - 5, -25, 15, 5, -15},
		{end - 5, -25, 16, 5, -15},
		{end - 5, -25, 4, 0, -21},
		{end, -25, 4, 0, -21},
		{end, -25, 1024, 0, -15},
		{end, -7, 1024, 0, 0},
		{end, -7, 0, 0, -7},
	} {
		what := fmt.Sprintf("synced at %d, %d left", r.at, r.left)
		c := amid(10, r.at, r.left)
		ticks(t, what, c, r.inc, r.by)
		holds(t, fmt.Sprintf("%s, behind Tick(%d)", what, r.inc), c, api.Synced, r.at+r.by, r.rest)
		if r.left == 0 {
			c = in(10, api.Rough, r.at)
			ticks(t, fmt.Sprintf("rough at %d", r.at), c, r.inc, r.by)
			holds(t, fmt.Sprintf("rough at %d, behind Tick(%d)", r.at, r.inc), c, api.Rough, r.at+r.by, 0)
		}
	}
	for _, phase := range []int{api.Rough, api.Synced} {
		c := in(256, phase, end-2500)
		ticks(t, "to the end", c, 1024, 1024, 1024, 452, 0, 0)
		holds(t, "to the end", c, phase, end, 0)
	}
	c := in(10, api.Rough, end)
	c.Tick(1024)
	says(t, "at the end of time, Correct(-1024)", c.Correct(-1024), api.OK)
	ticks(t, "rough at the end of time, corrected", c, 1000, 1000, 24)
}

// What nil answers.
func TestNil(t *testing.T) {
	var c *Clock
	for _, x := range wild {
		says(t, "nil, Boot", c.Boot(x), api.ErrArg)
		says(t, "nil, Guess", c.Guess(x), api.ErrArg)
		says(t, "nil, Correct", c.Correct(x), api.ErrArg)
		ticks(t, "nil", c, x, 0, 0)
		holds(t, "nil", c, api.Cold, 0, 0)
		c.Reset()
		holds(t, "nil, reset", c, api.Cold, 0, 0)
	}
	likeNew(t, "one that is none of it", New(10), 10)
}

// One that New did not make ends each call, too: it is a cold one of the least slew.
func TestNotMadeByNew(t *testing.T) {
	likeNew(t, "not made by New", new(Clock), 1)
	next := chance(222)
	for range 500 {
		c, p := new(Clock), plainNew(1)
		c.Reset()
		for range 20 {
			done(t, "not made by New", drawn(next), c, p)
		}
	}
}

// Clocks that are told of by turns do what each would do alone.
func TestClocksDoNotTouchOneAnother(t *testing.T) {
	a, b := New(10), New(10)
	if a == b {
		t.Fatal("two new clocks are one")
	}
	a.Boot(1000)
	holds(t, "the other one was booted", b, api.Cold, 0, 0)
	b.Guess(70)
	holds(t, "the other one was guessed", a, api.Synced, 1000, 0)
	a.Correct(25)
	holds(t, "the other one was aimed", b, api.Rough, 70, 0)
	b.Correct(5)
	holds(t, "the other one was corrected", a, api.Synced, 1000, 25)
	ticks(t, "its own", a, 100, 110)
	holds(t, "the other one's tick", b, api.Synced, 75, 0)
	c := New(3)
	c.Boot(7)
	c.Correct(-7)
	ticks(t, "a third, of its own slew", c, 100, 97)
	ticks(t, "the first, of its own slew", a, 100, 110, 105, 100)
	a.Reset()
	holds(t, "the other one was reset", b, api.Synced, 75, 0)
	holds(t, "the first one was reset", c, api.Synced, 104, -4)
	holds(t, "reset", a, api.Cold, 0, 0)

	next := chance(223)
	var many [40]*Clock
	var read [40]*plain
	for i := range many {
		slew := int64(below(next, 300)) - 20
		many[i], read[i] = New(slew), plainNew(slew)
	}
	for range 30000 {
		i, o := below(next, len(many)), below(next, len(many))
		done(t, fmt.Sprintf("clock %d", i), drawn(next), many[i], read[i])
		same(t, fmt.Sprintf("clock %d, amid clock %d's", o, i), many[o], read[o])
		if t.Failed() {
			return
		}
	}
}

// drawn draws a doing of some kind, resets the least of all.
func drawn(next func() uint64) doing {
	switch below(next, 16) {
	case 0:
		return doing{"Boot", drawnTime(next)}
	case 1, 2:
		return doing{"Guess", drawnTime(next)}
	case 3, 4, 5, 6:
		return doing{"Correct", drawnCorrection(next)}
	case 7:
		if below(next, 3) == 0 {
			return doing{"Reset", 0}
		}
	}
	return doing{"Tick", drawnInc(next)}
}

// drawnTime draws a time of some kind: any at all, a small one, or one about the end.
func drawnTime(next func() uint64) int64 {
	switch below(next, 4) {
	case 0:
		return whole(next)
	case 1:
		return end + 2 - int64(below(next, 4000))
	case 2:
		return int64(below(next, 10)) - 3
	}
	return int64(below(next, 5000))
}

// drawnCorrection draws a correction of some kind: any at all, small ones, one about an end.
func drawnCorrection(next func() uint64) int64 {
	d := whole(next)
	switch below(next, 5) {
	case 0:
		d = int64(below(next, 5000))
	case 1:
		d = end + 2 - int64(below(next, 4000))
	case 2, 3:
		d = int64(below(next, 300))
	}
	if below(next, 2) == 0 {
		return -d // of the least number that is that one again
	}
	return d
}

// drawnInc draws an inc of some kind: any at all, a small one, about the greatest, or that of a clock that goes well.
func drawnInc(next func() uint64) int64 {
	switch below(next, 6) {
	case 0:
		return whole(next)
	case 1:
		return int64(below(next, 12)) - 3
	case 2:
		return top + int64(below(next, 7)) - 3
	case 3:
		return int64(below(next, 300))
	}
	return 1024 + int64(below(next, 129)) - 64
}

// All plays of five doings, low and at the end of time.
func TestAllShortPlays(t *testing.T) {
	for _, slew := range []int64{2, 10} {
		for _, few := range [][]doing{
			{{"Boot", 4}, {"Guess", 6}, {"Correct", -3}, {"Correct", 5}, {"Correct", least}, {"Reset", 0}, {"Tick", 1}, {"Tick", 7}},
			{{"Boot", end - 6}, {"Guess", greatest}, {"Correct", -3}, {"Correct", 5}, {"Correct", greatest}, {"Reset", 0}, {"Tick", 1}, {"Tick", 7}},
		} {
			play := make([]doing, 5)
			for n := range 1 << 15 {
				for k := range play {
					play[k] = few[n>>(3*k)&7]
				}
				played(t, slew, play)
				if t.Failed() {
					return
				}
			}
		}
	}
}

// Plays by chance: each answer against the chapter read plainly, and Now tells what Tick adds up to.
func TestPlaysByChance(t *testing.T) {
	next := chance(224)
	var in [3]int
	var refused, atEnd, still, made int
	for range 8000 {
		slew := whole(next)
		if below(next, 3) > 0 {
			slew = int64(below(next, 262)) - 3
		}
		c, p := New(slew), plainNew(slew)
		what := fmt.Sprintf("New(%d)", slew)
		same(t, what, c, p)
		sum := new(big.Int)
		for range 1 + below(next, 60) {
			d, was, left := drawn(next), c.Phase(), c.Left()
			got, want := d.do(c), d.read(p)
			if got != want {
				t.Fatalf("%s: %v in phase %d, %d left: %d; wanted %d", what, d, was, left, got, want)
			}
			same(t, fmt.Sprintf("%s, behind %v in phase %d, %d left", what, d, was, left), c, p)
			at, _ := c.Now()
			if d.call == "Tick" {
				sum.Add(sum, big64(got))
			} else {
				sum.SetInt64(at)
			}
			if sum.Cmp(big64(at)) != 0 {
				t.Fatalf("%s: %v: %d; Tick adds up to %v", what, d, at, sum)
			}
			in[c.Phase()]++
			switch {
			case d.call != "Tick" && got == int64(api.ErrPhase):
				refused++
			case d.call == "Tick" && was != api.Cold && at == end:
				atEnd++
			case d.call == "Tick" && left < 0 && got == 0:
				still++
			case d.call == "Tick" && left != c.Left():
				made++
			}
		}
		if t.Failed() {
			return
		}
	}
	if in[0] < 10000 || in[1] < 10000 || in[2] < 10000 || refused < 5000 || atEnd < 2000 || still < 500 || made < 5000 {
		t.Error("too few:", in, refused, atEnd, still, made)
	}
}

// P22.5

// From the first time that it is synced no call but Reset has a clock go back or leave that phase; and a tick tells by how much it went on.
func TestNeverBack(t *testing.T) {
	next := chance(225)
	for range 8000 {
		slew := slews[below(next, len(slews))]
		c := in(slew, below(next, 3), drawnTime(next))
		for range 1 + below(next, 80) {
			phase := c.Phase()
			was, _ := c.Now()
			d := drawn(next)
			got := d.do(c)
			at, ok := c.Now()
			if phase != api.Synced || d.call == "Reset" {
				continue
			}
			if c.Phase() != api.Synced || !ok || at < was || d.call != "Tick" && at != was || d.call == "Tick" && at-was != got {
				t.Fatalf("New(%d): %v of a synced clock at %d: %d, and it is in phase %d at %d", slew, d, was, got, c.Phase(), at)
			}
		}
	}
}

// However far a synced clock is to be taken back, by whatever hardware clock, it stands still at most.
func TestTakenBackItStandsStill(t *testing.T) {
	for _, slew := range wild {
		for _, d := range wild {
			c := amid(slew, 5000, d)
			was := int64(5000)
			for _, inc := range wild {
				by := c.Tick(inc)
				at, _ := c.Now()
				if by < 0 || by > top+256 || at != was+by || c.Phase() != api.Synced {
					t.Fatalf("New(%d), Correct(%d), Tick(%d): %d, from %d to %d", slew, d, inc, by, was, at)
				}
				was = at
			}
		}
	}
}

// The readings of the chapter that all is held against, by hand.
func TestPlain(t *testing.T) {
	p := plainNew(10)
	if p.correct(5) != api.ErrPhase || p.tick(9) != 0 || p.phase != 0 {
		t.Error("cold")
	}
	if p.guess(1000) != api.OK || p.boot(1) != api.ErrPhase || p.tick(1024) != 1024 || p.correct(-24) != api.OK || p.phase != 2 || p.at.Int64() != 2000 {
		t.Error("the chapter's example")
	}
	if p.guess(9) != api.ErrPhase || p.boot(9) != api.ErrPhase || p.correct(-25) != api.OK || p.tick(4) != 0 || p.left.Int64() != -21 || p.tick(100) != 90 {
		t.Error("synced")
	}
	p.reset()
	if p.slew != 10 || p.phase != 0 || p.at.Sign() != 0 || p.left.Sign() != 0 || p.boot(greatest) != api.OK || p.at.Int64() != end || p.tick(5) != 0 {
		t.Error("reset")
	}
	if plainNew(0).slew != 1 || plainNew(least).slew != 1 || plainNew(257).slew != 256 {
		t.Error("slew")
	}
	p = alike(1, api.Rough, 5)
	if p.guess(-5) != api.OK || p.at.Sign() != 0 || p.correct(greatest) != api.OK || p.at.Int64() != end || p.correct(least) != api.OK || p.left.Int64() != -end {
		t.Error("ends")
	}
}
