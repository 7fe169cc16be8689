package slew

import (
	"fmt"
	"math"
	"math/big"
	"testing"

	"angelus/api"
)

const (
	least    = math.MinInt64
	greatest = math.MaxInt64
	end      = 1 << 60 // the end of time
	top      = 1 << 20 // what a hardware clock goes on by in a tick at most
)

// wild are numbers all over int64. Sums and products of some of them go round to small ones, and some would be within
// the ends if only their lower bits were taken or their sign lost.
var wild = []int64{
	least, least + 1, least + 10, least + 256, least + top, -1 << 62, -end - 257, -end - 1, -end, -end + 1, -end + 256, -1 << 53, -1 << 40,
	-1<<32 - 1, -1 << 32, -1<<32 + 1, -1<<32 + 10, math.MinInt32, -top - 1, -top, -top + 1, -1 << 16, -1025, -1024, -1023,
	-513, -512, -511, -257, -256, -255, -128, -100, -21, -20, -19, -11, -10, -9, -3, -2, -1,
	0, 1, 2, 3, 4, 9, 10, 11, 19, 20, 21, 25, 100, 127, 128, 254, 255, 256, 257, 258, 511, 512, 513, 1023, 1024, 1025,
	1 << 16, top - 257, top - 256, top - 1, top, top + 1, top + 256, math.MaxInt32, 1 << 31, 1<<32 - 1, 1 << 32, 1<<32 + 1, 1<<32 + 10, 1<<32 + 256,
	1 << 40, 1 << 53, end - 257, end - 256, end - 255, end - 1, end, end + 1, end + 256, 1 << 62, 1<<62 + 1, greatest - top, greatest - 256,
	greatest - 255, greatest - 1, greatest,
}

// some are mosts within their ends.
var some = []int64{1, 2, 3, 7, 10, 32, 100, 128, 254, 255, 256}

// chance answers numbers of no rule, the same ones each time.
func chance(x uint64) func() uint64 {
	return func() uint64 {
		x ^= x << 13
		x ^= x >> 7
		x ^= x << 17
		return x >> 8
	}
}

// below draws a number from 0 on below n.
func below(next func() uint64, n int) int { return int(next() % uint64(n)) }

// whole draws a number out of the whole of int64, most of them by few bits.
func whole(next func() uint64) int64 {
	switch below(next, 4) {
	case 0:
		return wild[below(next, len(wild))]
	case 1:
		return wild[below(next, len(wild))] + int64(below(next, 5)) - 2 // it may go round: that is a number, too
	}
	return int64(next()<<8^next()) >> below(next, 64)
}

// The chapter, read plainly, by whole numbers without ends, and grain by grain.

func big64(x int64) *big.Int { return big.NewInt(x) }

// kept is a whole number, kept from one to another one.
func kept(x *big.Int, lo, hi int64) *big.Int {
	if x.Cmp(big64(lo)) < 0 {
		return big64(lo)
	}
	if x.Cmp(big64(hi)) > 0 {
		return big64(hi)
	}
	return x
}

// plain is a correction as the chapter tells of it.
type plain struct {
	most int64
	left *big.Int
}

func plainNew(most int64) *plain { return &plain{kept(big64(most), 1, 256).Int64(), new(big.Int)} }

func (p *plain) aim(c int64) { p.left = kept(big64(c), -end, end) }

// step makes one grain behind the other, as long as there is one left, and one that may be made.
func (p *plain) step(inc int64) int64 {
	by := kept(big64(inc), 0, top).Int64()
	for range p.most {
		switch p.left.Sign() {
		case 1:
			p.left.Sub(p.left, big64(1))
			by++
		case -1:
			if by > 0 {
				p.left.Add(p.left, big64(1))
				by--
			}
		}
	}
	return by
}

// ticks is the least number by which most is not below what is left.
func (p *plain) ticks() int64 {
	size := new(big.Int).Abs(p.left)
	n := new(big.Int).Quo(size, big64(p.most))
	if new(big.Int).Mul(n, big64(p.most)).Cmp(size) < 0 {
		n.Add(n, big64(1))
	}
	return n.Int64()
}

// set is a correction of c, or of what counts as c.
func set(most, c int64) *Slew {
	s := New(most)
	s.Aim(c)
	return s
}

// alike is the same one, read plainly.
func alike(most, c int64) *plain {
	p := plainNew(most)
	p.aim(c)
	return p
}

// holds is whether so much is left, and takes so many steps, however often and in whatever order that is asked.
func holds(t *testing.T, what string, s *Slew, left, ticks int64) {
	t.Helper()
	a, x, y, b := s.Left(), s.Ticks(), s.Ticks(), s.Left()
	if a != left || b != left {
		t.Errorf("%s: Left: %d, %d; wanted %d", what, a, b, left)
	}
	if x != ticks || y != ticks {
		t.Errorf("%s: Ticks: %d, %d; wanted %d", what, x, y, ticks)
	}
}

// steps is whether a clock goes on by so much in each of some steps.
func steps(t *testing.T, what string, s *Slew, inc int64, by ...int64) {
	t.Helper()
	for k, want := range by {
		if got := s.Step(inc); got != want {
			t.Errorf("%s: Step(%d), the %dth: %d; wanted %d", what, inc, k+1, got, want)
		}
	}
}

// same is whether a correction tells what the one does that is read plainly.
func same(t *testing.T, what string, s *Slew, p *plain) {
	t.Helper()
	holds(t, what, s, p.left.Int64(), p.ticks())
}

// stepped is whether a step of a correction is what it is of the one that is read plainly.
func stepped(t *testing.T, what string, s *Slew, p *plain, inc int64) {
	t.Helper()
	if got, want := s.Step(inc), p.step(inc); got != want {
		t.Errorf("%s: Step(%d): %d; wanted %d", what, inc, got, want)
	}
	same(t, fmt.Sprintf("%s, behind Step(%d)", what, inc), s, p)
}

// The chapter's examples.
func TestExample(t *testing.T) {
	s := New(10)
	s.Aim(-25)
	holds(t, "the first", s, -25, 3)
	steps(t, "the first", s, 100, 90, 90, 95, 100)
	holds(t, "the first, at last", s, 0, 0)
	o := New(10)
	o.Aim(-25)
	steps(t, "the second", o, 4, 0)
	holds(t, "the second", o, -21, 3)
}

// The limits are those that the chapter names.
func TestLimits(t *testing.T) {
	if api.MaxSlew != 256 || api.MaxTime != end {
		t.Error(api.MaxSlew, int64(api.MaxTime))
	}
}

// P21.1

// How much a step makes at most is all that New tells.
func TestNewByHand(t *testing.T) {
	for _, r := range []struct{ most, want int64 }{
		{least, 1}, {least + 1, 1}, {least + 10, 1}, {-1 << 32, 1}, {-1<<32 + 10, 1}, {-256, 1}, {-10, 1}, {-2, 1}, {-1, 1}, {0, 1},
		{1, 1}, {2, 2}, {3, 3}, {10, 10}, {128, 128}, {254, 254}, {255, 255}, {256, 256}, {257, 256}, {258, 256}, {511, 256}, {512, 256},
		{1024, 256}, {1<<32 + 10, 256}, {1 << 40, 256}, {end, 256}, {greatest - 1, 256}, {greatest, 256},
	} {
		what := fmt.Sprintf("New(%d)", r.most)
		s := New(r.most)
		if s == nil {
			t.Fatalf("%s: nil", what)
		}
		holds(t, what, s, 0, 0)
		steps(t, what+", of nothing", s, 1024, 1024, 1024)
		holds(t, what+", of nothing, behind steps", s, 0, 0)
		s.Aim(600)
		steps(t, what+", ahead", s, 1024, 1024+r.want, 1024+r.want)
		s.Aim(-600)
		steps(t, what+", behind", s, 1024, 1024-r.want, 1024-r.want)
	}
}

func TestAllMosts(t *testing.T) {
	for most := int64(-300); most <= 700; most++ {
		want := most
		if want < 1 {
			want = 1
		}
		if want > 256 {
			want = 256
		}
		for _, sign := range []int64{1, -1} {
			s := set(most, sign*5000)
			if got := s.Step(5000) - 5000; got != sign*want {
				t.Errorf("New(%d): it makes %d; wanted %d", most, got, sign*want)
			}
			holds(t, fmt.Sprintf("New(%d)", most), s, sign*(5000-want), (5000-1)/want)
		}
	}
}

// What each c counts as, whatever was left.
func TestAimByHand(t *testing.T) {
	for _, r := range []struct{ c, want int64 }{
		{least, -end}, {least + 1, -end}, {-1 << 62, -end}, {-end - 2, -end}, {-end - 1, -end}, {-end, -end}, {-end + 1, -end + 1}, {-end + 2, -end + 2},
		{-1 << 40, -1 << 40}, {-1 << 32, -1 << 32}, {-257, -257}, {-25, -25}, {-2, -2}, {-1, -1}, {0, 0}, {1, 1}, {2, 2}, {25, 25}, {257, 257},
		{1 << 32, 1 << 32}, {1 << 40, 1 << 40}, {end - 2, end - 2}, {end - 1, end - 1}, {end, end}, {end + 1, end}, {end + 2, end}, {1 << 62, end},
		{greatest - 1, end}, {greatest, end},
	} {
		for _, was := range []int64{0, 1, -1, 5, -5, 300, -300, end - 1, 1 - end, end, -end} {
			s := New(1)
			s.Aim(was)
			s.Aim(r.c)
			size := r.want
			if size < 0 {
				size = -size
			}
			what := fmt.Sprintf("Aim(%d) behind Aim(%d)", r.c, was)
			holds(t, what, s, r.want, size) // of a most of 1 each grain is a step
			s.Aim(r.c)
			holds(t, what+", twice", s, r.want, size)
		}
	}
}

// Aim sets what is left, and adds nothing to it: what was left, or was made already, counts no more.
func TestAimSets(t *testing.T) {
	s := New(10)
	s.Aim(25)
	s.Aim(25)
	holds(t, "the same twice", s, 25, 3)
	steps(t, "the same twice", s, 100, 110, 110)
	holds(t, "a part of it made", s, 5, 1)
	s.Aim(25)
	holds(t, "the same again, a part of it made", s, 25, 3)
	steps(t, "the same again", s, 100, 110)
	s.Aim(-7)
	holds(t, "of the other sign", s, -7, 1)
	steps(t, "of the other sign", s, 100, 93, 100)
	s.Aim(-30)
	steps(t, "taken back", s, 100, 90)
	s.Aim(-3)
	holds(t, "less, of the same sign", s, -3, 1)
	steps(t, "less, of the same sign", s, 100, 97, 100, 100)
	s.Aim(end)
	s.Aim(end)
	holds(t, "the greatest twice", s, end, (end+9)/10)
	s.Aim(-end)
	s.Aim(-end)
	holds(t, "the least twice", s, -end, (end+9)/10)
	s.Aim(4)
	s.Aim(0)
	holds(t, "nothing", s, 0, 0)
	steps(t, "nothing", s, 100, 100)
}

func TestAimAllOver(t *testing.T) {
	for _, was := range wild {
		for _, c := range wild {
			s, p := set(10, was), alike(10, was)
			what := fmt.Sprintf("Aim(%d) behind Aim(%d)", c, was)
			same(t, "Aim alone", s, p)
			s.Aim(c)
			p.aim(c)
			same(t, what, s, p)
			stepped(t, what, s, p, 1024)
		}
	}
}

// No Aim changes how much a step makes.
func TestAimLeavesMost(t *testing.T) {
	for _, most := range some {
		s := New(most)
		for _, c := range wild {
			s.Aim(c)
			s.Aim(1000)
			steps(t, fmt.Sprintf("most %d, behind Aim(%d)", most, c), s, 1000, 1000+most)
			s.Aim(-1000)
			steps(t, fmt.Sprintf("most %d, behind Aim(%d)", most, c), s, 1000, 1000-most)
		}
	}
}

// P21.2

func TestStepByHand(t *testing.T) {
	for _, r := range []struct{ most, left, inc, by, rest int64 }{
		{10, -25, 100, 90, -15}, // the chapter's
		{10, -15, 100, 90, -5},
		{10, -5, 100, 95, 0},
		{10, 0, 100, 100, 0},
		{10, -25, 4, 0, -21},
		// nothing left
		{10, 0, least, 0, 0},
		{10, 0, -1, 0, 0},
		{10, 0, 0, 0, 0},
		{10, 0, 1, 1, 0},
		{10, 0, 9, 9, 0},
		{10, 0, 10, 10, 0},
		{10, 0, 11, 11, 0},
		{10, 0, top - 1, top - 1, 0},
		{10, 0, top, top, 0},
		{10, 0, top + 1, top, 0},
		{10, 0, greatest, top, 0},
		// less than most left
		{10, 7, least, 7, 0},
		{10, 7, -1, 7, 0},
		{10, 7, 0, 7, 0},
		{10, 7, 1, 8, 0},
		{10, 7, 9, 16, 0},
		{10, 7, 10, 17, 0},
		{10, 7, 11, 18, 0},
		{10, 7, top - 1, top + 6, 0},
		{10, 7, top, top + 7, 0},
		{10, 7, top + 1, top + 7, 0},
		{10, 7, greatest, top + 7, 0},
		{10, -7, least, 0, -7},
		{10, -7, -1, 0, -7},
		{10, -7, 0, 0, -7},
		{10, -7, 1, 0, -6},
		{10, -7, 6, 0, -1},
		{10, -7, 7, 0, 0},
		{10, -7, 8, 1, 0},
		{10, -7, 9, 2, 0},
		{10, -7, 10, 3, 0},
		{10, -7, 11, 4, 0},
		{10, -7, top - 1, top - 8, 0},
		{10, -7, top, top - 7, 0},
		{10, -7, top + 1, top - 7, 0},
		{10, -7, greatest, top - 7, 0},
		// just most left
		{10, 10, least, 10, 0},
		{10, 10, -1, 10, 0},
		{10, 10, 0, 10, 0},
		{10, 10, 1, 11, 0},
		{10, 10, 9, 19, 0},
		{10, 10, 10, 20, 0},
		{10, 10, 11, 21, 0},
		{10, 10, top - 1, top + 9, 0},
		{10, 10, top, top + 10, 0},
		{10, 10, top + 1, top + 10, 0},
		{10, 10, greatest, top + 10, 0},
		{10, -10, least, 0, -10},
		{10, -10, -1, 0, -10},
		{10, -10, 0, 0, -10},
		{10, -10, 1, 0, -9},
		{10, -10, 9, 0, -1},
		{10, -10, 10, 0, 0},
		{10, -10, 11, 1, 0},
		{10, -10, top - 1, top - 11, 0},
		{10, -10, top, top - 10, 0},
		{10, -10, top + 1, top - 10, 0},
		{10, -10, greatest, top - 10, 0},
		// more than most left
		{10, 11, least, 10, 1},
		{10, 11, -1, 10, 1},
		{10, 11, 0, 10, 1},
		{10, 11, 1, 11, 1},
		{10, 11, 9, 19, 1},
		{10, 11, 10, 20, 1},
		{10, 11, 11, 21, 1},
		{10, 11, top - 1, top + 9, 1},
		{10, 11, top, top + 10, 1},
		{10, 11, top + 1, top + 10, 1},
		{10, 11, greatest, top + 10, 1},
		{10, -11, least, 0, -11},
		{10, -11, -1, 0, -11},
		{10, -11, 0, 0, -11},
		{10, -11, 1, 0, -10},
		{10, -11, 9, 0, -2},
		{10, -11, 10, 0, -1},
		{10, -11, 11, 1, -1},
		{10, -11, 12, 2, -1},
		{10, -11, top - 1, top - 11, -1},
		{10, -11, top, top - 10, -1},
		{10, -11, top + 1, top - 10, -1},
		{10, -11, greatest, top - 10, -1},
		// as much as may be left, by the least and by the most
		{1, end, 0, 1, end - 1},
		{1, end, greatest, top + 1, end - 1},
		{1, -end, 0, 0, -end},
		{1, -end, 1, 0, 1 - end},
		{1, -end, 2, 1, 1 - end},
		{1, -end, greatest, top - 1, 1 - end},
		{256, end, least, 256, end - 256},
		{256, end, top, top + 256, end - 256},
		{256, -end, least, 0, -end},
		{256, -end, 255, 0, 255 - end},
		{256, -end, 256, 0, 256 - end},
		{256, -end, 257, 1, 256 - end},
		{256, -end, greatest, top - 256, 256 - end},
		{1, 1, 0, 1, 0},
		{1, -1, 0, 0, -1},
		{1, -1, 1, 0, 0},
		{1, -2, 1, 0, -1},
		{256, -256, 256, 0, 0},
		{256, 300, 1024, 1280, 44},
		{256, -300, 1024, 768, -44},
	} {
		s := set(r.most, r.left)
		what := fmt.Sprintf("most %d, %d left", r.most, r.left)
		steps(t, what, s, r.inc, r.by)
		if got := s.Left(); got != r.rest {
			t.Errorf("%s, behind Step(%d): Left: %d; wanted %d", what, r.inc, got, r.rest)
		}
	}
}

// All that small numbers come to.
func TestAllSmallSteps(t *testing.T) {
	for most := int64(1); most <= 12; most++ {
		for left := int64(-30); left <= 30; left++ {
			for inc := int64(-4); inc <= 30; inc++ {
				stepped(t, fmt.Sprintf("most %d, %d left", most, left), set(most, left), alike(most, left), inc)
			}
		}
	}
}

// Each most, at what is left about it, with incs about it and about all ends.
func TestStepsAboutEachMost(t *testing.T) {
	for most := int64(1); most <= 256; most++ {
		incs := []int64{least, -most - 1, -most, -1, 0, 1, 2, most - 1, most, most + 1, 2 * most, 2*most + 1, top - 1, top, top + 1, top + most, greatest}
		for _, size := range []int64{0, 1, most - 1, most, most + 1, 2*most - 1, 2 * most, 2*most + 1, end - 1, end} {
			for _, left := range []int64{size, -size} {
				for _, inc := range incs {
					stepped(t, fmt.Sprintf("most %d, %d left", most, left), set(most, left), alike(most, left), inc)
				}
			}
		}
	}
}

// Each size of a correction about the greatest most, and each inc up to it: as much is taken back as there is, and the clock stands still.
func TestAllIncsUpToMost(t *testing.T) {
	for size := int64(0); size <= 300; size++ {
		for inc := int64(-1); inc <= 300; inc++ {
			may := min(max(inc, 0), 256, size)
			s := set(256, -size)
			if got := s.Step(inc); got != max(inc, 0)-may || s.Left() != may-size {
				t.Fatalf("%d left: Step(%d): %d, and %d left", -size, inc, got, s.Left())
			}
		}
	}
}

func TestStepsAllOver(t *testing.T) {
	for _, most := range []int64{least, 0, 1, 2, 10, 255, 256, greatest} {
		for _, left := range wild {
			for _, inc := range wild {
				stepped(t, fmt.Sprintf("most %d, %d left", most, left), set(most, left), alike(most, left), inc)
			}
			if t.Failed() {
				return
			}
		}
	}
}

// A clock from which more is taken back than it goes on by stands still, and what it has gone on by is made, no more.
func TestClocksThatStandStill(t *testing.T) {
	s := set(256, -1000)
	steps(t, "it stands still", s, 100, 0, 0, 0)
	holds(t, "100 a step", s, -700, 3)
	steps(t, "it stands still", s, 1, 0)
	holds(t, "1 a step", s, -699, 3)
	steps(t, "just most", s, 256, 0, 0)
	holds(t, "just most", s, -187, 1)
	steps(t, "more than is left", s, 188, 1)
	holds(t, "more than is left", s, 0, 0)
	steps(t, "nothing left", s, 188, 188)
}

// Nothing is taken back from a clock that stands still anyhow; it is left as it was, however often.
func TestNothingIsTakenBackFromNothing(t *testing.T) {
	for _, most := range some {
		for _, left := range []int64{-1, -2, -9, -10, -11, -255, -256, -257, -1 << 40, 1 - end, -end} {
			s := set(most, left)
			n := alike(most, left).ticks()
			for _, inc := range []int64{0, -1, -2, -10, -256, -1024, -1 << 32, -1<<32 + 5, -end, least + 1, least} {
				what := fmt.Sprintf("most %d, %d left, an inc of %d", most, left, inc)
				steps(t, what, s, inc, 0, 0, 0)
				holds(t, what, s, left, n)
			}
		}
	}
}

// What is added comes, though the hardware clock stands still.
func TestAddedToNothing(t *testing.T) {
	for _, inc := range []int64{0, -1, -2, -10, -256, -1024, -1 << 32, -1<<32 + 5, -end, least + 1, least} {
		s := set(10, 25)
		what := fmt.Sprintf("an inc of %d", inc)
		steps(t, what, s, inc, 10, 10, 5, 0, 0)
		holds(t, what, s, 0, 0)
	}
}

// From 2^20 on all incs are one, and what is made comes on top of it, or is taken back from it.
func TestIncsTooGreat(t *testing.T) {
	for _, inc := range []int64{top, top + 1, top + 10, top + 256, 1 << 21, 1 << 32, 1<<32 + 100, 1 << 40, end, end + 1, greatest - 256, greatest - 10, greatest - 9, greatest} {
		what := fmt.Sprintf("an inc of %d", inc)
		steps(t, what, set(10, 0), inc, top, top)
		steps(t, what, set(10, 25), inc, top+10, top+10, top+5, top)
		steps(t, what, set(10, -25), inc, top-10, top-10, top-5, top)
	}
}

// P21.3

func TestTicksByHand(t *testing.T) {
	for _, r := range []struct{ most, size, want int64 }{
		{10, 25, 3}, // the chapter's
		{1, 0, 0},
		{1, 1, 1},
		{1, 2, 2},
		{1, end - 1, end - 1},
		{1, end, end},
		{2, 0, 0},
		{2, 1, 1},
		{2, 2, 1},
		{2, 3, 2},
		{2, 4, 2},
		{2, 5, 3},
		{2, end - 1, 1 << 59},
		{2, end, 1 << 59},
		{255, 0, 0},
		{255, 1, 1},
		{255, 254, 1},
		{255, 255, 1},
		{255, 256, 2},
		{255, 509, 2},
		{255, 510, 2},
		{255, 511, 3},
		{255, end, 4521260802379793},
		{256, 0, 0},
		{256, 1, 1},
		{256, 255, 1},
		{256, 256, 1},
		{256, 257, 2},
		{256, 511, 2},
		{256, 512, 2},
		{256, 513, 3},
		{256, end - 256, 1<<52 - 1},
		{256, end - 255, 1 << 52},
		{256, end - 1, 1 << 52},
		{256, end, 1 << 52},
	} {
		holds(t, fmt.Sprintf("most %d", r.most), set(r.most, r.size), r.size, r.want)
		holds(t, fmt.Sprintf("most %d", r.most), set(r.most, -r.size), -r.size, r.want)
	}
	holds(t, "a most too small", set(0, 7), 7, 7)
	holds(t, "a most far too small", set(least, -7), -7, 7)
	holds(t, "a most too great", set(257, 512), 512, 2)
	holds(t, "a most far too great", set(greatest, -513), -513, 3)
	holds(t, "a c too small", set(256, least), -end, 1<<52)
	holds(t, "a c too great", set(256, greatest), end, 1<<52)
}

// Each most: at a whole number of steps none more is taken, with a grain more there is.
func TestTicksStepByStep(t *testing.T) {
	for most := int64(1); most <= 256; most++ {
		for n := int64(0); n <= 20; n++ {
			for _, sign := range []int64{1, -1} {
				what := fmt.Sprintf("most %d", most)
				holds(t, what, set(most, sign*n*most), sign*n*most, n)
				holds(t, what, set(most, sign*(n*most+1)), sign*(n*most+1), n+1)
				holds(t, what, set(most, sign*(n*most+most)), sign*(n*most+most), n+1)
			}
		}
		for _, c := range wild {
			same(t, fmt.Sprintf("most %d", most), set(most, c), alike(most, c))
		}
	}
}

// As many steps as Ticks tells, found by stepping: the last one leaves nothing, and none ahead of it does.
func TestTicksAreTheSteps(t *testing.T) {
	for _, most := range some {
		for left := int64(-700); left <= 700; left++ {
			s, n := set(most, left), int64(0)
			ticks := s.Ticks()
			for s.Left() != 0 {
				s.Step(1024)
				n++
				if s.Ticks() != ticks-n {
					t.Fatalf("most %d, %d left: Ticks: %d, and %d behind %d steps", most, left, ticks, s.Ticks(), n)
				}
			}
			if n != ticks {
				t.Fatalf("most %d, %d left: Ticks: %d, but it took %d", most, left, ticks, n)
			}
		}
	}
}

// With whatever incs, none takes fewer: each step takes Ticks down by one at most, and never up.
func TestNoFewerSteps(t *testing.T) {
	next := chance(211)
	for range 3000 {
		most := some[below(next, len(some))]
		s := set(most, int64(below(next, 6000))-3000)
		for range 40 {
			was := s.Ticks()
			inc := drawn(next, most)
			s.Step(inc)
			if is := s.Ticks(); is > was || is < was-1 || is < 0 {
				t.Fatalf("most %d: Ticks: %d, and %d behind Step(%d)", most, was, is, inc)
			}
		}
	}
}

// What nil answers.

func TestNil(t *testing.T) {
	var s *Slew
	for _, c := range append([]int64{25, -25}, wild...) {
		s.Aim(c)
		holds(t, "nil", s, 0, 0)
		for _, r := range []struct{ inc, want int64 }{
			{least, 0}, {least + 1, 0}, {-end, 0}, {-1 << 32, 0}, {-1<<32 + 5, 0}, {-1024, 0}, {-1, 0}, {0, 0}, {1, 1}, {4, 4}, {1024, 1024}, {top - 1, top - 1},
			{top, top}, {top + 1, top + 1}, {1 << 40, 1 << 40}, {end, end}, {end + 1, end + 1}, {greatest - 1, greatest - 1}, {greatest, greatest},
		} {
			steps(t, "nil", s, r.inc, r.want, r.want)
		}
		holds(t, "nil behind steps", s, 0, 0)
	}
	o := New(10)
	holds(t, "one that is none of it", o, 0, 0)
	steps(t, "one that is none of it", o, 7, 7)
}

// One that New did not make ends each call, too, and is as one of the least most.
func TestNotMadeByNew(t *testing.T) {
	s := new(Slew)
	holds(t, "of nothing", s, 0, 0)
	steps(t, "of nothing", s, 5, 5)
	for _, c := range wild {
		s.Aim(c)
		p := alike(1, c)
		same(t, "not made by New", s, p)
		stepped(t, "not made by New", s, p, 9)
	}
}

// Asking changes nothing.
func TestAskingChangesNothing(t *testing.T) {
	for _, most := range some {
		for _, c := range wild {
			a, b := set(most, c), set(most, c)
			for k := range 6 {
				for range k {
					a.Left()
					a.Ticks()
					a.Ticks()
					a.Left()
				}
				inc := wild[(k*17+int(most))%len(wild)]
				if x, y := a.Step(inc), b.Step(inc); x != y || a.Left() != b.Left() || a.Ticks() != b.Ticks() {
					t.Fatalf("most %d, Aim(%d): Step(%d): %d of one that was asked, %d of one that was not", most, c, inc, x, y)
				}
			}
		}
	}
}

// Corrections that are told of by turns do what each would do alone.
func TestCorrectionsDoNotTouchOneAnother(t *testing.T) {
	a, b := New(10), New(10)
	if a == b {
		t.Fatal("two new corrections are one")
	}
	a.Aim(25)
	holds(t, "the other one was aimed", b, 0, 0)
	b.Aim(-7)
	holds(t, "its own", a, 25, 3)
	steps(t, "its own", a, 100, 110)
	holds(t, "the other one's step", b, -7, 1)
	steps(t, "its own", b, 100, 93)
	holds(t, "the other one's step", a, 15, 2)
	c := New(3)
	holds(t, "a third", c, 0, 0)
	c.Aim(7)
	steps(t, "a third, of its own most", c, 100, 103)
	steps(t, "the first, of its own most", a, 100, 110, 105, 100)
	holds(t, "a third", c, 4, 2)

	next := chance(212)
	var many [40]*Slew
	var read [40]*plain
	for i := range many {
		most := int64(below(next, 300)) - 20
		many[i], read[i] = New(most), plainNew(most)
	}
	for range 20000 {
		i := below(next, len(many))
		if below(next, 8) == 0 {
			c := int64(below(next, 4000)) - 2000
			many[i].Aim(c)
			read[i].aim(c)
		} else {
			stepped(t, fmt.Sprintf("correction %d", i), many[i], read[i], int64(below(next, 1100)))
		}
		o := below(next, len(many))
		same(t, fmt.Sprintf("correction %d, amid correction %d's", o, i), many[o], read[o])
		if t.Failed() {
			return
		}
	}
}

// drawn draws an inc of some kind: any at all, small, about most, about the greatest, or that of a clock that goes well.
func drawn(next func() uint64, most int64) int64 {
	switch below(next, 6) {
	case 0:
		return whole(next)
	case 1:
		return int64(below(next, 12)) - 3
	case 2:
		return most + int64(below(next, 7)) - 3
	case 3:
		return top + int64(below(next, 7)) - 3
	case 4:
		return int64(below(next, 300))
	}
	return 1024 + int64(below(next, 129)) - 64
}

// aimed draws a correction of some kind: any at all, a small one, one about some steps, or one about the ends.
func aimed(next func() uint64, most int64) int64 {
	c := whole(next)
	switch below(next, 5) {
	case 0:
		c = int64(below(next, 2000))
	case 1:
		c = most*int64(below(next, 6)) + int64(below(next, 3)) - 1
	case 2:
		c = end + int64(below(next, 5)) - 2
	case 3:
		c = int64(below(next, 30))
	}
	if below(next, 2) == 0 {
		return -c // of the least number that is that one again
	}
	return c
}

// Plays by chance: each answer against the chapter read plainly, no step back, most at most made, and what is made is just what is left no more.
func TestPlaysByChance(t *testing.T) {
	next := chance(213)
	var still, made, ended int
	for range 6000 {
		told := whole(next)
		if below(next, 3) > 0 {
			told = int64(below(next, 262)) - 3
		}
		s, p := New(told), plainNew(told)
		what := fmt.Sprintf("New(%d)", told)
		same(t, what, s, p)
		for range 1 + below(next, 50) {
			if below(next, 6) == 0 {
				c := aimed(next, p.most)
				s.Aim(c)
				p.aim(c)
				same(t, fmt.Sprintf("%s, Aim(%d)", what, c), s, p)
				continue
			}
			inc, was := drawn(next, p.most), s.Left()
			by := s.Step(inc)
			part := by - max(0, min(inc, top))
			if want := p.step(inc); by != want || by < 0 || part > p.most || part < -p.most || was-s.Left() != part {
				t.Fatalf("%s, %d left: Step(%d): %d, and %d left; wanted %d", what, was, inc, by, s.Left(), want)
			}
			same(t, fmt.Sprintf("%s, %d left, behind Step(%d)", what, was, inc), s, p)
			if part != 0 {
				made++
			}
			if part < 0 && by == 0 {
				still++
			}
			if part != 0 && s.Left() == 0 {
				ended++
			}
		}
		if t.Failed() {
			return
		}
	}
	if still < 500 || made < 5000 || ended < 500 {
		t.Errorf("%d of the steps made a part, %d stood still, %d made the last part", made, still, ended)
	}
}

// A part that is made is towards nothing and not beyond it, whatever comes.
func TestTowardsNothing(t *testing.T) {
	next := chance(214)
	for range 30000 {
		most := int64(1 + below(next, 256))
		s := set(most, aimed(next, most))
		was := s.Left()
		for range 10 {
			s.Step(drawn(next, most))
			is := s.Left()
			if was >= 0 && (is < 0 || is > was) || was <= 0 && (is > 0 || is < was) {
				t.Fatalf("most %d: %d left, and then %d", most, was, is)
			}
			was = is
		}
	}
}

// P21.4

// No step goes back, whatever is left and whatever the hardware clock does.
func TestNeverBack(t *testing.T) {
	for _, most := range wild {
		for _, c := range wild {
			s := set(most, c)
			for _, inc := range wild {
				if by := s.Step(inc); by < 0 || by > top+256 {
					t.Fatalf("New(%d), Aim(%d): Step(%d): %d", most, c, inc, by)
				}
			}
		}
	}
}

// comes is whether in so many steps as Ticks tells a clock has gone on by all incs and the whole correction, and one step less leaves something.
func comes(t *testing.T, most, c int64, inc func() int64) {
	t.Helper()
	s := set(most, c)
	n := s.Ticks()
	all, gone := new(big.Int), new(big.Int)
	for k := range n {
		if s.Left() == 0 {
			t.Fatalf("most %d, Aim(%d): Ticks: %d, but nothing is left behind %d", most, c, n, k)
		}
		i := inc()
		by := s.Step(i)
		if by < 0 {
			t.Fatalf("most %d, Aim(%d): Step(%d): %d", most, c, i, by)
		}
		all.Add(all, kept(big64(i), 0, top))
		gone.Add(gone, big64(by))
	}
	if gone.Sub(gone, all).Cmp(big64(c)) != 0 || s.Left() != 0 || s.Ticks() != 0 {
		t.Fatalf("most %d, Aim(%d): %v beyond all incs in %d steps, and %d left", most, c, gone, n, s.Left())
	}
}

// The least inc that is enough, and greater ones.
func TestTheWholeCorrectionComes(t *testing.T) {
	for most := int64(1); most <= 256; most++ {
		for _, size := range []int64{0, 1, most - 1, most, most + 1, 2*most - 1, 2 * most, 2*most + 1, 7 * most, 1000} {
			for _, inc := range []int64{most, most + 1, 1024, top, greatest} {
				comes(t, most, size, func() int64 { return inc })
				comes(t, most, -size, func() int64 { return inc })
			}
		}
	}
}

func TestTheWholeCorrectionComesByChance(t *testing.T) {
	next := chance(215)
	for range 20000 {
		most := int64(1 + below(next, 256))
		more := 1 + below(next, 2000)
		comes(t, most, int64(below(next, int(60*most)))-30*most, func() int64 {
			if below(next, 50) == 0 {
				return greatest - int64(below(next, more))
			}
			return most + int64(below(next, more))
		})
	}
}

// A correction of as much as may be is too much to be stepped to its end: each of its steps makes most, and takes Ticks down by one.
func TestGreatCorrections(t *testing.T) {
	next := chance(216)
	for _, most := range some {
		for _, c := range []int64{end, end - 1, -end, 1 - end, 1 << 40, -1 << 40} {
			s := set(most, c)
			sign := int64(1)
			if c < 0 {
				sign = -1
			}
			for range 200 {
				inc := most + int64(below(next, 2000))
				was, n := s.Left(), s.Ticks()
				if by := s.Step(inc); by != inc+sign*most || s.Left() != was-sign*most || s.Ticks() != n-1 {
					t.Fatalf("most %d, %d left: Step(%d): %d, and %d left in %d", most, was, inc, by, s.Left(), s.Ticks())
				}
			}
		}
	}
}

// With an inc of less than most at one step the clock may be late: Ticks steps are not enough for it then, if all of them have to take back most.
func TestTooSmallAnIncIsLate(t *testing.T) {
	for most := int64(1); most <= 256; most++ {
		s := set(most, -3*most)
		steps(t, "one too small", s, most-1, 0)
		steps(t, "two that are enough", s, most, 0, 0)
		holds(t, fmt.Sprintf("most %d", most), s, -1, 1)
	}
}

// The readings of the chapter that all is held against, by hand.
func TestPlain(t *testing.T) {
	p := alike(10, -25)
	if p.ticks() != 3 || p.step(100) != 90 || p.step(100) != 90 || p.left.Int64() != -5 || p.step(100) != 95 || p.step(100) != 100 || p.ticks() != 0 {
		t.Error("taken back")
	}
	p = alike(10, 25)
	if p.ticks() != 3 || p.step(-5) != 10 || p.step(greatest) != top+10 || p.step(0) != 5 || p.left.Sign() != 0 {
		t.Error("added")
	}
	p = alike(10, -25)
	if p.step(4) != 0 || p.left.Int64() != -21 || p.step(least) != 0 || p.left.Int64() != -21 {
		t.Error("still")
	}
	if alike(0, 5).most != 1 || alike(least, 5).most != 1 || alike(257, 5).most != 256 || alike(256, 5).most != 256 {
		t.Error("most")
	}
	if alike(1, least).left.Int64() != -end || alike(1, greatest).left.Int64() != end || alike(256, end).ticks() != 1<<52 || alike(2, -3).ticks() != 2 {
		t.Error("left")
	}
}
