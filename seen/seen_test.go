package seen

import (
	"cmp"
	"fmt"
	"math"
	"slices"
	"testing"

	"angelus/api"
)

const (
	least    = math.MinInt64
	greatest = math.MaxInt64
	end      = 1 << 60 // the end of time
)

// ends are the ends and times that the chapter's numbers may come to, and those beside them, rising.
var ends = []int64{least, least + 1, -end, -2, -1, 0, 1, 2, end - 1, end, end + 1, greatest - 1, greatest}

// wild are numbers all over int64, rising.
var wild = []int64{
	least, least + 1, least + 2, -1 << 62, -end - 1, -end, -end + 1, -1<<53 - 1, -1 << 40, -1<<32 - 1, -1 << 32, -1<<32 + 1, math.MinInt32,
	-1 << 16, -1025, -1024, -1000, -100, -11, -10, -9, -3, -2, -1, 0, 1, 2, 3, 9, 10, 11, 100, 1000, 1024, 1025, 1 << 16, math.MaxInt32,
	1 << 31, 1<<32 - 1, 1 << 32, 1<<32 + 1, 1 << 40, 1<<53 + 1, end - 1024, end - 1, end, end + 1, 1 << 62, greatest - 2, greatest - 1, greatest,
}

// mosts are how many names are asked for, and how many these may be.
var mosts = []struct{ most, want int }{
	{math.MinInt, 0}, {math.MinInt + 1, 0}, {-1<<32 + 5, 0}, {-1 << 32, 0}, {-65537, 0}, {-65536, 0}, {-2, 0}, {-1, 0}, {0, 0},
	{1, 1}, {2, 2}, {3, 3}, {255, 255}, {256, 256}, {257, 257}, {1000, 1000}, {65534, 65534}, {65535, 65535}, {65536, 65536},
	{65537, 65536}, {65538, 65536}, {65541, 65536}, {1 << 17, 65536}, {1 << 31, 65536}, {1 << 32, 65536}, {1<<32 + 5, 65536}, {1 << 40, 65536},
	{math.MaxInt - 1, 65536}, {math.MaxInt, 65536},
}

// chance answers numbers of no rule, the same ones each time.
func chance(x uint64) func() uint64 {
	return func() uint64 {
		x ^= x << 13
		x ^= x >> 7
		x ^= x << 17
		return x >> 8
	}
}

// below draws a number from 0 on below n.
func below(next func() uint64, n int) int { return int(next() % uint64(n)) }

// whole draws a number out of the whole of int64.
func whole(next func() uint64) int64 {
	switch below(next, 4) {
	case 0:
		return wild[below(next, len(wild))]
	case 1:
		return wild[below(next, len(wild))] + int64(below(next, 5)) - 2 // it may go round: that is a number, too
	}
	return int64(next()<<8^next()) >> below(next, 64)
}

// mixed is a list in an order of no rule.
func mixed[T any](next func() uint64, l []T) []T {
	l = slices.Clone(l)
	for k := range l {
		j := below(next, k+1)
		l[k], l[j] = l[j], l[k]
	}
	return l
}

// at is a name of a T.
func at(T int64) api.Key { return api.Key{T: T} }

// edges are names of which each field is at its ends and about 0, and such as no message may have, each once.
func edges() []api.Key {
	var l []api.Key
	for _, T := range []int64{least, least + 1, -1, 0, 1, end, end + 1, greatest - 1, greatest} {
		for _, f := range []int{math.MinInt, -1, 0, 1, 63, 64, 1 << 32, math.MaxInt} {
			for _, q := range []uint32{0, 1, 1 << 31, math.MaxUint32} {
				l = append(l, api.Key{T: T, From: f, Seq: q})
			}
		}
	}
	return l
}

// name is one that is there, and till when.
type name struct {
	k   api.Key
	end int64
}

// slow is a Seen as the chapter tells it: a list of what is there, which is gone through for each answer.
type slow struct {
	most  int
	there []name
}

func newSlow(most int) *slow {
	if most < 0 {
		most = 0
	}
	if most > 65536 {
		most = 65536
	}
	return &slow{most: most}
}

func (s *slow) has(k api.Key) bool {
	for _, n := range s.there {
		if n.k.T == k.T && n.k.From == k.From && n.k.Seq == k.Seq {
			return true
		}
	}
	return false
}

func (s *slow) note(k api.Key, end int64) api.Errno {
	if s.has(k) {
		return api.ErrDup
	}
	if len(s.there) == s.most {
		return api.ErrFull
	}
	s.there = append(s.there, name{k, end})
	return api.OK
}

func (s *slow) expire(now int64) int {
	var stay []name
	for _, n := range s.there {
		if n.end >= now {
			stay = append(stay, n)
		}
	}
	went := len(s.there) - len(stay)
	s.there = stay
	return went
}

// pair is a Seen beside the same one told plainly, and which names were ever asked of it.
type pair struct {
	x     *Seen
	s     *slow
	asked []api.Key
}

func made(most int) *pair { return &pair{x: New(most), s: newSlow(most)} }

// with is one that has names.
func with(t *testing.T, most int, l ...name) *pair {
	t.Helper()
	p := made(most)
	for _, n := range l {
		p.notes(t, n.k, n.end, api.OK)
	}
	p.same(t)
	return p
}

// rising is one of n names of T 1, 2, 3 .. whose ends are 10, 20, 30 ..
func rising(t *testing.T, most, n int) *pair {
	t.Helper()
	var l []name
	for i := range int64(n) {
		l = append(l, name{at(i + 1), 10 * (i + 1)})
	}
	return with(t, most, l...)
}

// some is what is there as text, or the beginning of it, if it is long.
func (p *pair) some() string {
	if l := p.s.there; len(l) > 12 {
		return fmt.Sprintf("%v and so on, %d of %d", l[:12], len(l), p.s.most)
	}
	return fmt.Sprintf("%v, of %d", p.s.there, p.s.most)
}

// note is a Note of both, which must answer the same.
func (p *pair) note(t *testing.T, k api.Key, end int64) api.Errno {
	t.Helper()
	if !slices.Contains(p.asked, k) {
		p.asked = append(p.asked, k)
	}
	was := p.some()
	got, want := p.x.Note(k, end), p.s.note(k, end)
	if got != want {
		t.Fatalf("Note(%v, %d): %d; wanted %d; there: %s", k, end, got, want, was)
	}
	p.many(t)
	return got
}

// notes is a note of which the answer is known.
func (p *pair) notes(t *testing.T, k api.Key, end int64, want api.Errno) {
	t.Helper()
	if got := p.note(t, k, end); got != want {
		t.Fatalf("both answer %d to Note(%v, %d); wanted %d; there: %s", got, k, end, want, p.some())
	}
}

// expire is an Expire of both, which must answer the same.
func (p *pair) expire(t *testing.T, now int64) int {
	t.Helper()
	was := p.some()
	got, want := p.x.Expire(now), p.s.expire(now)
	if got != want {
		t.Fatalf("Expire(%d): %d; wanted %d; there: %s", now, got, want, was)
	}
	p.many(t)
	return got
}

// expires is an expire of which the answer is known.
func (p *pair) expires(t *testing.T, now int64, want int) {
	t.Helper()
	if got := p.expire(t, now); got != want {
		t.Fatalf("both answer %d to Expire(%d); wanted %d; there: %s", got, now, want, p.some())
	}
	p.same(t)
}

// many is whether Len and Room tell what they shall.
func (p *pair) many(t *testing.T) {
	t.Helper()
	if there := len(p.s.there); p.x.Len() != there || p.x.Room() != p.s.most-there {
		t.Fatalf("Len %d, Room %d; wanted %d, %d; there: %s", p.x.Len(), p.x.Room(), there, p.s.most-there, p.some())
	}
}

// has asks for one name.
func (p *pair) has(t *testing.T, k api.Key) {
	t.Helper()
	if got, want := p.x.Has(k), p.s.has(k); got != want {
		t.Fatalf("Has(%v): %t; wanted %t; there: %s", k, got, want, p.some())
	}
}

// same is whether all that was ever asked of is there, or is not, as it shall.
func (p *pair) same(t *testing.T) {
	t.Helper()
	p.many(t)
	for _, k := range p.asked {
		p.has(t, k)
	}
	p.has(t, at(-777))
	p.has(t, api.Key{T: 5, From: 64, Seq: 3})
}

// drains asks for the end of each name that is there: at it the name stays, by one more it goes. What has the greatest number as its end is left.
func (p *pair) drains(t *testing.T) {
	t.Helper()
	p.same(t)
	l := slices.Clone(p.s.there)
	slices.SortFunc(l, func(a, b name) int { return cmp.Compare(a.end, b.end) })
	for len(l) > 0 {
		e, n := l[0].end, 0
		for ; n < len(l) && l[n].end == e; n++ {
		}
		p.expires(t, e, 0)
		if e == greatest {
			return
		}
		p.expires(t, e+1, n)
		l = l[n:]
	}
}

// The chapter's example.
func TestExample(t *testing.T) {
	s, k := New(1), api.Key{T: 5, From: 1, Seq: 0}
	if e := s.Note(k, 9); e != api.OK {
		t.Errorf("Note: %d", e)
	}
	if n := s.Expire(9); n != 0 || !s.Has(k) {
		t.Errorf("Expire(9): %d; Has: %t", n, s.Has(k))
	}
	if n := s.Expire(10); n != 1 || s.Has(k) {
		t.Errorf("Expire(10): %d; Has: %t", n, s.Has(k))
	}
}

// P29.1

// What New makes has no names, and room for so many.
func TestNew(t *testing.T) {
	for _, r := range mosts {
		s := New(r.most)
		if s == nil || s.Len() != 0 || s.Room() != r.want {
			t.Fatalf("New(%d): Len %d, Room %d; wanted 0, %d", r.most, s.Len(), s.Room(), r.want)
		}
		for _, k := range edges() {
			if s.Has(k) {
				t.Fatalf("New(%d): %v is there", r.most, k)
			}
		}
		for _, now := range ends {
			if n := s.Expire(now); n != 0 || s.Len() != 0 || s.Room() != r.want {
				t.Fatalf("New(%d): Expire(%d): %d; Len %d, Room %d", r.most, now, n, s.Len(), s.Room())
			}
		}
		p, want := made(r.most), api.OK
		if r.want == 0 {
			want = api.ErrFull
		}
		p.notes(t, api.Key{T: 5, From: 1, Seq: 2}, 7, want)
		p.drains(t)
	}
}

// Where no name may be, none is ever there.
func TestNewOfNone(t *testing.T) {
	for _, most := range []int{math.MinInt, -5, -1, 0} {
		p := made(most)
		for _, k := range edges() {
			for _, e := range []int64{least, -1, 0, 1, end, greatest} {
				p.notes(t, k, e, api.ErrFull)
			}
		}
		for _, now := range ends {
			p.expires(t, now, 0)
		}
		p.notes(t, at(3), 3, api.ErrFull)
		if p.x.Len() != 0 || p.x.Room() != 0 {
			t.Errorf("of most %d: Len %d, Room %d", most, p.x.Len(), p.x.Room())
		}
	}
}

// Of few names each one is noted twice, till they are as many as may be, and beyond.
func TestFill(t *testing.T) {
	for most := -1; most <= 20; most++ {
		p := made(most)
		for i := range 2*max(most, 0) + 3 {
			k, e := api.Key{T: int64(i * 7 % 23), From: i, Seq: 9}, int64(i*11%17)
			want, again := api.OK, api.ErrDup
			if i >= most {
				want, again = api.ErrFull, api.ErrFull
			}
			p.notes(t, k, e, want)
			p.notes(t, k, e+1, again)
			p.same(t)
		}
		if p.x.Len() != max(most, 0) || p.x.Room() != 0 {
			t.Errorf("of most %d: Len %d, Room %d", most, p.x.Len(), p.x.Room())
		}
		p.drains(t)
	}
}

// The greatest ones have as many names as may be, and no more, also where more were asked for.
func TestGreatest(t *testing.T) {
	for _, r := range []struct{ most, want int }{{65535, 65535}, {65536, 65536}, {65537, 65536}, {math.MaxInt, 65536}} {
		s := New(r.most)
		for i := range r.want {
			k := at(int64(i * 40503 % 65537)) // each T once, in no order
			if e := s.Note(k, int64(i%4)); e != api.OK || s.Len() != i+1 || s.Room() != r.want-i-1 || !s.Has(k) {
				t.Fatalf("New(%d): Note %d: %d; Len %d, Room %d, Has %t", r.most, i, e, s.Len(), s.Room(), s.Has(k))
			}
		}
		if e := s.Note(at(-1), greatest); e != api.ErrFull || s.Has(at(-1)) || s.Len() != r.want || s.Room() != 0 {
			t.Errorf("New(%d): one more: %d; Has %t, Len %d, Room %d", r.most, e, s.Has(at(-1)), s.Len(), s.Room())
		}
		if e := s.Note(at(40503), greatest); e != api.ErrDup || s.Len() != r.want || s.Room() != 0 {
			t.Errorf("New(%d): one that is there: %d; Len %d, Room %d", r.most, e, s.Len(), s.Room())
		}
		left := r.want
		for now := int64(-1); now <= 5; now++ {
			went := 0
			if now >= 1 && now <= 4 {
				went = (r.want + 4 - int(now)) / 4 // of i from 0 on below want, those that leave now - 1 by 4
			}
			left -= went
			if n := s.Expire(now); n != went || s.Len() != left || s.Room() != r.want-left {
				t.Fatalf("New(%d): Expire(%d): %d; Len %d, Room %d; wanted %d, %d", r.most, now, n, s.Len(), s.Room(), went, left)
			}
			for i := range r.want {
				if k := at(int64(i * 40503 % 65537)); s.Has(k) != (int64(i%4) >= now) {
					t.Fatalf("New(%d): behind Expire(%d): Has(%v): %t", r.most, now, k, s.Has(k))
				}
			}
		}
		for i := range r.want {
			if e := s.Note(at(int64(i)), 9); e != api.OK {
				t.Fatalf("New(%d): noted anew: %d", r.most, e)
			}
		}
		if e := s.Note(at(-1), 9); e != api.ErrFull {
			t.Errorf("New(%d): one more than anew: %d", r.most, e)
		}
	}
}

// The end of a name that is there stays, whether the new one is less, as much or greater, in a full one and with room.
func TestDup(t *testing.T) {
	k := api.Key{T: 3, From: 2, Seq: 1}
	for _, most := range []int{1, 2, 9} {
		for _, first := range wild {
			for _, again := range wild {
				p := with(t, most, name{k, first})
				p.notes(t, k, again, api.ErrDup)
				if !p.x.Has(k) || p.x.Len() != 1 || p.x.Room() != most-1 {
					t.Fatalf("behind ErrDup: Has %t, Len %d, Room %d", p.x.Has(k), p.x.Len(), p.x.Room())
				}
				p.expires(t, first, 0)
				if first == greatest {
					continue
				}
				p.expires(t, first+1, 1)
				if p.x.Has(k) || p.x.Len() != 0 || p.x.Room() != most {
					t.Fatalf("gone: Has %t, Len %d, Room %d", p.x.Has(k), p.x.Len(), p.x.Room())
				}
			}
		}
	}
}

// Of several names each one may be noted again, often, ahead of and behind others that go.
func TestDupOfSeveral(t *testing.T) {
	for _, most := range []int{5, 6, 10} {
		for i := int64(1); i <= 5; i++ {
			p := rising(t, most, 5)
			for _, e := range []int64{least, 0, 10*i - 1, 10 * i, 10*i + 1, 100, greatest} {
				p.notes(t, at(i), e, api.ErrDup)
				p.same(t)
			}
			p.expires(t, 10*i, int(i-1))
			p.notes(t, at(i), 1000, api.ErrDup)
			p.drains(t)
		}
	}
}

// A new name is ErrFull where so many are, whatever its end is, and nothing changes.
func TestFull(t *testing.T) {
	for n := range 6 {
		for _, k := range []api.Key{{}, {T: -9}, {T: 3, Seq: 1}, {T: 3, From: 1}, {T: 99}, {T: least, From: math.MinInt}, {T: greatest, From: math.MaxInt, Seq: math.MaxUint32}} {
			for _, e := range []int64{least, -1, 0, 10, 25, 50, 51, end, greatest} {
				p := rising(t, n, n)
				p.notes(t, k, e, api.ErrFull)
				p.notes(t, k, e, api.ErrFull)
				if p.x.Has(k) || p.x.Len() != n || p.x.Room() != 0 {
					t.Fatalf("behind ErrFull: Has(%v) %t, Len %d, Room %d", k, p.x.Has(k), p.x.Len(), p.x.Room())
				}
				p.drains(t)
			}
		}
	}
}

// Where so many are one that is there is ErrDup, and another one ErrFull, in turn; nothing changes.
func TestDupAheadOfFull(t *testing.T) {
	for n := 1; n < 8; n++ {
		p := rising(t, n, n)
		for i := range int64(2 * n) {
			want := api.ErrDup
			if i >= int64(n) {
				want = api.ErrFull
			}
			for _, e := range []int64{0, 10 * (i + 1), greatest} {
				p.notes(t, at(i+1), e, want)
				p.notes(t, at(-i-1), e, api.ErrFull)
			}
		}
		p.drains(t)
	}
}

// Where one less is there than may be, one more may come, and not two; one that is there takes no room.
func TestLast(t *testing.T) {
	for n := 1; n < 6; n++ {
		for _, k := range []api.Key{{}, {T: -9}, {T: 3, Seq: 1}, {T: 99}} {
			p := rising(t, n, n-1)
			for i := range int64(n - 1) {
				p.notes(t, at(i+1), 7, api.ErrDup)
			}
			p.notes(t, k, 25, api.OK)
			p.notes(t, k, 26, api.ErrDup)
			p.notes(t, api.Key{T: 4, Seq: 4}, 25, api.ErrFull)
			p.drains(t)
		}
	}
}

// What Expire took may be noted anew, with an end that is less, as much or greater, and is kept till that.
func TestAgain(t *testing.T) {
	k := api.Key{T: 5, From: 1, Seq: 3}
	for _, most := range []int{1, 2, 4} {
		for _, first := range ends[:len(ends)-1] { // the greatest never is over
			for _, again := range ends {
				p := with(t, most, name{k, first})
				p.expires(t, first+1, 1)
				p.notes(t, k, again, api.OK)
				p.notes(t, k, first, api.ErrDup)
				p.drains(t)
			}
		}
	}
}

// Where so many were there is room behind an Expire for just as many as it took: for those that went, and for others.
func TestRoomAgain(t *testing.T) {
	for n := 1; n <= 8; n++ {
		for took := range n + 1 {
			p := rising(t, n, n)
			p.expires(t, int64(10*took+1), took)
			for i := range int64(n) {
				want := api.OK
				if i >= int64(took) {
					want = api.ErrDup
				}
				if i%2 == 0 || want == api.ErrDup {
					p.notes(t, at(i+1), 1000-i, want)
				} else {
					p.notes(t, at(-i-1), 1000-i, api.OK)
				}
			}
			p.notes(t, at(77), 5, api.ErrFull)
			p.drains(t)
		}
	}
}

// Names that differ in T alone, in From alone or in Seq alone are two, whatever they are, also such as no message may have.
func TestNames(t *testing.T) {
	l := edges()
	for _, a := range l {
		for _, b := range l {
			if a == b {
				continue
			}
			x := New(2)
			if e := x.Note(a, 5); e != api.OK || !x.Has(a) || x.Has(b) {
				t.Fatalf("Note(%v): %d; Has: %t, of %v %t", a, e, x.Has(a), b, x.Has(b))
			}
			if e := x.Note(b, 6); e != api.OK || !x.Has(a) || !x.Has(b) || x.Len() != 2 || x.Room() != 0 {
				t.Fatalf("Note(%v) behind %v: %d; Has: %t, %t; Len %d", b, a, e, x.Has(b), x.Has(a), x.Len())
			}
			if n := x.Expire(6); n != 1 || x.Has(a) || !x.Has(b) || x.Len() != 1 || x.Room() != 1 {
				t.Fatalf("Expire of %v with %v: %d; Has: %t, %t; Len %d", a, b, n, x.Has(a), x.Has(b), x.Len())
			}
		}
	}
}

// All those names at once, with ends of their own, that go by these alone.
func TestNamesAtOnce(t *testing.T) {
	next := chance(29)
	l := edges()
	p := made(len(l))
	for i, k := range mixed(next, l) {
		p.has(t, k)
		p.notes(t, k, int64(i%7), api.OK)
	}
	for _, k := range mixed(next, l) {
		p.notes(t, k, 100, api.ErrDup)
	}
	p.notes(t, api.Key{T: 12, From: 12, Seq: 12}, 0, api.ErrFull)
	p.drains(t)
}

// Fields that are the same numbers in another order, or that run into one another as bits or as text, are other names.
func TestNamesAlike(t *testing.T) {
	l := []api.Key{
		{T: 1, From: 2, Seq: 3}, {T: 1, From: 3, Seq: 2}, {T: 2, From: 1, Seq: 3}, {T: 2, From: 3, Seq: 1}, {T: 3, From: 1, Seq: 2}, {T: 3, From: 2, Seq: 1},
		{T: 12, From: 3}, {T: 1, From: 23}, {T: 0, From: 12, Seq: 3}, {T: 0, From: 1, Seq: 23}, {T: 123}, {From: 123}, {Seq: 123},
		{T: 1, From: 1}, {T: 1<<32 + 1, From: 1}, {T: 1 << 32}, {T: 1, From: 1<<32 + 1}, {T: 1, From: 65}, {T: 65, From: 1}, {T: 1 << 6}, {From: 1 << 6}, {T: 1 << 38},
	}
	p := made(len(l) + 1)
	for i, k := range l {
		p.notes(t, k, int64(100-i), api.OK)
		p.same(t)
	}
	p.drains(t)
}

// Any numbers may be ends: whatever it is, a name is there till then.
func TestEnds(t *testing.T) {
	for _, e := range wild {
		for _, k := range []api.Key{{}, {T: 5, From: 1}, {T: -5, From: -1, Seq: 1}, {T: e}, {T: greatest, From: 63, Seq: math.MaxUint32}} {
			for _, now := range wild {
				p := with(t, 3, name{k, e})
				took := 0
				if now > e {
					took = 1
				}
				p.expires(t, now, took)
				p.expires(t, now, 0)
			}
		}
	}
}

// Names are there as they come and go, one by one.
func TestHas(t *testing.T) {
	s := New(3)
	a, b, c := api.Key{T: 5, From: 1, Seq: 7}, api.Key{T: 4, From: 2, Seq: 7}, api.Key{T: 6}
	asks := func(when string, has ...bool) {
		t.Helper()
		n := 0
		for i, k := range []api.Key{a, b, c} {
			if s.Has(k) != has[i] {
				t.Errorf("%s: Has(%v): %t", when, k, s.Has(k))
			}
			if has[i] {
				n++
			}
		}
		if s.Len() != n || s.Room() != 3-n || s.Has(api.Key{}) || s.Has(api.Key{T: 5, From: 1}) {
			t.Errorf("%s: Len %d, Room %d", when, s.Len(), s.Room())
		}
	}
	asks("at first", false, false, false)
	s.Note(a, 20)
	asks("with a", true, false, false)
	s.Note(b, 10)
	asks("with a, b", true, true, false)
	s.Note(a, 0)
	asks("with a again", true, true, false)
	s.Expire(10)
	asks("at 10", true, true, false)
	s.Expire(11)
	asks("at 11", true, false, false)
	s.Note(c, 15)
	asks("with c", true, false, true)
	s.Expire(16)
	asks("at 16", true, false, false)
	s.Note(b, 5)
	asks("with b, that is over already", true, true, false)
	s.Expire(5)
	asks("at 5", true, true, false)
	s.Expire(20)
	asks("at 20", true, false, false)
	s.Expire(21)
	asks("at 21", false, false, false)
}

// Asking changes nothing.
func TestAskingChangesNothing(t *testing.T) {
	p := rising(t, 7, 5)
	for range 3 {
		for i := int64(-3); i < 12; i++ {
			p.has(t, at(i))
			p.has(t, api.Key{T: i, From: 1})
			p.has(t, api.Key{T: i, Seq: 1})
			p.many(t)
		}
	}
	p.notes(t, at(9), 35, api.OK)
	p.notes(t, api.Key{T: 1, From: 1}, 35, api.OK)
	p.drains(t)
}

// P29.2

// A name goes by one more than its end, not by its end, and not by one less.
func TestExpireAboutTheEnd(t *testing.T) {
	for _, e := range wild {
		p := with(t, 4, name{at(5), e})
		if e > least {
			p.expires(t, e-1, 0)
		}
		p.expires(t, e, 0)
		if e < greatest {
			p.expires(t, e+1, 1)
			p.expires(t, e+1, 0)
		}
		p.drains(t)
	}
}

// At the least number nothing goes; at the greatest all but what has that as its end, which never goes.
func TestExpireAtTheEnds(t *testing.T) {
	var l []name
	for i, e := range ends {
		l = append(l, name{at(int64(100 - i)), e})
	}
	p := with(t, 50, l...)
	p.expires(t, least, 0)
	p.expires(t, least, 0)
	p.expires(t, greatest, len(l)-1)
	p.expires(t, greatest, 0)
	p.expires(t, least, 0)
	last := l[len(l)-1].k
	if !p.x.Has(last) || p.x.Len() != 1 {
		t.Errorf("Has: %t, Len %d", p.x.Has(last), p.x.Len())
	}
	p.notes(t, last, 0, api.ErrDup)
	p.drains(t)
}

// What goes at each time, where each of some ends is of several names; how many these are, and which.
func TestExpireByHand(t *testing.T) {
	l := []name{
		{at(1), 30}, {at(2), 10}, {at(3), 30}, {at(4), 20}, {at(5), -5}, {at(6), 10}, {at(7), 10}, {at(8), 40},
		{api.Key{T: 1, From: 1}, 20}, {api.Key{T: 1, Seq: 1}, 10}, {api.Key{T: -1, From: -1}, 0}, {api.Key{T: 99}, 0},
	}
	for _, r := range []struct {
		now  int64
		want int
	}{
		{least, 0}, {-6, 0}, {-5, 0}, {-4, 1}, {-1, 1}, {0, 1}, {1, 3}, {9, 3}, {10, 3}, {11, 7}, {20, 7}, {21, 9}, {30, 9}, {31, 11}, {40, 11}, {41, 12}, {end, 12}, {greatest, 12},
	} {
		p := with(t, len(l), l...)
		p.expires(t, r.now, r.want)
		for _, n := range l {
			if p.x.Has(n.k) != (n.end >= r.now) {
				t.Errorf("behind Expire(%d): Has(%v), whose end is %d: %t", r.now, n.k, n.end, p.x.Has(n.k))
			}
		}
		p.expires(t, r.now, 0)
		p.drains(t)
	}
}

// One time behind the other, also twice at one time, and at lesser times behind greater ones.
func TestExpireInTurn(t *testing.T) {
	for _, r := range [][][2]int64{
		{{0, 0}, {5, 0}, {10, 0}, {11, 1}, {11, 0}, {20, 0}, {25, 1}, {31, 1}, {41, 1}, {51, 1}, {61, 0}},
		{{31, 3}, {31, 0}, {30, 0}, {11, 0}, {0, 0}, {least, 0}, {32, 0}, {40, 0}, {41, 1}, {greatest, 1}},
		{{51, 5}, {51, 0}, {11, 0}, {greatest, 0}, {least, 0}},
		{{greatest, 5}, {greatest, 0}, {0, 0}},
		{{least, 0}, {greatest, 5}},
		{{20, 1}, {19, 0}, {21, 1}, {20, 0}, {22, 0}, {30, 0}, {31, 1}, {-31, 0}, {50, 1}, {49, 0}, {51, 1}},
	} {
		p := rising(t, 5, 5)
		for _, x := range r {
			p.expires(t, x[0], int(x[1]))
		}
		p.drains(t)
	}
}

// A lesser time behind a greater one takes what was noted between and is over by it, and nothing else.
func TestExpireBack(t *testing.T) {
	p := rising(t, 9, 3)
	p.expires(t, 21, 2)
	p.notes(t, at(7), 4, api.OK)
	p.notes(t, at(8), 14, api.OK)
	p.notes(t, at(1), 5, api.OK)
	p.expires(t, 4, 0)
	p.expires(t, 5, 1)
	p.expires(t, 6, 1)
	p.expires(t, -100, 0)
	p.expires(t, 15, 1)
	p.drains(t)
}

// A name may be noted whose end is over already: it goes by the next Expire, not by Note.
func TestNoteOfWhatIsOver(t *testing.T) {
	p := rising(t, 4, 3)
	p.expires(t, 25, 2)
	p.notes(t, at(1), 10, api.OK)
	p.notes(t, at(2), least, api.OK)
	p.notes(t, at(4), 24, api.OK)
	p.notes(t, at(5), 30, api.ErrFull)
	p.same(t)
	p.expires(t, 25, 3)
	p.drains(t)
}

// Names go by their ends, whichever way these stand to the order of the names.
func TestExpireByEndsAlone(t *testing.T) {
	next := chance(7)
	for n := 1; n <= 40; n++ {
		for way := range 4 {
			p := made(n)
			for _, i := range mixed(next, numbers(n)) {
				e := int64(i)
				switch way {
				case 1:
					e = int64(n - i)
				case 2:
					e = int64(i * 7 % 5)
				case 3:
					e = int64(below(next, n))
				}
				p.notes(t, at(int64(3*i)), e, api.OK)
			}
			p.drains(t)
		}
	}
}

// numbers are 0, 1, 2 .. below n.
func numbers(n int) []int {
	l := make([]int, n)
	for i := range l {
		l[i] = i
	}
	return l
}

// Of many names none, one, some, all but one and all go at once.
func TestExpireOfMany(t *testing.T) {
	const n = 1500
	next := chance(11)
	for _, went := range []int{0, 1, 2, 255, 256, 257, 750, n - 2, n - 1, n} {
		s := New(n)
		for _, i := range mixed(next, numbers(n)) {
			s.Note(api.Key{T: int64(i * 1009 % n), From: i % 64}, int64(i))
		}
		if got := s.Expire(int64(went)); got != went || s.Len() != n-went || s.Room() != went {
			t.Fatalf("Expire(%d): %d; Len %d, Room %d", went, got, s.Len(), s.Room())
		}
		for i := range n {
			if k := (api.Key{T: int64(i * 1009 % n), From: i % 64}); s.Has(k) != (i >= went) {
				t.Fatalf("behind Expire(%d): Has(%v), whose end is %d: %t", went, k, i, s.Has(k))
			}
		}
		for i := went; i < n; i++ {
			if s.Expire(int64(i)) != 0 || s.Expire(int64(i+1)) != 1 {
				t.Fatalf("behind Expire(%d): the name whose end is %d did not go by it", went, i)
			}
		}
	}
}

// All names of one end go at once.
func TestExpireOfOneEnd(t *testing.T) {
	for _, e := range ends {
		for _, n := range []int{1, 2, 3, 64, 300} {
			s := New(n + 5)
			for i := range n {
				s.Note(api.Key{T: int64(i), From: i % 3, Seq: uint32(n - i)}, e)
			}
			if got := s.Expire(e); got != 0 || s.Len() != n || s.Room() != 5 {
				t.Fatalf("Expire(%d) of %d names: %d; Len %d", e, n, got, s.Len())
			}
			if e == greatest {
				continue
			}
			if got := s.Expire(e + 1); got != n || s.Len() != 0 || s.Room() != n+5 {
				t.Fatalf("Expire(%d) of %d names: %d; Len %d", e+1, n, got, s.Len())
			}
		}
	}
}

// P29.3

// A name that was noted is there just as long as no Expire came at a later time than its end, whatever else was noted and went.
func TestStaysTillItExpires(t *testing.T) {
	next := chance(293)
	for range 300 {
		s := New(60)
		till := map[api.Key]int64{}
		latest := map[api.Key]int64{} // of the times at which names went since it was noted
		for range 200 {
			k, x := api.Key{T: int64(below(next, 5)), From: below(next, 4), Seq: uint32(below(next, 3))}, int64(below(next, 60))
			if below(next, 3) > 0 {
				if s.Note(k, x) == api.OK {
					till[k], latest[k] = x, least
				}
			} else {
				s.Expire(x)
				for k := range latest {
					latest[k] = max(latest[k], x)
				}
			}
			there := 0
			for k, e := range till {
				if s.Has(k) != (latest[k] <= e) {
					t.Fatalf("Has(%v), whose end is %d, behind an Expire(%d): %t", k, e, latest[k], s.Has(k))
				}
				if s.Has(k) {
					there++
				}
			}
			if s.Len() != there || s.Room() != 60-there {
				t.Fatalf("Len %d, Room %d, of %d names", s.Len(), s.Room(), there)
			}
		}
	}
}

// What goes at a time goes at each later one, too, and what goes only at a later one is there till that.
func TestNoEarlierOne(t *testing.T) {
	next := chance(31)
	for range 60 {
		var l []name
		for i := range 1 + below(next, 20) {
			l = append(l, name{api.Key{T: int64(below(next, 9)), From: i}, whole(next)})
		}
		went := make([]bool, len(l))
		for _, now := range wild { // rising
			p := with(t, len(l), l...)
			n := p.expire(t, now)
			for i, x := range l {
				gone := !p.x.Has(x.k)
				if went[i] && !gone {
					t.Fatalf("%v, whose end is %d, went ahead of %d, but not then", x.k, x.end, now)
				}
				if gone && x.end >= now {
					t.Fatalf("%v, whose end is %d, went at %d", x.k, x.end, now)
				}
				went[i] = gone
				if gone {
					n--
				}
			}
			if n != 0 {
				t.Fatalf("Expire(%d): %d more than went", now, n)
			}
		}
	}
}

// There are never more names than may be, whatever is noted and goes.
func TestNeverMore(t *testing.T) {
	next := chance(5)
	for _, most := range []int{-1, 0, 1, 2, 3, 10, 100} {
		s, may := New(most), max(most, 0)
		for i := range 5000 {
			k := api.Key{T: whole(next), From: int(whole(next)), Seq: uint32(next())}
			before := s.Len()
			if e := s.Note(k, whole(next)); (e == api.OK) != (s.Len() == before+1) || (e == api.ErrFull) != (before == may) {
				t.Fatalf("of most %d: Note: %d; Len was %d, is %d", most, e, before, s.Len())
			}
			if s.Len() > may || s.Len()+s.Room() != may {
				t.Fatalf("of most %d: Len %d, Room %d", most, s.Len(), s.Room())
			}
			if i%50 == 49 {
				s.Expire(whole(next))
			}
		}
	}
}

// doing is one of a play: an Expire at x, or a Note of a name with the end x.
type doing struct {
	expire bool
	k      api.Key
	x      int64
}

// do does one.
func (p *pair) do(t *testing.T, d doing) {
	t.Helper()
	if d.expire {
		p.expire(t, d.x)
	} else {
		p.note(t, d.k, d.x)
	}
}

// All plays of up to five doings, of two names, three ends and four times; behind each play all ends are asked.
func TestAllShortPlays(t *testing.T) {
	var each []doing
	for x := range int64(3) {
		each = append(each, doing{k: at(7), x: x}, doing{k: api.Key{T: 6, From: 1, Seq: 9}, x: x})
	}
	for x := range int64(4) {
		each = append(each, doing{expire: true, x: x})
	}
	long := 5
	if testing.Short() {
		long = 4
	}
	for most := range 3 {
		for n := range long + 1 {
			plays(each, n, func(play []doing) {
				p := made(most)
				for _, d := range play {
					p.do(t, d)
				}
				p.drains(t)
			})
		}
	}
}

// plays goes over all rows of n doings out of some. One list is used for all of them.
func plays(each []doing, n int, ask func(play []doing)) {
	play := make([]doing, n)
	var fill func(k int)
	fill = func(k int) {
		if k == n {
			ask(play)
			return
		}
		for _, d := range each {
			play[k] = d
			fill(k + 1)
		}
	}
	fill(0)
}

// All plays of three doings at the ends of the numbers.
func TestAllPlaysAtTheEnds(t *testing.T) {
	var each []doing
	for _, x := range []int64{least, least + 1, -1, 0, 1, greatest - 1, greatest} {
		each = append(each, doing{k: at(least), x: x}, doing{k: at(greatest), x: x}, doing{expire: true, x: x})
	}
	plays(each, 3, func(play []doing) {
		p := made(2)
		for _, d := range play {
			p.do(t, d)
			p.same(t)
		}
		p.drains(t)
	})
}

// drawn is a doing of chance: of names out of few or of many, with ends and times about where the play stands, or anywhere.
func drawn(next func() uint64, names int, now int64) doing {
	d := doing{k: api.Key{T: int64(below(next, names)), From: below(next, 2), Seq: uint32(below(next, 2))}}
	if below(next, 8) == 0 {
		d.k = api.Key{T: whole(next), From: int(whole(next)), Seq: uint32(next())}
	}
	d.expire = below(next, 4) == 0
	d.x = now + int64(below(next, 40)) - 10
	if below(next, 30) == 0 {
		d.x = whole(next)
		if d.expire && below(next, 4) > 0 {
			d.x = least // most others take nearly all names, so that plays would stay short of them
		}
	}
	return d
}

// Long plays by chance, with few names and many, each answer held against the chapter read plainly.
func TestByChance(t *testing.T) {
	next := chance(2929)
	for _, most := range []int{0, 1, 2, 3, 7, 20, 100, 300} {
		for range 12 {
			p := made(most)
			for i := range 300 {
				p.do(t, drawn(next, 1+most/2, int64(i)))
				if i%20 == 0 {
					p.same(t)
				}
			}
			p.drains(t)
		}
	}
}

// Messages as they come in a cluster: each name by several copies, kept for a while; time goes on, and no copy is taken as new till its name's end.
func TestCopies(t *testing.T) {
	next := chance(17)
	const keep = 50
	s := New(1000)
	first := map[api.Key]int64{} // when it was taken
	taken, refused := 0, 0
	for now := int64(0); now < 3000; now++ {
		s.Expire(now)
		for range 5 {
			k := api.Key{T: now - now%10 - int64(10*below(next, 3)), From: below(next, 4)}
			e := s.Note(k, k.T+keep)
			_, was := first[k]
			if (e == api.OK) == was || was && e != api.ErrDup {
				t.Fatalf("at %d: Note(%v): %d; it was taken already: %t", now, k, e, was)
			}
			if was {
				refused++
			} else {
				first[k] = now
				taken++
			}
		}
		if s.Len() > 4*(keep/10+1) {
			t.Fatalf("at %d: %d names", now, s.Len())
		}
	}
	if taken < 1000 || refused < 1000 {
		t.Errorf("%d taken, %d refused", taken, refused)
	}
}

// Two of them know nothing of one another.
func TestSideBySide(t *testing.T) {
	x, y := New(2), New(2)
	k := api.Key{T: 5, From: 1}
	if x.Note(k, 10) != api.OK || y.Has(k) || y.Len() != 0 || y.Room() != 2 {
		t.Error("the second one behind a Note of the first one", y.Len(), y.Room())
	}
	if y.Note(k, 20) != api.OK || y.Note(at(1), 5) != api.OK || x.Has(at(1)) || x.Len() != 1 {
		t.Error("the first one behind Notes of the second one", x.Len())
	}
	if x.Expire(15) != 1 || !y.Has(k) || !y.Has(at(1)) || y.Len() != 2 {
		t.Error("the second one behind an Expire of the first one", y.Len())
	}
	if y.Expire(20) != 1 || y.Expire(21) != 1 || x.Note(k, 1) != api.OK || y.Has(k) {
		t.Error("the second one", y.Len())
	}
}

// Many of them, of unlike sizes, go on by turns, each by what it was told alone.
func TestManySideBySide(t *testing.T) {
	next := chance(3)
	var l []*pair
	for most := range 12 {
		l = append(l, made(most), made(most))
	}
	for i := range 4000 {
		l[below(next, len(l))].do(t, drawn(next, 5, int64(i/20)))
	}
	for _, p := range l {
		p.drains(t)
	}
}

// What two of them were told alike they answer alike, whatever a third one is told between.
func TestAlike(t *testing.T) {
	next := chance(13)
	x, y, other := New(20), New(20), New(20)
	for i := range 3000 {
		d := drawn(next, 8, int64(i/4))
		if d.expire {
			if a, b := x.Expire(d.x), y.Expire(d.x); a != b {
				t.Fatalf("Expire(%d): %d and %d", d.x, a, b)
			}
			other.Expire(d.x + 3)
			continue
		}
		other.Note(d.k, d.x-2)
		if a, b := x.Note(d.k, d.x), y.Note(d.k, d.x); a != b || x.Has(d.k) != y.Has(d.k) || x.Len() != y.Len() || x.Room() != y.Room() {
			t.Fatalf("Note(%v, %d): %d and %d", d.k, d.x, a, b)
		}
	}
}

// Of nil a Note is ErrArg, and there is nothing, also behind it.
func TestNil(t *testing.T) {
	var s *Seen
	for range 2 {
		for _, k := range edges() {
			for _, x := range []int64{least, -1, 0, 1, end, greatest} {
				if e := s.Note(k, x); e != api.ErrArg {
					t.Fatalf("Note(%v, %d) of nil: %d", k, x, e)
				}
				if n := s.Expire(x); n != 0 {
					t.Fatalf("Expire(%d) of nil: %d", x, n)
				}
			}
			if s.Has(k) || s.Len() != 0 || s.Room() != 0 {
				t.Fatalf("of nil: Has(%v) %t, Len %d, Room %d", k, s.Has(k), s.Len(), s.Room())
			}
		}
	}
}

// One that New did not make has no names and takes none.
func TestNotMade(t *testing.T) {
	var s Seen
	for range 2 {
		if s.Note(at(5), 9) == api.OK || s.Has(at(5)) || s.Len() != 0 || s.Room() != 0 || s.Expire(greatest) != 0 {
			t.Errorf("not made: Has %t, Len %d, Room %d", s.Has(at(5)), s.Len(), s.Room())
		}
	}
}

// The chapter read plainly answers by hand what it shall.
func TestPlain(t *testing.T) {
	s := newSlow(2)
	for i, r := range []struct{ got, want int }{
		{int(s.note(at(2), 9)), 0},
		{int(s.note(at(2), 20)), 12},
		{s.expire(9), 0},
		{int(s.note(at(1), 5)), 0},
		{int(s.note(at(3), 5)), 13},
		{int(s.note(at(1), 50)), 12},
		{s.expire(10), 2},
		{s.expire(10), 0},
		{len(s.there), 0},
		{int(newSlow(-1).note(at(2), 9)), 13},
	} {
		if r.got != r.want {
			t.Errorf("step %d: %d; wanted %d", i, r.got, r.want)
		}
	}
	if s.has(at(2)) || newSlow(-9).most != 0 || newSlow(65537).most != 65536 || newSlow(5).most != 5 {
		t.Error("plain", s.there)
	}
}
