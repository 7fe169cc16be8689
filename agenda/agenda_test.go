package agenda

import (
	"fmt"
	"math"
	"slices"
	"strconv"
	"testing"

	"angelus/api"
)

// chance answers numbers of no rule, the same ones each time.
func chance(x uint64) func() uint64 {
	return func() uint64 {
		x ^= x << 13
		x ^= x >> 7
		x ^= x << 17
		return x
	}
}

// due is a thing and its time.
type due[T comparable] struct {
	at int64
	x  T
}

// slow is an agenda as the chapter tells it, word by word: a list in which things stand as they were added.
type slow[T comparable] struct {
	most int
	list []due[T]
}

func newSlow[T comparable](most int) *slow[T] {
	if most < 0 {
		most = 0
	}
	if most > 65536 {
		most = 65536
	}
	return &slow[T]{most: most}
}

func (s *slow[T]) add(at int64, x T) api.Errno {
	if len(s.list) >= s.most {
		return api.ErrFull
	}
	s.list = append(s.list, due[T]{at, x})
	return api.OK
}

// first is where the first one stands; -1: there is none.
func (s *slow[T]) first() int {
	f := -1
	for i, d := range s.list {
		if f < 0 || d.at < s.list[f].at {
			f = i
		}
	}
	return f
}

func (s *slow[T]) next() (int64, bool) {
	if f := s.first(); f >= 0 {
		return s.list[f].at, true
	}
	return 0, false
}

func (s *slow[T]) take(now int64) (x T, is bool) {
	f := s.first()
	if f < 0 || s.list[f].at > now {
		return x, false
	}
	x = s.list[f].x
	s.list = slices.Delete(s.list, f, f+1)
	return x, true
}

func (s *slow[T]) drain(now int64) []T {
	var l []T
	for {
		x, is := s.take(now)
		if !is {
			return l
		}
		l = append(l, x)
	}
}

// both are an agenda and the list that it is held against.
type both[T comparable] struct {
	a *Agenda[T]
	s *slow[T]
}

func newBoth[T comparable](most int) both[T] {
	return both[T]{New[T](most), newSlow[T](most)}
}

// holds checks what all calls that change nothing answer.
func (b both[T]) holds(t *testing.T) {
	t.Helper()
	n := len(b.s.list)
	if b.a.Len() != n || b.a.Room() != b.s.most-n {
		t.Fatalf("Len %d, Room %d; wanted %d, %d", b.a.Len(), b.a.Room(), n, b.s.most-n)
	}
	at, is := b.a.Next()
	if want, wantIs := b.s.next(); at != want || is != wantIs {
		t.Fatalf("Next: %d, %t; wanted %d, %t", at, is, want, wantIs)
	}
}

func (b both[T]) add(t *testing.T, at int64, x T) {
	t.Helper()
	if got, want := b.a.Add(at, x), b.s.add(at, x); got != want {
		t.Fatalf("Add(%d, %v): %d; wanted %d", at, x, got, want)
	}
	b.holds(t)
}

func (b both[T]) take(t *testing.T, now int64) {
	t.Helper()
	x, is := b.a.Take(now)
	if want, wantIs := b.s.take(now); x != want || is != wantIs {
		t.Fatalf("Take(%d): %v, %t; wanted %v, %t", now, x, is, want, wantIs)
	}
	b.holds(t)
}

func (b both[T]) drain(t *testing.T, now int64) {
	t.Helper()
	if got, want := b.a.Drain(now), b.s.drain(now); !slices.Equal(got, want) {
		t.Fatalf("Drain(%d): %v; wanted %v", now, got, want)
	}
	b.holds(t)
}

// heapHolds checks what keeps an agenda quick and lean, which no answer tells: it is a heap, and nothing is kept of what was taken.
func heapHolds[T comparable](t *testing.T, a *Agenda[T]) {
	t.Helper()
	for i := 1; i < len(a.heap); i++ {
		if a.heap[i].ahead(&a.heap[(i-1)/2]) {
			t.Fatalf("the thing at %d is ahead of that above it", i)
		}
	}
	for i, d := range a.heap[len(a.heap):cap(a.heap)] {
		if d != (thing[T]{}) {
			t.Fatalf("%v is kept %d behind the end", d, i)
		}
	}
}

// dues are times at the ends of their type and about 0, in their order.
func dues() []int64 {
	return []int64{
		math.MinInt64, math.MinInt64 + 1, -api.MaxTime, -1 << 32, -1<<32 + 5, -1025, -2, -1, 0, 1, 2, 5, 1 << 31, 1 << 32, 1<<32 + 5,
		api.MaxTime - 1, api.MaxTime, api.MaxTime + 1, math.MaxInt64 - 1, math.MaxInt64,
	}
}

// P8.1

func TestExample(t *testing.T) {
	a := New[string](10)
	for _, d := range []due[string]{{5, "a"}, {3, "b"}, {3, "c"}} {
		if e := a.Add(d.at, d.x); e != api.OK {
			t.Errorf("Add(%d, %q): %d", d.at, d.x, e)
		}
	}
	for _, want := range []string{"b", "c", ""} {
		if x, is := a.Take(3); x != want || is != (want != "") {
			t.Errorf("Take(3): %q, %t; wanted %q", x, is, want)
		}
	}
	if at, is := a.Next(); at != 5 || !is {
		t.Errorf("Next: %d, %t", at, is)
	}
}

func TestMost(t *testing.T) {
	for _, r := range []struct{ most, want int }{
		{math.MinInt, 0}, {math.MinInt + 1, 0}, {-1 << 32, 0}, {-1<<32 + 5, 0}, {-65536, 0}, {-2, 0}, {-1, 0},
		{0, 0}, {1, 1}, {2, 2}, {3, 3}, {255, 255}, {256, 256}, {1000, 1000}, {65534, 65534}, {65535, 65535},
		{65536, 65536}, {65537, 65536}, {65536 + 5, 65536}, {1 << 17, 65536}, {1 << 32, 65536}, {1<<32 + 5, 65536},
		{1 << 40, 65536}, {math.MaxInt - 1, 65536}, {math.MaxInt, 65536},
	} {
		b := newBoth[int](r.most)
		if b.a.Len() != 0 || b.a.Room() != r.want {
			t.Errorf("New(%d): Len %d, Room %d; wanted 0, %d", r.most, b.a.Len(), b.a.Room(), r.want)
		}
		b.holds(t)
		want := api.OK
		if r.want == 0 {
			want = api.ErrFull
		}
		if e := b.a.Add(5, 7); e != want {
			t.Errorf("New(%d): Add: %d; wanted %d", r.most, e, want)
		}
		if b.a.Len() != min(r.want, 1) || b.a.Room() != r.want-min(r.want, 1) {
			t.Errorf("New(%d), behind Add: Len %d, Room %d", r.most, b.a.Len(), b.a.Room())
		}
	}
}

// Each agenda of up to twenty things at most, filled, is full with so many and not ahead of it.
func TestFill(t *testing.T) {
	for most := -1; most <= 20; most++ {
		b := newBoth[int](most)
		for i := range 2*most + 3 {
			b.add(t, int64(i*7%23), i)
			heapHolds(t, b.a)
		}
		if b.a.Len() != max(most, 0) || b.a.Room() != 0 {
			t.Errorf("filled, of most %d: Len %d, Room %d", most, b.a.Len(), b.a.Room())
		}
		b.drain(t, 22)
	}
}

// An Add to a full agenda changes nothing, whatever its due; behind a Take there is room for one again, and for one alone.
func TestAddToFull(t *testing.T) {
	for most := range 9 {
		for _, at := range dues() {
			b := newBoth[int](most)
			for i := range most {
				b.add(t, int64(i%3), i)
			}
			was := slices.Clone(b.a.heap)
			if e := b.a.Add(at, 100); e != api.ErrFull {
				t.Fatalf("most %d: Add(%d) to a full one: %d", most, at, e)
			}
			b.holds(t)
			if !slices.Equal(b.a.heap, was) {
				t.Fatalf("most %d: changed", most)
			}
			b.take(t, 2)
			b.add(t, at, 101)
			b.add(t, at, 102)
			b.take(t, -1)
			b.add(t, at, 103)
			b.drain(t, math.MaxInt64)
			b.add(t, at, 104)
			b.drain(t, math.MaxInt64)
		}
	}
}

// The greatest agenda has MaxTable things and no more, also where more were asked for, whichever way they come; it is quick with so many.
func TestGreatest(t *testing.T) {
	next := chance(1)
	for name, at := range map[string]func(i int) int64{
		"rising":  func(i int) int64 { return int64(i) },
		"falling": func(i int) int64 { return int64(-i) },
		"one due": func(i int) int64 { return 7 },
		"few":     func(i int) int64 { return int64(next() % 5) },
		"mixed":   func(i int) int64 { return int64(next()) },
	} {
		for _, most := range []int{api.MaxTable, api.MaxTable + 1, math.MaxInt} {
			a := New[int](most)
			var want []due[int]
			for i := range 65536 {
				d := due[int]{at(i), i}
				want = append(want, d)
				if e := a.Add(d.at, d.x); e != api.OK || a.Len() != i+1 || a.Room() != 65535-i {
					t.Fatalf("%s: Add %d: %d; Len %d, Room %d", name, i, e, a.Len(), a.Room())
				}
			}
			if e := a.Add(math.MinInt64, -1); e != api.ErrFull || a.Len() != 65536 || a.Room() != 0 {
				t.Fatalf("%s: one more: %d; Len %d, Room %d", name, e, a.Len(), a.Room())
			}
			heapHolds(t, a)
			slices.SortStableFunc(want, func(x, y due[int]) int {
				if x.at < y.at {
					return -1
				}
				if x.at > y.at {
					return 1
				}
				return 0
			})
			comesOut(t, name, a, want)
		}
	}
}

// comesOut checks that an agenda's things come out as a list tells: half of them one by one, and the rest at once.
func comesOut(t *testing.T, name string, a *Agenda[int], want []due[int]) {
	t.Helper()
	half := len(want) / 2
	for i, d := range want[:half] {
		if at, is := a.Next(); at != d.at || !is {
			t.Fatalf("%s: Next at %d: %d, %t; wanted %d", name, i, at, is, d.at)
		}
		if x, is := a.Take(d.at); x != d.x || !is || a.Len() != len(want)-i-1 || a.Room() != i+1 {
			t.Fatalf("%s: Take at %d: %d, %t; wanted %d; Len %d, Room %d", name, i, x, is, d.x, a.Len(), a.Room())
		}
	}
	all := a.Drain(math.MaxInt64)
	if len(all) != len(want)-half {
		t.Fatalf("%s: Drain: %d things; wanted %d", name, len(all), len(want)-half)
	}
	for i, d := range want[half:] {
		if all[i] != d.x {
			t.Fatalf("%s: Drain: %d at %d; wanted %d", name, all[i], i, d.x)
		}
	}
	if a.Len() != 0 || a.Room() != 65536 {
		t.Fatalf("%s: behind all: Len %d, Room %d", name, a.Len(), a.Room())
	}
	heapHolds(t, a)
}

// An agenda has things of one kind, whichever that is; the same thing may be in it more than once.
func TestKinds(t *testing.T) {
	plays(t, 1, func(n uint64) int { return int(n % 5) })
	plays(t, 2, func(n uint64) string { return strconv.FormatUint(n%7, 10) })
	plays(t, 3, func(n uint64) api.Key { return api.Key{T: int64(n % 3), From: 1, Seq: uint32(n)} })
	plays(t, 4, func(n uint64) [2]bool { return [2]bool{n%2 == 0, n%3 == 0} })
	plays(t, 5, func(n uint64) *uint64 { return &n })
	plays(t, 6, func(n uint64) any { return []any{nil, 1, "1", api.OK}[n%4] })
	plays(t, 7, func(n uint64) struct{} { return struct{}{} })
	plays(t, 8, func(n uint64) float64 { return float64(n%9) / 2 })
}

// An agenda may have things that can't be compared, too, and hands out the very ones that came in.
func TestUncomparable(t *testing.T) {
	a := New[[]byte](3)
	body := []byte("body")
	a.Add(2, body)
	a.Add(1, nil)
	if x, is := a.Take(1); x != nil || !is {
		t.Errorf("Take(1): %v, %t", x, is)
	}
	if x, is := a.Take(1); x != nil || is {
		t.Errorf("Take(1) again: %v, %t", x, is)
	}
	if x, is := a.Take(2); string(x) != "body" || &x[0] != &body[0] || !is {
		t.Errorf("Take(2): %v, %t", x, is)
	}
	f := New[func() int](2)
	f.Add(1, func() int { return 10 })
	f.Add(0, func() int { return 20 })
	all := f.Drain(1)
	if len(all) != 2 || all[0]() != 20 || all[1]() != 10 {
		t.Errorf("Drain: %d things", len(all))
	}
}

// P8.2

func TestEmpty(t *testing.T) {
	for _, most := range []int{-1, 0, 1, 5, api.MaxTable} {
		a := New[string](most)
		emptyHolds(t, a)
		if a.Add(0, "x") == api.OK {
			a.Take(0)
			emptyHolds(t, a)
		}
	}
	emptyHolds(t, &Agenda[string]{})
}

// emptyHolds checks what an empty agenda answers.
func emptyHolds(t *testing.T, a *Agenda[string]) {
	t.Helper()
	if at, is := a.Next(); at != 0 || is {
		t.Errorf("Next: %d, %t", at, is)
	}
	room := a.Room()
	for _, now := range dues() {
		if x, is := a.Take(now); x != "" || is {
			t.Errorf("Take(%d): %q, %t", now, x, is)
		}
		if l := a.Drain(now); len(l) != 0 {
			t.Errorf("Drain(%d): %q", now, l)
		}
	}
	if a.Len() != 0 || a.Room() != room {
		t.Errorf("Len %d, Room %d", a.Len(), a.Room())
	}
}

// Take takes the first one when its due is now or ahead of that; else it changes nothing.
func TestTakeAboutItsDue(t *testing.T) {
	for _, at := range dues() {
		for _, now := range dues() {
			a := New[int](3)
			a.Add(at, 9)
			want, left := 0, 1
			if at <= now {
				want, left = 9, 0
			}
			if x, is := a.Take(now); x != want || is != (at <= now) || a.Len() != left || a.Room() != 3-left {
				t.Errorf("due %d: Take(%d): %d, %t; Len %d, Room %d", at, now, x, is, a.Len(), a.Room())
			}
		}
	}
	for _, at := range []int64{math.MinInt64 + 1, -1024, -1, 0, 1, 1024, math.MaxInt64 - 1} {
		for _, step := range []int64{-1, 0, 1} {
			b := newBoth[int](3)
			b.add(t, at+1, 1)
			b.add(t, at, 2)
			for range 4 {
				b.take(t, at+step)
			}
		}
	}
}

// Of things of one due, those come out first that were added first, though others are added and taken between.
func TestOneDue(t *testing.T) {
	for _, at := range dues() {
		b := newBoth[int](40)
		for i := range 10 {
			b.add(t, at, i)
			b.add(t, math.MinInt64, 100+i)
			b.add(t, math.MaxInt64, 200+i)
			b.take(t, math.MinInt64)
			b.add(t, at, 300+i)
			if i%3 == 2 {
				b.take(t, at)
			}
			heapHolds(t, b.a)
		}
		b.drain(t, at)
		b.drain(t, math.MaxInt64)
	}
}

// In one queue of one due things come out as they went in, however long it goes on.
func TestQueue(t *testing.T) {
	a := New[int](17)
	out := 0
	for i := range 20000 {
		if e := a.Add(3, i); e != api.OK {
			t.Fatalf("Add %d: %d", i, e)
		}
		if a.Room() > 0 && i%5 != 0 {
			continue
		}
		for range 1 + i%4 {
			if x, is := a.Take(3); is && x != out {
				t.Fatalf("Take: %d; wanted %d", x, out)
			} else if is {
				out++
			}
		}
	}
	if rest := a.Drain(3); len(rest) != 20000-out || rest[0] != out {
		t.Errorf("%d are left; %d were taken", len(rest), out)
	}
}

// The order of what was added stays whole behind so many things as a lesser number couldn't count.
func TestLongAgo(t *testing.T) {
	for _, n := range []uint64{1 << 8, 1 << 15, 1 << 16, 1 << 31, 1 << 32, 1 << 53, 1 << 63} {
		a := New[int](20)
		a.added = n - 5
		for i := range 10 {
			a.Add(1, i)
		}
		if l := a.Drain(1); !slices.Equal(l, []int{0, 1, 2, 3, 4, 5, 6, 7, 8, 9}) {
			t.Errorf("about %d: %v", n, l)
		}
	}
}

// P8.3

// Drain of none, of some and of all: at each time about those of the things that are there.
func TestDrain(t *testing.T) {
	for now := int64(-2); now <= 12; now++ {
		b, one := newBoth[int](30), newBoth[int](30)
		for i := range 20 {
			at := int64(i * 3 % 11)
			b.add(t, at, i)
			one.add(t, at, i)
		}
		got := b.a.Drain(now)
		var want []int
		for {
			x, is := one.a.Take(now)
			if !is {
				break
			}
			want = append(want, x)
		}
		if !slices.Equal(got, want) || !slices.Equal(got, b.s.drain(now)) {
			t.Errorf("Drain(%d): %v; wanted %v", now, got, want)
		}
		if (len(got) == 0) != (now < 0) || (len(got) == 20) != (now >= 10) {
			t.Errorf("Drain(%d): %d things", now, len(got))
		}
		b.holds(t)
		heapHolds(t, b.a)
		b.drain(t, now)
		b.add(t, now, 50)
		b.add(t, now-1, 51)
		b.add(t, now+1, 52)
		b.drain(t, now)
		b.drain(t, math.MaxInt64)
	}
}

// Drain at the ends of the type.
func TestDrainEdges(t *testing.T) {
	for _, now := range dues() {
		b := newBoth[int64](50)
		l := dues()
		for i := range l {
			b.add(t, l[i*7%len(l)], l[i*7%len(l)])
		}
		for _, at := range l {
			b.add(t, at, at)
		}
		var want []int64
		for _, at := range l {
			if at <= now {
				want = append(want, at, at)
			}
		}
		if got := b.a.Drain(now); !slices.Equal(got, want) {
			t.Errorf("Drain(%d): %v; wanted %v", now, got, want)
		}
	}
}

// What Drain answers is the caller's: nothing that is done to it, or to the agenda, changes the other one.
func TestDrainIsNew(t *testing.T) {
	b := newBoth[int](20)
	for i := range 12 {
		b.add(t, int64(i/2), i)
	}
	l := b.a.Drain(2)
	b.s.drain(2)
	was := slices.Clone(l)
	for i := range 6 {
		b.add(t, 3, 40+i)
	}
	other := b.a.Drain(3)
	b.s.drain(3)
	if !slices.Equal(l, was) {
		t.Errorf("%v; it was %v", l, was)
	}
	was = slices.Clone(other)
	for i := range l {
		l[i] = -1
	}
	_ = append(l, -1, -1, -1)
	if !slices.Equal(other, was) {
		t.Errorf("%v; it was %v", other, was)
	}
	b.drain(t, 100)
}

// P8.4

// All rows of seven dues out of three: what is taken to the end comes out by its time, and of one time as it was added.
func TestAllOrders(t *testing.T) {
	for n := range 2187 {
		b := newBoth[int](7)
		for i, m := 0, n; i < 7; i, m = i+1, m/3 {
			b.add(t, int64(m%3), i)
		}
		heapHolds(t, b.a)
		if n%2 == 0 {
			b.drain(t, 2)
			continue
		}
		for range 8 {
			b.take(t, 2)
		}
	}
}

// All plays of seven steps, each an Add at 0, 1 or 2, a Take of 0, 1 or 2, or a Drain of 1.
func TestAllPlays(t *testing.T) {
	for n := range 7 * 7 * 7 * 7 * 7 * 7 * 7 {
		b := newBoth[int](4)
		for i, m := 0, n; i < 7; i, m = i+1, m/7 {
			switch step := m % 7; {
			case step < 3:
				b.add(t, int64(step), i+1)
			case step < 6:
				b.take(t, int64(step-3))
			default:
				b.drain(t, 1)
			}
		}
		heapHolds(t, b.a)
		b.drain(t, 2)
	}
}

// Long plays of no rule.
func TestLongPlays(t *testing.T) {
	for seed := range uint64(60) {
		plays(t, 100+seed, func(n uint64) uint64 { return n })
	}
}

// plays plays calls of no rule with an agenda and the list.
func plays[T comparable](t *testing.T, seed uint64, thing func(n uint64) T) {
	t.Helper()
	next := chance(seed)
	most := []int{-1, 0, 1, 2, 3, 7, 8, 31, 64, 200}[next()%10]
	b := newBoth[T](most)
	wide := []int64{1, 2, 5, 40, 1 << 40}[next()%5]
	grow := next()%5 + 1
	at := func() int64 {
		if next()%20 == 0 {
			return dues()[next()%20]
		}
		return int64(next())%wide - wide/3
	}
	for i := range 1500 {
		switch step := next() % 10; {
		case step < grow+2:
			b.add(t, at(), thing(next()))
		case step < 9:
			b.take(t, at())
		case next()%4 == 0:
			b.drain(t, at())
		}
		if i%50 == 0 {
			heapHolds(t, b.a)
		}
	}
	b.drain(t, math.MaxInt64)
	heapHolds(t, b.a)
}

// Two agendas know nothing of one another.
func TestTwo(t *testing.T) {
	a, b := newBoth[int](8), newBoth[int](8)
	for i := range 8 {
		a.add(t, int64(8-i), i)
		b.add(t, int64(i), 10+i)
		b.add(t, int64(i), 20+i)
		a.take(t, 5)
	}
	a.drain(t, 8)
	b.drain(t, 8)
}

// Of nil

func TestNil(t *testing.T) {
	nilHolds[int](t)
	nilHolds[string](t)
	nilHolds[api.Key](t)
	nilHolds[*int](t)
}

func nilHolds[T comparable](t *testing.T) {
	t.Helper()
	var a *Agenda[T]
	var none T
	for _, at := range dues() {
		if e := a.Add(at, none); e != api.ErrArg {
			t.Errorf("Add(%d): %d", at, e)
		}
		if x, is := a.Take(at); x != none || is {
			t.Errorf("Take(%d): %v, %t", at, x, is)
		}
		if l := a.Drain(at); len(l) != 0 {
			t.Errorf("Drain(%d): %v", at, l)
		}
	}
	if at, is := a.Next(); at != 0 || is {
		t.Errorf("Next: %d, %t", at, is)
	}
	if a.Len() != 0 || a.Room() != 0 {
		t.Errorf("Len %d, Room %d", a.Len(), a.Room())
	}
}

func ExampleAgenda() {
	a := New[string](10)
	a.Add(5, "a")
	a.Add(3, "b")
	a.Add(3, "c")
	fmt.Println(a.Drain(3))
	fmt.Println(a.Next())
	// Output:
	// [b c]
	// 5 true
}
