package round

import (
	"fmt"
	"maps"
	"math"
	"math/big"
	"slices"
	"testing"

	"angelus/api"
	"angelus/trim"
)

const (
	least    = math.MinInt64
	greatest = math.MaxInt64
)

// edges are readings out of which all short lists are made. Most sums of them are no int64.
var edges = []int64{least, least + 1, -1, 0, 1, greatest - 1, greatest}

// numbers are what a round may have as its own.
var numbers = []int64{least, least + 1, -1 << 60, -1025, -2, -1, 0, 1, 2, 63, 64, 1023, 1 << 32, 1<<60 - 1, 1 << 60, 1<<60 + 1, greatest - 2, greatest - 1, greatest}

// wild are numbers all over int64.
var wild = []int64{
	least, least + 1, least + 2, -1<<62 - 1, -1 << 62, -1<<62 + 1, -1 << 60, -1<<53 - 1, -1 << 40, -1<<32 - 1, -1 << 32,
	math.MinInt32, -1 << 16, -1025, -1024, -1000, -100, -65, -64, -63, -10, -5, -3, -2, -1, 0, 1, 2, 3, 5, 10, 62, 63, 64, 65, 100,
	1000, 1023, 1024, 1025, 1 << 16, 1<<30 - 1, 1 << 30, 1<<30 + 1, math.MaxInt32, 1 << 31, 1<<32 - 1, 1 << 32, 1<<32 + 1,
	1 << 40, 1<<53 + 1, 1<<60 - 1, 1 << 60, 1<<60 + 1, 1<<62 - 1, 1 << 62, 1<<62 + 1, greatest - 2, greatest - 1, greatest,
}

// strangers are numbers that no node has.
var strangers = []int{math.MinInt, math.MinInt + 1, math.MinInt32, -65, -64, -63, -2, -1, 64, 65, 66, 127, 128, 255, 256, 1 << 16, math.MaxInt32, 1 << 32, 1<<32 + 1, 1 << 40, math.MaxInt - 1, math.MaxInt}

// chance answers numbers of no rule, the same ones each time.
func chance(x uint64) func() uint64 {
	return func() uint64 {
		x ^= x << 13
		x ^= x >> 7
		x ^= x << 17
		return x >> 8
	}
}

// below draws a number from 0 on below n.
func below(next func() uint64, n int) int { return int(next() % uint64(n)) }

// whole draws a number out of the whole of int64, most of them by few bits.
func whole(next func() uint64) int64 {
	switch below(next, 4) {
	case 0:
		return wild[below(next, len(wild))]
	case 1:
		return wild[below(next, len(wild))] + int64(below(next, 5)) - 2 // it may go round: that is a number, too
	}
	return int64(next()<<8^next()) >> below(next, 64)
}

// drawn draws readings: all over int64, near one another, near one end of it, or out of few.
func drawn(next func() uint64, n int) []int64 {
	kind, about := below(next, 5), whole(next)>>1
	l := make([]int64, n)
	for k := range l {
		switch kind {
		case 0:
			l[k] = whole(next)
		case 1:
			l[k] = about + int64(below(next, 50)) - 25
		case 2:
			l[k] = greatest - int64(below(next, 2*n+2))
		case 3:
			l[k] = least + int64(below(next, 2*n+2))
		default:
			l[k] = int64(below(next, 4)) - 2
		}
	}
	return l
}

// mixed is a list in an order of no rule.
func mixed[T any](next func() uint64, l []T) []T {
	l = slices.Clone(l)
	for k := range l {
		j := below(next, k+1)
		l[k], l[j] = l[j], l[k]
	}
	return l
}

// turned is a list whose end stands ahead of its beginning.
func turned[T any](l []T, by int) []T { return append(slices.Clone(l[by:]), l[:by]...) }

// lists goes over all lists of n numbers out of some. One list is used for all of them.
func lists(out []int64, n int, ask func(l []int64)) {
	l := make([]int64, n)
	var fill func(k int)
	fill = func(k int) {
		if k == n {
			ask(l)
			return
		}
		for _, x := range out {
			l[k] = x
			fill(k + 1)
		}
	}
	fill(0)
}

// faults are all f that are asked of n readings: from -1 to one more than there are, and both ends.
func faults(n int) []int {
	l := []int{math.MinInt, math.MaxInt}
	for f := -1; f <= n+1; f++ {
		l = append(l, f)
	}
	return l
}

// many is n readings, all alike.
func many(n int, x int64) []int64 {
	l := make([]int64, n)
	for k := range l {
		l[k] = x
	}
	return l
}

// note is one that was noted.
type note struct {
	from int
	d    int64
}

// slow is a round as the chapter tells it: a list of what was noted, in that order, which is gone through for each answer.
type slow struct {
	no  int64
	got []note
}

func (s *slow) note(from int, d int64) api.Errno {
	if from < 0 || from > 63 {
		return api.ErrNode
	}
	if _, ok := s.get(from); ok {
		return api.ErrDup
	}
	s.got = append(s.got, note{from, d})
	return api.OK
}

func (s *slow) get(from int) (int64, bool) {
	for _, x := range s.got {
		if x.from == from {
			return x.d, true
		}
	}
	return 0, false
}

// who adds up what each node's bit counts.
func (s *slow) who() api.Set {
	var sum uint64
	for _, x := range s.got {
		bit := uint64(1)
		for range x.from {
			bit *= 2
		}
		sum += bit
	}
	return api.Set(sum)
}

func (s *slow) readings() []int64 {
	var l []int64
	for _, x := range s.got {
		l = append(l, x.d)
	}
	return l
}

// close is the mean, rounded down, of what is left once the least and the greatest reading were struck out f times, as
// long as one is left. The sum has no end.
func (s *slow) close(f int) (int64, bool) {
	left := s.readings()
	if len(left) == 0 {
		return 0, false
	}
	for ; f > 0 && len(left) > 2; f-- {
		for _, x := range []int64{slices.Min(left), slices.Max(left)} {
			k := slices.Index(left, x)
			left = slices.Delete(left, k, k+1)
		}
	}
	sum := new(big.Int)
	for _, x := range left {
		sum.Add(sum, big.NewInt(x))
	}
	return sum.Div(sum, big.NewInt(int64(len(left)))).Int64(), true // big's Div is rounded down, by a number above 0
}

// slowBegin is when a round begins, without an end.
func slowBegin(no, every int64) *big.Int {
	return new(big.Int).Mul(big.NewInt(no), big.NewInt(every))
}

func slowWhen(no, every int64) (int64, bool) {
	at := slowBegin(no, every)
	if no < 0 || every < 0 || at.Cmp(big.NewInt(1<<60)) > 0 {
		return 0, false
	}
	return at.Int64(), true
}

// slowFirst halves where the first round may be: rounds begin one behind the other.
func slowFirst(at, every int64) int64 {
	if every < 1 {
		return 1
	}
	lo, hi := int64(1), int64(greatest)
	for lo < hi {
		mid := lo + (hi-lo)/2
		if slowBegin(mid, every).Cmp(big.NewInt(at)) >= 0 {
			hi = mid
		} else {
			lo = mid + 1
		}
	}
	return lo
}

// made is a round with these readings, of nodes 0 to as many as there are, beside the same one told plainly.
func made(t *testing.T, no int64, readings ...int64) (*Round, *slow) {
	t.Helper()
	r, s := New(no), &slow{no: no}
	for k, d := range readings {
		notes(t, r, s, k, d, api.OK)
	}
	return r, s
}

// notes notes one in both, and is whether the answer is what is wanted.
func notes(t *testing.T, r *Round, s *slow, from int, d int64, want api.Errno) {
	t.Helper()
	if is := s.note(from, d); is != want {
		t.Fatalf("the plain round answers %d to a note of %d; wanted %d", is, from, want)
	}
	if got := r.Note(from, d); got != want {
		t.Fatalf("Note(%d, %d): %d; wanted %d; noted so far: %s", from, d, got, want, some(s.got))
	}
}

// same is whether a round tells what it shall: its number, each node's reading and those of strangers, who, and how many.
func same(t *testing.T, r *Round, s *slow) {
	t.Helper()
	if r.No() != s.no || r.Who() != s.who() || r.Len() != len(s.got) {
		t.Fatalf("No %d, Who %x, Len %d; wanted %d, %x, %d; noted: %s", r.No(), r.Who(), r.Len(), s.no, s.who(), len(s.got), some(s.got))
	}
	for from := -2; from < 67; from++ {
		gets(t, r, s, from)
	}
	for _, from := range strangers {
		gets(t, r, s, from)
	}
}

func gets(t *testing.T, r *Round, s *slow, from int) {
	t.Helper()
	want, is := s.get(from)
	if got, ok := r.Get(from); got != want || ok != is {
		t.Fatalf("Get(%d): %d, %v; wanted %d, %v; noted: %s", from, got, ok, want, is, some(s.got))
	}
}

// closes is whether Close answers what is wanted, which the chapter read plainly, and the Middle of the readings, tell, too.
func closes(t *testing.T, r *Round, s *slow, f int, want int64, is bool) {
	t.Helper()
	if x, ok := s.close(f); x != want || ok != is {
		t.Fatalf("read plainly, Close(%d) is %d, %v; wanted %d, %v; readings: %s", f, x, ok, want, is, some(s.readings()))
	}
	if x, ok := trim.Middle(f, s.readings()...); x != want || ok != is {
		t.Fatalf("Middle(%d) is %d, %v; wanted %d, %v; readings: %s", f, x, ok, want, is, some(s.readings()))
	}
	if x, ok := r.Close(f); x != want || ok != is {
		t.Fatalf("Close(%d): %d, %v; wanted %d, %v; readings: %s", f, x, ok, want, is, some(s.readings()))
	}
}

// plainly holds Close with each of some f against the chapter read plainly.
func plainly(t *testing.T, r *Round, s *slow, fs []int) {
	t.Helper()
	for _, f := range fs {
		want, is := s.close(f)
		closes(t, r, s, f, want, is)
	}
}

// some is a list as text, or the beginning of a long one.
func some[T any](l []T) string {
	if len(l) > 20 {
		return fmt.Sprintf("%v and so on, %d of them", l[:20], len(l))
	}
	return fmt.Sprint(l)
}

func begins(t *testing.T, no, every, want int64, is bool) {
	t.Helper()
	if got, ok := When(no, every); got != want || ok != is {
		t.Fatalf("When(%d, %d): %d, %v; wanted %d, %v", no, every, got, ok, want, is)
	}
}

func firsts(t *testing.T, at, every, want int64) {
	t.Helper()
	if got := First(at, every); got != want {
		t.Fatalf("First(%d, %d): %d; wanted %d", at, every, got, want)
	}
}

// The chapter's examples.
func TestExample(t *testing.T) {
	r, s := made(t, 1, 5, 7, -100, 6)
	closes(t, r, s, 1, 5, true)
	firsts(t, 2000, 1000, 2)
	firsts(t, 2001, 1000, 3)
}

// P25.1

// What New makes has its number, and no readings.
func TestNew(t *testing.T) {
	for _, no := range append(wild, numbers...) {
		r := New(no)
		if r == nil {
			t.Fatal("no round", no)
		}
		same(t, r, &slow{no: no})
		plainly(t, r, &slow{no: no}, faults(1))
	}
}

// A round that New did not make is round 0.
func TestZero(t *testing.T) {
	var r Round
	same(t, &r, &slow{})
	plainly(t, &r, &slow{}, faults(0))
	if r.Note(64, 1) != api.ErrNode {
		t.Error("no node")
	}
	next := r.Next()
	same(t, next, &slow{no: 1})
	s := &slow{}
	notes(t, &r, s, 5, -7, api.OK)
	notes(t, &r, s, 5, 8, api.ErrDup)
	notes(t, &r, s, 0, 9, api.OK)
	same(t, &r, s)
	closes(t, &r, s, 1, 1, true)
	same(t, next, &slow{no: 1})
}

func TestNoteByHand(t *testing.T) {
	r := New(7)
	for _, x := range []struct {
		from int
		d    int64
		want api.Errno
		who  api.Set
		many int
	}{
		{64, 1, api.ErrNode, 0, 0},
		{-1, 1, api.ErrNode, 0, 0},
		{3, 10, api.OK, 8, 1},
		{3, 11, api.ErrDup, 8, 1},
		{3, 10, api.ErrDup, 8, 1},
		{0, -10, api.OK, 9, 2},
		{63, 0, api.OK, 1<<63 + 9, 3},
		{63, 0, api.ErrDup, 1<<63 + 9, 3},
		{64, 0, api.ErrNode, 1<<63 + 9, 3},
		{67, 0, api.ErrNode, 1<<63 + 9, 3}, // 67 is 3 modulo 64
		{62, greatest, api.OK, 1<<63 + 1<<62 + 9, 4},
		{1, least, api.OK, 1<<63 + 1<<62 + 11, 5},
		{1, greatest, api.ErrDup, 1<<63 + 1<<62 + 11, 5},
		{-1, least, api.ErrNode, 1<<63 + 1<<62 + 11, 5},
	} {
		if got := r.Note(x.from, x.d); got != x.want || r.Who() != x.who || r.Len() != x.many || r.No() != 7 {
			t.Fatalf("Note(%d, %d): %d, then Who %x, Len %d; wanted %d, %x, %d", x.from, x.d, got, r.Who(), r.Len(), x.want, x.who, x.many)
		}
	}
	for from, want := range map[int]int64{3: 10, 0: -10, 63: 0, 62: greatest, 1: least} {
		if got, ok := r.Get(from); got != want || !ok {
			t.Errorf("Get(%d): %d, %v; wanted %d", from, got, ok, want)
		}
	}
	for _, from := range []int{-1, 2, 4, 61, 64, 65, 67, 127} {
		if got, ok := r.Get(from); got != 0 || ok {
			t.Errorf("Get(%d): %d, %v; wanted none", from, got, ok)
		}
	}
}

// filled are rounds of no reading, of one, of some, and of all nodes.
func filled(t *testing.T, ask func(r *Round, s *slow)) {
	t.Helper()
	for _, from := range [][]int{nil, {0}, {1}, {62}, {63}, {0, 63}, {5, 9, 33}} {
		r, s := made(t, 3)
		for k, node := range from {
			notes(t, r, s, node, int64(1000*k-5), api.OK)
		}
		ask(r, s)
	}
	for _, without := range []int{-1, 0, 1, 31, 62, 63} { // -1: all 64
		r, s := made(t, 4)
		for node := range 64 {
			if node != without {
				notes(t, r, s, node, int64(7*node-100), api.OK)
			}
		}
		ask(r, s)
	}
}

// Each node's first reading stands, another one of it changes nothing.
func TestNoteOfEachNode(t *testing.T) {
	for node := range 64 {
		filled(t, func(r *Round, s *slow) {
			d, there := s.get(node)
			if !there {
				d = int64(node) - 40
				notes(t, r, s, node, d, api.OK)
				same(t, r, s)
			}
			for _, again := range []int64{d, d + 1, -d, 0, least, greatest} {
				notes(t, r, s, node, again, api.ErrDup)
			}
			same(t, r, s)
		})
	}
}

// Of a node that is none nothing is noted, also where all others are there.
func TestNoteOfNoNode(t *testing.T) {
	filled(t, func(r *Round, s *slow) {
		for _, from := range strangers {
			for _, d := range []int64{least, -5, -1, 0, 1, 100, greatest} {
				notes(t, r, s, from, d, api.ErrNode)
			}
		}
		same(t, r, s)
		plainly(t, r, s, []int{0, 1, 3})
	})
}

// A full round refuses each node as one that is there, and each stranger as none.
func TestFull(t *testing.T) {
	r, s := made(t, 9, many(64, 5)...)
	if r.Len() != 64 || r.Who() != math.MaxUint64 {
		t.Fatal("full", r.Len(), r.Who())
	}
	for from := -70; from < 200; from++ {
		want := api.ErrNode
		if from >= 0 && from < api.MaxNodes {
			want = api.ErrDup
		}
		notes(t, r, s, from, 6, want)
	}
	same(t, r, s)
	closes(t, r, s, 3, 5, true)
}

// Readings in the whole range of their numbers stand as they came.
func TestReadingsOfAnyNumber(t *testing.T) {
	for _, d := range append(wild, edges...) {
		for _, node := range []int{0, 1, 31, 62, 63} {
			r, s := made(t, 1)
			notes(t, r, s, node, d, api.OK)
			same(t, r, s)
			plainly(t, r, s, []int{-1, 0, 1, 2})
			notes(t, r, s, node, d, api.ErrDup)
			notes(t, r, s, node, d^1, api.ErrDup)
			same(t, r, s)
		}
	}
}

// A reading of 0 is one.
func TestReadingOfNought(t *testing.T) {
	r, s := made(t, 1, 0)
	notes(t, r, s, 0, 5, api.ErrDup)
	if d, ok := r.Get(0); d != 0 || !ok || r.Who() != 1 || r.Len() != 1 {
		t.Error("a reading of 0", d, ok, r.Who(), r.Len())
	}
	closes(t, r, s, 0, 0, true)
}

// All ways to note few readings of few nodes, with all calls asked behind each note.
func TestAllShortOnes(t *testing.T) {
	var each []note
	for _, from := range []int{-1, 0, 1, 63, 64} {
		each = append(each, note{from, -1}, note{from, 2})
	}
	for n := range 4 {
		l := make([]int64, 0, len(each))
		for k := range each {
			l = append(l, int64(k))
		}
		lists(l, n, func(l []int64) {
			r, s := made(t, 2)
			for _, k := range l {
				x := each[k]
				if got, want := r.Note(x.from, x.d), s.note(x.from, x.d); got != want {
					t.Fatalf("Note(%d, %d): %d; wanted %d; noted: %v", x.from, x.d, got, want, s.got)
				}
			}
			same(t, r, s)
			plainly(t, r, s, faults(n))
		})
	}
}

// Many rounds at once, noted, asked, closed and followed by chance: each of them knows nothing of the others.
func TestByChance(t *testing.T) {
	next := chance(251)
	counts := map[string]int{}
	for range 60 {
		var rounds []*Round
		var slows []*slow
		for range 4 {
			no := whole(next)
			rounds, slows = append(rounds, New(no)), append(slows, &slow{no: no})
		}
		for range 400 {
			k := below(next, len(rounds))
			r, s := rounds[k], slows[k]
			switch below(next, 12) {
			case 0:
				same(t, r, s)
				counts["asked"]++
			case 1:
				plainly(t, r, s, []int{below(next, 70) - 2})
				counts["closed"]++
			case 2:
				if s.no != greatest && below(next, 8) == 0 {
					k = below(next, len(rounds))
					rounds[k], slows[k] = r.Next(), &slow{no: s.no + 1}
					counts["next"]++
				}
			default:
				from, d := below(next, 68)-2, whole(next)
				want := s.note(from, d)
				if got := r.Note(from, d); got != want {
					t.Fatalf("Note(%d, %d): %d; wanted %d; noted: %s", from, d, got, want, some(s.got))
				}
				counts[fmt.Sprint("noted ", want)]++
			}
		}
		for k := range rounds {
			same(t, rounds[k], slows[k])
			plainly(t, rounds[k], slows[k], faults(rounds[k].Len()))
		}
	}
	for _, what := range []string{"asked", "closed", "next", "noted 0", "noted 8", "noted 12"} {
		if counts[what] < 100 {
			t.Error("too few:", what, counts)
		}
	}
}

// P25.2

func TestCloseByHand(t *testing.T) {
	const top = math.MaxInt
	for _, x := range []struct {
		f        int
		readings []int64
		want     int64
		is       bool
	}{
		{0, nil, 0, false}, {1, nil, 0, false}, {-1, nil, 0, false}, {top, nil, 0, false}, {math.MinInt, nil, 0, false},
		{0, []int64{0}, 0, true}, {0, []int64{9}, 9, true}, {1, []int64{9}, 9, true}, {2, []int64{-9}, -9, true}, {top, []int64{9}, 9, true}, {-1, []int64{9}, 9, true}, {math.MinInt, []int64{9}, 9, true},
		{0, []int64{least}, least, true}, {1, []int64{greatest}, greatest, true},
		{0, []int64{1, 4}, 2, true}, {1, []int64{4, 1}, 2, true}, {2, []int64{1, 4}, 2, true}, {3, []int64{1, 4}, 2, true}, {-1, []int64{1, 4}, 2, true}, {top, []int64{1, 4}, 2, true},
		{0, []int64{-1, -4}, -3, true}, {0, []int64{-10, 10}, 0, true}, {1, []int64{10, -10}, 0, true}, {0, []int64{0, -1}, -1, true},
		{0, []int64{greatest, greatest}, greatest, true}, {0, []int64{least, least}, least, true}, {0, []int64{least, greatest}, -1, true}, {1, []int64{greatest, greatest - 1}, greatest - 1, true}, {1, []int64{least, least + 1}, least, true},
		{0, []int64{10, 40, 70}, 40, true}, {1, []int64{70, 10, 40}, 40, true}, {1, []int64{70, 10, 41}, 41, true}, {0, []int64{70, 10, 42}, 40, true}, {0, []int64{70, 10, 43}, 41, true}, {2, []int64{70, 10, 43}, 43, true},
		{0, []int64{7, 7, 7}, 7, true}, {1, []int64{7, 7, 7}, 7, true}, {1, []int64{7, 7, 9}, 7, true}, {1, []int64{7, 9, 9}, 9, true}, {0, []int64{7, 7, 9}, 7, true}, {0, []int64{9, 9, 7}, 8, true},
		{-1, []int64{5, 7, -100, 6}, -21, true}, {0, []int64{5, 7, -100, 6}, -21, true}, {1, []int64{5, 7, -100, 6}, 5, true}, {2, []int64{5, 7, -100, 6}, 5, true}, {4, []int64{5, 7, -100, 6}, 5, true}, {5, []int64{5, 7, -100, 6}, 5, true}, {top, []int64{5, 7, -100, 6}, 5, true}, {math.MinInt, []int64{5, 7, -100, 6}, -21, true},
		{1, []int64{least, greatest, 3, 8, 1}, 4, true}, {2, []int64{least, greatest, 3, 8, 1}, 3, true}, {0, []int64{least, greatest, 3, 8, 1}, 2, true}, {3, []int64{least, greatest, 3, 8, 1}, 3, true},
		{1, []int64{greatest, greatest, greatest, greatest}, greatest, true}, {1, []int64{least, least, least, least, greatest}, least, true},
	} {
		r, s := made(t, 5, x.readings...)
		closes(t, r, s, x.f, x.want, x.is)
		same(t, r, s)
	}
}

// All short lists out of the edges, with every f.
func TestCloseAtTheEdges(t *testing.T) {
	for n := range 5 {
		lists(edges, n, func(l []int64) {
			r, s := made(t, 1, l...)
			plainly(t, r, s, faults(n))
		})
	}
}

// All sizes up to all nodes, with every f, both ends among them.
func TestCloseOfManySizes(t *testing.T) {
	next := chance(252)
	for n := range 65 {
		fs := append(faults(n), n/2-1, n/2, n/2+1, math.MaxInt-1, math.MinInt+1)
		for range 6 {
			r, s := made(t, 1, drawn(next, n)...)
			plainly(t, r, s, fs)
		}
		for _, x := range edges {
			r, s := made(t, 1, many(n, x)...)
			plainly(t, r, s, fs)
		}
	}
}

// The sum of 64 readings at an end of int64 lies far beyond it.
func TestCloseOfGreatSums(t *testing.T) {
	for _, x := range []struct {
		readings []int64
		f        int
		want     int64
	}{
		{many(64, greatest), 0, greatest}, {many(64, greatest), 31, greatest}, {many(64, greatest), 3, greatest},
		{many(64, least), 0, least}, {many(64, least), 31, least}, {many(64, least), 64, least},
		{append(many(63, greatest), greatest-1), 0, greatest - 1}, {append(many(63, greatest), greatest-64), 0, greatest - 1}, {append(many(63, greatest), greatest-65), 0, greatest - 2},
		{append(many(63, greatest), 0), 1, greatest}, {append(many(63, least), least+63), 0, least}, {append(many(63, least), least+64), 0, least + 1},
		{append(many(32, least), many(32, greatest)...), 0, -1}, {append(many(32, least), many(32, greatest)...), 31, -1},
		{append(many(33, least), many(31, greatest)...), 31, least}, {append(many(31, least), many(33, greatest)...), 31, greatest},
		{many(3, 1<<62), 0, 1 << 62}, {many(3, -1<<62-1), 1, -1<<62 - 1},
	} {
		r, s := made(t, 1, x.readings...)
		closes(t, r, s, x.f, x.want, true)
		same(t, r, s)
	}
}

func TestCloseByChance(t *testing.T) {
	next := chance(253)
	var beyond, under int
	for range 20000 {
		n := 1 + below(next, 64)
		r, s := made(t, whole(next), drawn(next, n)...)
		for range 3 {
			f := below(next, n+3) - 1
			plainly(t, r, s, []int{f})
			if x, _ := s.close(f); x < 0 {
				under++
			}
		}
		sum := new(big.Int)
		for _, d := range s.readings() {
			sum.Add(sum, big.NewInt(d))
		}
		if !sum.IsInt64() {
			beyond++
		}
	}
	if beyond < 3000 || under < 10000 {
		t.Error("too few:", beyond, under)
	}
}

// By Close nothing changes: what is asked behind it, and it itself, answers the same; and more can be noted.
func TestCloseChangesNothing(t *testing.T) {
	filled(t, func(r *Round, s *slow) {
		for _, f := range faults(r.Len()) {
			plainly(t, r, s, []int{f, f})
			same(t, r, s)
		}
		for node := range 64 {
			want := api.OK
			if _, ok := s.get(node); ok {
				want = api.ErrDup
			}
			notes(t, r, s, node, int64(3*node)-90, want)
			plainly(t, r, s, []int{-1, 0, 1, node, node + 1})
		}
		same(t, r, s)
		if r.Len() != 64 {
			t.Fatal("not all were noted", r.Len())
		}
	})
}

func TestMoreBehindClose(t *testing.T) {
	r, s := made(t, 5)
	closes(t, r, s, 1, 0, false)
	notes(t, r, s, 4, 100, api.OK)
	closes(t, r, s, 1, 100, true)
	closes(t, r, s, 1, 100, true)
	notes(t, r, s, 4, 50, api.ErrDup)
	notes(t, r, s, 2, 51, api.OK)
	closes(t, r, s, 1, 75, true)
	notes(t, r, s, 63, -1000, api.OK)
	closes(t, r, s, 1, 51, true)
	closes(t, r, s, 0, -283, true)
	notes(t, r, s, 64, -1000, api.ErrNode)
	closes(t, r, s, 1, 51, true)
	same(t, r, s)
}

func TestNext(t *testing.T) {
	for _, no := range append(wild, numbers...) {
		if no == greatest {
			continue
		}
		r, s := made(t, no, 4, -7, 5)
		n := r.Next()
		if n == nil || n == r {
			t.Fatal("the next round is none, or the same", no)
		}
		same(t, n, &slow{no: no + 1})
		plainly(t, n, &slow{no: no + 1}, faults(0))
		same(t, r, s)
	}
}

// No number is one more than the greatest one: it stays, and nothing goes round.
func TestNextOfTheGreatest(t *testing.T) {
	r, s := made(t, greatest, 1)
	n := r.Next()
	same(t, n, &slow{no: greatest})
	same(t, r, s)
	same(t, n.Next(), &slow{no: greatest})
	same(t, New(greatest-1).Next().Next().Next(), &slow{no: greatest})
}

// What is noted in a round is not seen in the one that it came from, nor the other way; nor in another one behind the same.
func TestNextApart(t *testing.T) {
	filled(t, func(r *Round, s *slow) {
		n, ns := r.Next(), &slow{no: s.no + 1}
		m, ms := r.Next(), &slow{no: s.no + 1}
		for node := range 64 {
			if _, ok := s.get(node); !ok {
				notes(t, r, s, node, int64(node), api.OK)
			}
			if node%2 == 0 {
				notes(t, n, ns, node, int64(node)-1000, api.OK)
			}
			if node%3 == 0 {
				notes(t, m, ms, node, int64(node)+1000, api.OK)
			}
		}
		same(t, r, s)
		same(t, n, ns)
		same(t, m, ms)
		plainly(t, r, s, faults(64))
		plainly(t, n, ns, faults(32))
		plainly(t, m, ms, faults(22))
	})
}

func TestManyNext(t *testing.T) {
	r := New(-500)
	for no := int64(-500); no < 500; no++ {
		s := &slow{no: no}
		same(t, r, s)
		notes(t, r, s, below(chance(uint64(no+501)), 64), no, api.OK)
		closes(t, r, s, 1, no, true)
		r = r.Next()
	}
}

// Two rounds with one number share nothing.
func TestRoundsApart(t *testing.T) {
	a, as := made(t, 3)
	b, bs := made(t, 3)
	notes(t, a, as, 1, 10, api.OK)
	notes(t, b, bs, 2, 20, api.OK)
	notes(t, b, bs, 1, 30, api.OK)
	same(t, a, as)
	same(t, b, bs)
	closes(t, a, as, 0, 10, true)
	closes(t, b, bs, 0, 25, true)
}

// P25.3

func TestWhenByHand(t *testing.T) {
	const most = int64(1) << 60
	for _, x := range []struct {
		no, every, want int64
		is              bool
	}{
		{0, 0, 0, true}, {0, 1, 0, true}, {1, 0, 0, true}, {1, 1, 1, true}, {2, 3, 6, true}, {7, 1000, 7000, true}, {3, 1 << 58, 3 << 58, true},
		{-1, 0, 0, false}, {0, -1, 0, false}, {-1, -1, 0, false}, {-1, 1, 0, false}, {1, -1, 0, false}, {-5, -5, 0, false}, {-1, greatest, 0, false}, {greatest, -1, 0, false},
		{least, least, 0, false}, {least, 0, 0, false}, {0, least, 0, false}, {least, 1, 0, false}, {1, least, 0, false}, {least, -1, 0, false}, {least, 2, 0, false}, {least, greatest, 0, false}, {greatest, least, 0, false},
		{0, greatest, 0, true}, {greatest, 0, 0, true}, {1, greatest, 0, false}, {greatest, 1, 0, false}, {2, greatest, 0, false}, {greatest, greatest, 0, false},
		{1, most, most, true}, {most, 1, most, true}, {1, most + 1, 0, false}, {most + 1, 1, 0, false}, {1, most - 1, most - 1, true}, {most - 1, 1, most - 1, true}, {2, most, 0, false}, {most, 2, 0, false}, {most, most, 0, false},
		{1 << 30, 1 << 30, most, true}, {1 << 30, 1<<30 + 1, 0, false}, {1<<30 + 1, 1 << 30, 0, false}, {1<<30 - 1, 1<<30 + 1, most - 1, true}, {1 << 20, 1 << 40, most, true}, {1<<20 + 1, 1 << 40, 0, false}, {1 << 20, 1<<40 + 1, 0, false},
		{3, most / 3, most - 1, true}, {most / 3, 3, most - 1, true}, {3, most/3 + 1, 0, false}, {most/3 + 1, 3, 0, false}, {5, most / 5, most - 1, true}, {5, most/5 + 1, 0, false}, {7, most / 7, most - 1, true}, {11, most / 11, most - 1 - (most-1)%11, true},
		{1 << 32, 1 << 32, 0, false}, {1 << 31, 1 << 33, 0, false}, {1 << 62, 4, 0, false}, {4, 1 << 62, 0, false}, {1<<32 + 1, 1<<32 - 1, 0, false}, {1 << 33, 1 << 31, 0, false}, // modulo 2^64 few of them are small
		{3, 6148914691236517206, 0, false}, {6148914691236517206, 3, 0, false}, // modulo 2^64: 2
	} {
		begins(t, x.no, x.every, x.want, x.is)
		want, is := slowWhen(x.no, x.every)
		begins(t, x.no, x.every, want, is)
	}
}

func TestWhenAtTheEdges(t *testing.T) {
	for _, no := range append(wild, edges...) {
		for _, every := range append(wild, edges...) {
			want, is := slowWhen(no, every)
			begins(t, no, every, want, is)
		}
	}
	for no := int64(-3); no < 200; no++ {
		for every := int64(-3); every < 200; every++ {
			want, is := slowWhen(no, every)
			begins(t, no, every, want, is)
		}
	}
}

// Of factors that nearly make MaxTime, some of them just, on either side.
func TestWhenAboutMaxTime(t *testing.T) {
	const most = int64(1) << 60
	next := chance(254)
	ask := func(a, b int64) {
		for _, x := range []int64{a - 1, a, a + 1} {
			want, is := slowWhen(x, b)
			begins(t, x, b, want, is)
			begins(t, b, x, want, is)
		}
	}
	for bit := range 61 {
		ask(1<<bit, most>>bit)
	}
	for n := int64(1); n < 2000; n++ {
		ask(n, most/n)
		ask(n, (most+1)/n)
		ask(n, (most-1)/n)
	}
	for _, n := range []int64{17, 241, 61681, 4562284561} { // of those that make one more than MaxTime
		if (most+1)%n != 0 {
			t.Fatal("no factor", n)
		}
		begins(t, n, (most+1)/n, 0, false)
		begins(t, (most+1)/n, n, 0, false)
	}
	for range 20000 {
		n := int64(next()) & (most - 1) >> below(next, 60)
		ask(max(n, 1), most/max(n, 1))
	}
}

func TestWhenByChance(t *testing.T) {
	next := chance(255)
	var told, above, under int
	for range 100000 {
		no, every := whole(next), whole(next)
		want, is := slowWhen(no, every)
		begins(t, no, every, want, is)
		switch {
		case is:
			told++
		case no < 0 || every < 0:
			under++
		default:
			above++
		}
	}
	if told < 5000 || above < 5000 || under < 5000 {
		t.Error("too few:", told, above, under)
	}
}

func TestFirstByHand(t *testing.T) {
	for _, x := range []struct{ at, every, want int64 }{
		{2000, 1000, 2}, {2001, 1000, 3}, {1999, 1000, 2}, {1001, 1000, 2}, {1000, 1000, 1}, {999, 1000, 1}, {1, 1000, 1}, {0, 1000, 1}, {-1, 1000, 1}, {-5, 10, 1}, {-1000, 1000, 1}, {-2001, 1000, 1},
		{0, 1, 1}, {1, 1, 1}, {2, 1, 2}, {3, 1, 3}, {100, 1, 100}, {1, 2, 1}, {2, 2, 1}, {3, 2, 2}, {4, 2, 2}, {5, 2, 3}, {-1, 1, 1}, {-1, 2, 1},
		{5, 0, 1}, {5, -1, 1}, {5, least, 1}, {0, 0, 1}, {-1, -1, 1}, {greatest, 0, 1}, {greatest, -1, 1}, {greatest, least, 1}, {least, 0, 1}, {least, -1, 1}, {least, least, 1}, {2000, -1000, 1}, {-2000, -1000, 1},
		{least, 1, 1}, {least, 2, 1}, {least, greatest, 1}, {least + 1, 1, 1}, {0, greatest, 1}, {1, greatest, 1}, {greatest - 1, greatest, 1},
		{greatest, greatest, 1}, {greatest, greatest - 1, 2}, {greatest - 1, greatest - 1, 1}, {greatest, 1, greatest}, {greatest - 1, 1, greatest - 1}, {greatest, 2, 1 << 62}, {greatest - 1, 2, 1<<62 - 1}, {greatest, 3, 3074457345618258603}, {greatest, 7, 1317624576693539401},
		{1 << 62, 1, 1 << 62}, {1 << 62, 1 << 62, 1}, {1<<62 + 1, 1 << 62, 2}, {greatest, 1 << 62, 2}, {1 << 60, 1000, 1152921504606847}, {1 << 60, 1 << 40, 1 << 20}, {1<<60 + 1, 1 << 40, 1<<20 + 1},
	} {
		firsts(t, x.at, x.every, x.want)
		firsts(t, x.at, x.every, slowFirst(x.at, x.every))
	}
}

func TestFirstAtTheEdges(t *testing.T) {
	for _, at := range append(wild, edges...) {
		for _, every := range append(wild, edges...) {
			firsts(t, at, every, slowFirst(at, every))
		}
	}
}

// Of small numbers, by counting rounds.
func TestFirstByCounting(t *testing.T) {
	for every := int64(1); every < 60; every++ {
		for at := int64(-200); at < 400; at++ {
			no := int64(1)
			for no*every < at {
				no++
			}
			firsts(t, at, every, no)
		}
	}
	for every := int64(-60); every < 1; every++ {
		for at := int64(-400); at < 400; at++ {
			firsts(t, at, every, 1)
		}
	}
}

// just is whether the round that First tells is one from 1 on that does not begin ahead of at, while the one before it does.
func just(t *testing.T, at, every int64) int64 {
	t.Helper()
	no := First(at, every)
	if no < 1 || slowBegin(no, every).Cmp(big.NewInt(at)) < 0 {
		t.Fatalf("First(%d, %d): %d, which is none, or begins ahead of that", at, every, no)
	}
	if no > 1 && slowBegin(no-1, every).Cmp(big.NewInt(at)) >= 0 {
		t.Fatalf("First(%d, %d): %d, but the one before it does not begin ahead of that", at, every, no)
	}
	return no
}

// Just at a round's beginning, and about it.
func TestFirstAboutBeginnings(t *testing.T) {
	next := chance(256)
	asked := 0
	about := func(no, every int64) {
		at := slowBegin(no, every)
		if no < 1 || every < 1 || !at.IsInt64() {
			return
		}
		asked++
		x := at.Int64()
		firsts(t, x, every, no)
		just(t, x, every)
		if every > 1 {
			firsts(t, x-1, every, no)
		} else {
			firsts(t, x-1, every, max(no-1, 1))
		}
		just(t, x-1, every)
		if x < greatest {
			firsts(t, x+1, every, no+1)
			just(t, x+1, every)
		}
	}
	for no := int64(1); no < 60; no++ {
		for every := int64(1); every < 60; every++ {
			about(no, every)
		}
		for _, every := range wild {
			about(no, every)
			about(every, no)
			about(greatest/max(every, 1), every)
		}
	}
	for range 50000 {
		every := whole(next)
		about(1+int64(next())%(greatest/max(every, 1)), every)
	}
	if asked < 20000 {
		t.Error("too few:", asked)
	}
}

func TestFirstByChance(t *testing.T) {
	next := chance(257)
	var one, more int
	for range 30000 {
		at, every := whole(next), whole(next)
		firsts(t, at, every, slowFirst(at, every))
		if every < 1 {
			continue
		}
		if just(t, at, every) == 1 {
			one++
		} else {
			more++
		}
	}
	if one < 3000 || more < 2000 {
		t.Error("too few:", one, more)
	}
}

// From a time on when a round begins, that round is the first.
func TestWhenAndFirst(t *testing.T) {
	next := chance(258)
	asked := 0
	for range 100000 {
		no, every := whole(next), whole(next)
		if at, ok := When(no, every); ok && no > 0 && every > 0 {
			asked++
			firsts(t, at, every, no)
		}
	}
	if asked < 5000 {
		t.Error("too few:", asked)
	}
}

// P25.4

// orders is whether rounds with these notes, noted in many orders, close alike with every f, however often that is asked.
func orders(t *testing.T, next func() uint64, l []note) {
	t.Helper()
	rising, byReading := slices.Clone(l), slices.Clone(l)
	slices.SortFunc(rising, func(a, b note) int { return a.from - b.from })
	slices.SortFunc(byReading, func(a, b note) int { return big.NewInt(a.d).Cmp(big.NewInt(b.d)) })
	all := [][]note{l, rising, byReading, mixed(next, l), mixed(next, l)}
	for _, x := range all[1:3] {
		falling := slices.Clone(x)
		slices.Reverse(falling)
		all = append(all, falling, turned(x, len(x)/2), turned(x, len(x)/3))
	}
	s := &slow{no: 1, got: rising}
	for _, l := range all {
		r, of := made(t, 1)
		for _, x := range l {
			notes(t, r, of, x.from, x.d, api.OK)
		}
		plainly(t, r, s, faults(len(l)))
		plainly(t, r, s, []int{1, 1, 1, len(l) / 3, len(l) / 3})
		if r.Who() != s.who() || r.Len() != len(s.got) {
			t.Fatal("Who or Len hangs on the order", r.Who(), r.Len())
		}
	}
}

func TestNoOrder(t *testing.T) {
	next := chance(259)
	for n := range 65 {
		for range 4 {
			nodes := make([]int, 64)
			for k := range nodes {
				nodes[k] = k
			}
			nodes = mixed(next, nodes)
			var l []note
			for k, d := range drawn(next, n) {
				l = append(l, note{nodes[k], d})
			}
			orders(t, next, l)
		}
	}
}

// All orders of few readings, some of them alike.
func TestNoOrderOfFew(t *testing.T) {
	next := chance(260)
	readings := []int64{-100, 5, 5, 6, greatest}
	places := []int64{0, 1, 2, 3, 4}
	for n := range 6 {
		s := &slow{no: 1}
		for k, d := range readings[:n] {
			s.note(k, d)
		}
		lists(places[:n], n, func(l []int64) {
			if len(slices.Compact(slices.Sorted(slices.Values(l)))) < n {
				return // no order: one is asked twice
			}
			r := New(1)
			for _, k := range mixed(next, l) {
				r.Note(int(k), readings[k])
			}
			plainly(t, r, s, faults(n))
			q := New(1)
			for _, k := range l {
				q.Note(int(k), readings[k])
			}
			plainly(t, q, s, faults(n))
		})
	}
}

// A map is gone through in another order each time: Close answers the same, a thousand times over.
func TestCloseOverAndOver(t *testing.T) {
	next := chance(261)
	for _, n := range []int{2, 3, 4, 7, 8, 9, 33, 64} {
		r, s := made(t, 1, drawn(next, n)...)
		for _, f := range []int{-1, 0, 1, n / 2, n} {
			want, is := s.close(f)
			for range 200 {
				if x, ok := r.Close(f); x != want || ok != is {
					t.Fatalf("Close(%d): %d, %v; wanted %d, %v", f, x, ok, want, is)
				}
				if r.Who() != s.who() {
					t.Fatalf("Who: %x", r.Who())
				}
			}
		}
	}
}

// Which node a reading is of does not change the middle.
func TestNoNodes(t *testing.T) {
	next := chance(262)
	for n := 1; n < 65; n++ {
		l := drawn(next, n)
		r, s := made(t, 1, l...)
		q, _ := made(t, 1, mixed(next, l)...)
		plainly(t, r, s, faults(n))
		plainly(t, q, s, faults(n))
	}
}

// What a nil round answers stands ahead of all promises.
func TestNil(t *testing.T) {
	var r *Round
	for _, from := range append([]int{0, 1, 62, 63}, strangers...) {
		for _, d := range edges {
			if got := r.Note(from, d); got != api.ErrArg {
				t.Fatalf("Note(%d, %d) of nil: %d", from, d, got)
			}
		}
		if d, ok := r.Get(from); d != 0 || ok {
			t.Fatalf("Get(%d) of nil: %d, %v", from, d, ok)
		}
	}
	for _, f := range faults(3) {
		if x, ok := r.Close(f); x != 0 || ok {
			t.Fatalf("Close(%d) of nil: %d, %v", f, x, ok)
		}
	}
	if r.No() != 0 || r.Who() != 0 || r.Len() != 0 || r.Next() != nil {
		t.Error("nil:", r.No(), r.Who(), r.Len(), r.Next())
	}
}

// The readings of the chapter that all is held against, by hand.
func TestPlain(t *testing.T) {
	s := &slow{no: 4}
	if s.note(3, 10) != api.OK || s.note(3, 11) != api.ErrDup || s.note(64, 1) != api.ErrNode || s.note(-1, 1) != api.ErrNode || s.note(63, -10) != api.OK || s.note(0, 0) != api.OK {
		t.Error("note")
	}
	if s.who() != 1<<63+9 || !slices.Equal(s.readings(), []int64{10, -10, 0}) || len(s.got) != 3 {
		t.Error("who", s.who(), s.got)
	}
	for from, want := range map[int]int64{3: 10, 63: -10, 0: 0} {
		if d, ok := s.get(from); d != want || !ok {
			t.Error("get", from, d, ok)
		}
	}
	if _, ok := s.get(1); ok {
		t.Error("get of none")
	}
	of := &slow{got: []note{{0, 5}, {1, 7}, {2, -100}, {3, 6}}}
	for f, want := range map[int]int64{-1: -21, 0: -21, 1: 5, 2: 5, 9: 5} {
		if x, ok := of.close(f); x != want || !ok {
			t.Error("close", f, x, ok)
		}
	}
	if _, ok := new(slow).close(0); ok {
		t.Error("close of none")
	}
	if x, ok := slowWhen(3, 1<<58); x != 3<<58 || !ok {
		t.Error("when", x, ok)
	}
	for _, x := range [][2]int64{{1, 1<<60 + 1}, {-1, -1}, {-1, 0}, {0, -1}, {1 << 32, 1 << 32}} {
		if at, ok := slowWhen(x[0], x[1]); at != 0 || ok {
			t.Error("when", x, at, ok)
		}
	}
	if slowFirst(2000, 1000) != 2 || slowFirst(2001, 1000) != 3 || slowFirst(-5, 10) != 1 || slowFirst(5, 0) != 1 || slowFirst(greatest, 1) != greatest || slowFirst(greatest, 2) != 1<<62 {
		t.Error("first")
	}
	var l []string
	lists([]int64{1, 2}, 2, func(x []int64) { l = append(l, fmt.Sprint(x)) })
	if !slices.Equal(l, []string{"[1 1]", "[1 2]", "[2 1]", "[2 2]"}) {
		t.Error("lists", l)
	}
	if got := turned([]int{1, 2, 3}, 1); !slices.Equal(got, []int{2, 3, 1}) {
		t.Error("turned", got)
	}
	were := map[int]int{}
	for _, k := range mixed(chance(5), []int{1, 2, 2, 3}) {
		were[k]++
	}
	if !maps.Equal(were, map[int]int{1: 1, 2: 2, 3: 1}) {
		t.Error("mixed", were)
	}
}
