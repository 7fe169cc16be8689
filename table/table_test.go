package table

import (
	"fmt"
	"math"
	"slices"
	"strconv"
	"testing"

	"angelus/api"
)

// chance answers numbers of no rule, the same ones each time.
func chance(x uint64) func() uint64 {
	return func() uint64 {
		x ^= x << 13
		x ^= x >> 7
		x ^= x << 17
		return x
	}
}

// row is one of a table.
type row[V comparable] struct {
	k api.Key
	v V
}

// slow is a table as the chapter tells it, word by word: a list that is kept in order.
type slow[V comparable] struct {
	most int
	rows []row[V]
}

func newSlow[V comparable](most int) *slow[V] {
	if most < 0 {
		most = 0
	}
	if most > 65536 {
		most = 65536
	}
	return &slow[V]{most: most}
}

// slowAhead is the order of keys (P6.1), word by word.
func slowAhead(a, b api.Key) bool {
	if a.T != b.T {
		return a.T < b.T
	}
	if a.From != b.From {
		return a.From < b.From
	}
	return a.Seq < b.Seq
}

// find is where a key's row stands; -1: nowhere.
func (s *slow[V]) find(k api.Key) int {
	for i, r := range s.rows {
		if r.k.T == k.T && r.k.From == k.From && r.k.Seq == k.Seq {
			return i
		}
	}
	return -1
}

func (s *slow[V]) put(k api.Key, v V) api.Errno {
	if s.find(k) >= 0 {
		return api.ErrDup
	}
	if len(s.rows) == s.most {
		return api.ErrFull
	}
	i := 0
	for i < len(s.rows) && slowAhead(s.rows[i].k, k) {
		i++
	}
	s.rows = slices.Insert(s.rows, i, row[V]{k, v})
	return api.OK
}

func (s *slow[V]) get(k api.Key) (v V, is bool) {
	if i := s.find(k); i >= 0 {
		return s.rows[i].v, true
	}
	return v, false
}

func (s *slow[V]) del(k api.Key) bool {
	i := s.find(k)
	if i < 0 {
		return false
	}
	s.rows = slices.Delete(s.rows, i, i+1)
	return true
}

func (s *slow[V]) min() (r row[V], is bool) {
	if len(s.rows) == 0 {
		return r, false
	}
	return s.rows[0], true
}

func (s *slow[V]) pop() (row[V], bool) {
	r, is := s.min()
	if is {
		s.rows = s.rows[1:]
	}
	return r, is
}

func (s *slow[V]) drop(no func(k api.Key, v V) bool) int {
	var stay []row[V]
	for _, r := range s.rows {
		if !no(r.k, r.v) {
			stay = append(stay, r)
		}
	}
	n := len(s.rows) - len(stay)
	s.rows = stay
	return n
}

// rowsOf are all rows that All goes over.
func rowsOf[V comparable](x *Table[V]) []row[V] {
	var l []row[V]
	for k, v := range x.All() {
		l = append(l, row[V]{k, v})
	}
	return l
}

// keysOf are the keys of rows.
func keysOf[V comparable](l []row[V]) []api.Key {
	var out []api.Key
	for _, r := range l {
		out = append(out, r.k)
	}
	return out
}

// holds checks what all calls that change nothing answer of a table.
func holds[V comparable](t *testing.T, x *Table[V], s *slow[V]) {
	t.Helper()
	if x.Len() != len(s.rows) || x.Room() != s.most-len(s.rows) {
		t.Fatalf("Len %d, Room %d; wanted %d, %d", x.Len(), x.Room(), len(s.rows), s.most-len(s.rows))
	}
	if got := rowsOf(x); !slices.Equal(got, s.rows) {
		t.Fatalf("All: %v; wanted %v", got, s.rows)
	}
	minHolds(t, x, s)
	for _, r := range s.rows {
		getHolds(t, x, s, r.k)
	}
	piecesHold(t, x)
}

func minHolds[V comparable](t *testing.T, x *Table[V], s *slow[V]) {
	t.Helper()
	k, v, is := x.Min()
	if want, wantIs := s.min(); k != want.k || v != want.v || is != wantIs {
		t.Fatalf("Min: %v, %v, %t; wanted %v, %v, %t", k, v, is, want.k, want.v, wantIs)
	}
}

func getHolds[V comparable](t *testing.T, x *Table[V], s *slow[V], k api.Key) {
	t.Helper()
	v, is := x.Get(k)
	if want, wantIs := s.get(k); v != want || is != wantIs {
		t.Fatalf("Get(%v): %v, %t; wanted %v, %t", k, v, is, want, wantIs)
	}
}

// piecesHold checks what keeps a great table fast, which no answer tells: none of its pieces is empty or too long.
func piecesHold[V comparable](t *testing.T, x *Table[V]) {
	t.Helper()
	n := 0
	for _, piece := range x.order {
		if len(piece) == 0 || len(piece) > longest {
			t.Fatalf("a piece of %d keys", len(piece))
		}
		n += len(piece)
	}
	if n != len(x.rows) {
		t.Fatalf("%d keys in order of %d rows", n, len(x.rows))
	}
}

// puts checks a Put, in both.
func puts[V comparable](t *testing.T, x *Table[V], s *slow[V], k api.Key, v V) {
	t.Helper()
	if got, want := x.Put(k, v), s.put(k, v); got != want {
		t.Fatalf("Put(%v, %v): %d; wanted %d", k, v, got, want)
	}
}

// dels checks a Del, in both.
func dels[V comparable](t *testing.T, x *Table[V], s *slow[V], k api.Key) {
	t.Helper()
	if got, want := x.Del(k), s.del(k); got != want {
		t.Fatalf("Del(%v): %t; wanted %t", k, got, want)
	}
}

// pops checks a Pop, in both.
func pops[V comparable](t *testing.T, x *Table[V], s *slow[V]) {
	t.Helper()
	k, v, is := x.Pop()
	if want, wantIs := s.pop(); k != want.k || v != want.v || is != wantIs {
		t.Fatalf("Pop: %v, %v, %t; wanted %v, %v, %t", k, v, is, want.k, want.v, wantIs)
	}
}

// drops checks a Drop, in both: what it counts, and that it asks each row once, in order.
func drops[V comparable](t *testing.T, x *Table[V], s *slow[V], no func(k api.Key, v V) bool) {
	t.Helper()
	was := slices.Clone(s.rows)
	var asked []row[V]
	got := x.Drop(func(k api.Key, v V) bool {
		asked = append(asked, row[V]{k, v})
		return no(k, v)
	})
	if want := s.drop(no); got != want {
		t.Fatalf("Drop: %d; wanted %d", got, want)
	}
	if !slices.Equal(asked, was) {
		t.Fatalf("Drop asked %v; wanted %v", asked, was)
	}
}

// at is a key of a T.
func at(T int64) api.Key { return api.Key{T: T} }

// filled is a table of the keys of T 1, 2, 3 .. n, each with ten times its T, put in in an order of no rule; and the same one as a list.
func filled(t *testing.T, most, n int) (*Table[int], *slow[int]) {
	t.Helper()
	x, s := New[int](most), newSlow[int](most)
	l := make([]int, n)
	for i := range l {
		l[i] = i + 1
	}
	mix(l, chance(uint64(most*1000+n+1)))
	for _, i := range l {
		puts(t, x, s, at(int64(i)), 10*i)
	}
	holds(t, x, s)
	return x, s
}

// mix brings a list into an order of no rule.
func mix[T any](l []T, next func() uint64) {
	for i := range l {
		j := next() % uint64(len(l))
		l[i], l[j] = l[j], l[i]
	}
}

// edges are keys in order, each once: the ends of T, From and Seq and what is about them, Ts below 0 and Froms that are no nodes among them.
func edges() []api.Key {
	var l []api.Key
	for _, T := range []int64{math.MinInt64, -1 << 32, -1, 0, 1, 1 << 32, api.MaxTime, api.MaxTime + 1, math.MaxInt64} {
		for _, f := range []int{math.MinInt, -1, 0, 1, 63, 64, 1<<32 + 1, math.MaxInt} {
			for _, q := range []uint32{0, 1, 1 << 31, math.MaxUint32} {
				l = append(l, api.Key{T: T, From: f, Seq: q})
			}
		}
	}
	return l
}

// P7.1

func TestExample(t *testing.T) {
	x := New[string](1)
	if e := x.Put(api.Key{T: 2}, "two"); e != api.OK {
		t.Errorf("Put {2, 0, 0}: %d", e)
	}
	if e := x.Put(api.Key{T: 1}, "one"); e != api.ErrFull {
		t.Errorf("Put {1, 0, 0}: %d", e)
	}
	if e := x.Put(api.Key{T: 2}, "again"); e != api.ErrDup {
		t.Errorf("Put {2, 0, 0} again: %d", e)
	}
	if k, v, is := x.Pop(); k != (api.Key{T: 2}) || v != "two" || !is {
		t.Errorf("Pop: %v, %q, %t", k, v, is)
	}
}

func TestMost(t *testing.T) {
	for _, r := range []struct{ most, want int }{
		{math.MinInt, 0}, {math.MinInt + 1, 0}, {-1 << 32, 0}, {-1<<32 + 5, 0}, {-65536, 0}, {-2, 0}, {-1, 0},
		{0, 0}, {1, 1}, {2, 2}, {3, 3}, {255, 255}, {256, 256}, {1000, 1000}, {65534, 65534}, {65535, 65535},
		{65536, 65536}, {65537, 65536}, {65536 + 5, 65536}, {1 << 17, 65536}, {1 << 32, 65536}, {1<<32 + 5, 65536},
		{1 << 40, 65536}, {math.MaxInt - 1, 65536}, {math.MaxInt, 65536},
	} {
		x := New[int](r.most)
		if x.Len() != 0 || x.Room() != r.want {
			t.Errorf("New(%d): Len %d, Room %d; wanted 0, %d", r.most, x.Len(), x.Room(), r.want)
		}
		holds(t, x, newSlow[int](r.most))
		want := api.OK
		if r.want == 0 {
			want = api.ErrFull
		}
		if e := x.Put(at(5), 7); e != want {
			t.Errorf("New(%d): Put: %d; wanted %d", r.most, e, want)
		}
	}
}

// Each table of up to twenty rows at most, filled, is full with so many and not ahead of it.
func TestFill(t *testing.T) {
	for most := -1; most <= 20; most++ {
		x, s := New[int](most), newSlow[int](most)
		for i := range 2*most + 3 {
			for range 2 {
				puts(t, x, s, api.Key{T: int64(i * 7 % 23), From: i, Seq: 9}, i)
				holds(t, x, s)
			}
		}
		if x.Len() != max(most, 0) || x.Room() != 0 {
			t.Errorf("filled, of most %d: Len %d, Room %d", most, x.Len(), x.Room())
		}
	}
}

// The greatest table has MaxTable rows and no more, also where more were asked for; whichever way they come.
func TestGreatest(t *testing.T) {
	rising := make([]int, 65536)
	for i := range rising {
		rising[i] = i
	}
	falling := slices.Clone(rising)
	slices.Reverse(falling)
	mixed := slices.Clone(rising)
	mix(mixed, chance(1))
	for _, r := range []struct {
		most int
		l    []int
	}{{api.MaxTable, rising}, {api.MaxTable + 1, falling}, {math.MaxInt, mixed}} {
		x := New[int](r.most)
		for i, v := range r.l {
			if e := x.Put(at(int64(v)), v); e != api.OK || x.Len() != i+1 || x.Room() != 65535-i {
				t.Fatalf("New(%d): Put %d: %d; Len %d, Room %d", r.most, i, e, x.Len(), x.Room())
			}
		}
		if e := x.Put(at(-1), 0); e != api.ErrFull {
			t.Errorf("New(%d): one more: %d", r.most, e)
		}
		if e := x.Put(at(40000), 0); e != api.ErrDup {
			t.Errorf("New(%d): one that is there: %d", r.most, e)
		}
		piecesHold(t, x)
		if n := len(x.order); n > 2*65536/longest {
			t.Errorf("New(%d): %d pieces", r.most, n)
		}
		allRising(t, x, 65536)
		popRising(t, x, 65536)
	}
}

// allRising checks that All goes over n rows whose Ts and values are 0, 1, 2 ..
func allRising(t *testing.T, x *Table[int], n int) {
	t.Helper()
	i := 0
	for k, v := range x.All() {
		if k != at(int64(i)) || v != i {
			t.Fatalf("All: %v, %d at place %d", k, v, i)
		}
		i++
	}
	if i != n {
		t.Fatalf("All: %d rows; wanted %d", i, n)
	}
}

// popRising checks that Pop takes out n rows whose Ts and values are 0, 1, 2 .., and no more.
func popRising(t *testing.T, x *Table[int], n int) {
	t.Helper()
	for i := range n {
		if k, v, is := x.Pop(); k != at(int64(i)) || v != i || !is || x.Len() != n-1-i {
			t.Fatalf("Pop %d: %v, %d, %t; Len %d", i, k, v, is, x.Len())
		}
	}
	if k, v, is := x.Pop(); k != (api.Key{}) || v != 0 || is {
		t.Fatalf("Pop of none: %v, %d, %t", k, v, is)
	}
}

// A key that is there is ErrDup, and its row stays as it is: in a table with room, with room for one, and in a full one.
func TestPutTwice(t *testing.T) {
	for _, most := range []int{5, 6, 10} {
		for i := 1; i <= 5; i++ {
			x, s := filled(t, most, 5)
			if e := x.Put(at(int64(i)), 77); e != api.ErrDup {
				t.Errorf("most %d: Put of a key that is there: %d", most, e)
			}
			if v, is := x.Get(at(int64(i))); v != 10*i || !is {
				t.Errorf("most %d: behind it: %d, %t", most, v, is)
			}
			holds(t, x, s)
		}
	}
}

// A new key is ErrFull in a full table, wherever it would stand, and nothing changes.
func TestPutFull(t *testing.T) {
	for n := range 6 {
		x, s := filled(t, n, n)
		for _, k := range []api.Key{{}, {T: -9}, {T: 3, Seq: 1}, {T: 99}, {T: 2, From: -1}} {
			if e := x.Put(k, 5); e != api.ErrFull {
				t.Errorf("Put(%v) into a table full of %d: %d", k, n, e)
			}
			if v, is := x.Get(k); v != 0 || is {
				t.Errorf("behind it: %d, %t", v, is)
			}
			holds(t, x, s)
		}
	}
}

// Where one row less is there than may be, one may come, and not two.
func TestPutLast(t *testing.T) {
	for n := 1; n < 6; n++ {
		for _, k := range []api.Key{{}, {T: -9}, {T: 3, Seq: 1}, {T: 99}} {
			x, s := filled(t, n, n-1)
			if x.Room() != 1 {
				t.Errorf("Room: %d", x.Room())
			}
			if e := x.Put(k, 5); e != api.OK {
				t.Errorf("Put(%v) as the last one of %d: %d", k, n, e)
			}
			if e := x.Put(api.Key{T: 4, Seq: 4}, 5); e != api.ErrFull {
				t.Errorf("Put behind the last one of %d: %d", n, e)
			}
			s.put(k, 5)
			holds(t, x, s)
		}
	}
}

// What was taken out may come again, with another value, into a table that was full.
func TestPutAgain(t *testing.T) {
	takes := []struct {
		name string
		take func(x *Table[int])
		at   int64
	}{
		{"Del", func(x *Table[int]) { x.Del(at(3)) }, 3},
		{"Pop", func(x *Table[int]) { x.Pop() }, 1},
		{"Drop", func(x *Table[int]) { x.Drop(func(k api.Key, _ int) bool { return k.T == 4 }) }, 4},
	}
	for _, r := range takes {
		x, s := filled(t, 5, 5)
		r.take(x)
		s.del(at(r.at))
		holds(t, x, s)
		if v, is := x.Get(at(r.at)); v != 0 || is {
			t.Errorf("%s: it is there: %d, %t", r.name, v, is)
		}
		puts(t, x, s, at(r.at), 78)
		holds(t, x, s)
		if v, is := x.Get(at(r.at)); v != 78 || !is {
			t.Errorf("%s: put again: %d, %t", r.name, v, is)
		}
		if e := x.Put(at(9), 1); e != api.ErrFull {
			t.Errorf("%s: one more behind it: %d", r.name, e)
		}
		r.take(x)
		if e := x.Put(at(9), 1); e != api.OK {
			t.Errorf("%s: another one instead: %d", r.name, e)
		}
	}
}

// Keys that differ in T alone, in From alone or in Seq alone are two, whatever T and From are; all pairs of them, put in both ways round.
func TestPairsOfKeys(t *testing.T) {
	l := edges()
	for i, a := range l {
		for _, b := range l[i+1:] {
			for _, way := range [][2]api.Key{{a, b}, {b, a}} {
				x := New[api.Key](2)
				if e := x.Put(way[0], way[0]); e != api.OK {
					t.Fatalf("Put(%v): %d", way[0], e)
				}
				if v, is := x.Get(way[1]); v != (api.Key{}) || is || x.Del(way[1]) {
					t.Fatalf("%v is there by %v", way[1], way[0])
				}
				if e := x.Put(way[1], way[1]); e != api.OK {
					t.Fatalf("Put(%v) behind %v: %d", way[1], way[0], e)
				}
				k, v, is := x.Pop()
				k2, v2, is2 := x.Pop()
				if k != a || v != a || !is || k2 != b || v2 != b || !is2 {
					t.Fatalf("%v and %v come out as %v and %v", way[0], way[1], k, k2)
				}
			}
		}
	}
}

// All edges in one table, found one by one, put in mixed.
func TestAllEdges(t *testing.T) {
	l := edges()
	mixed := slices.Clone(l)
	mix(mixed, chance(2))
	x, s := New[api.Key](len(l)), newSlow[api.Key](len(l))
	for _, k := range mixed {
		if x.Del(k) {
			t.Errorf("Del(%v), which is not there", k)
		}
		puts(t, x, s, k, k)
	}
	holds(t, x, s)
	if got := keysOf(rowsOf(x)); !slices.Equal(got, l) {
		t.Errorf("All of all edges: %v", got)
	}
	for _, k := range mixed {
		dels(t, x, s, k)
		getHolds(t, x, s, k)
	}
	holds(t, x, s)
}

// Tables of values of several types; a zero value is a row as any other.
func ofType[V comparable](t *testing.T, a, b V) {
	t.Helper()
	var zero V
	x := New[V](3)
	l := []row[V]{{api.Key{T: 1, From: 2, Seq: 3}, a}, {api.Key{T: 1, From: 2, Seq: 4}, b}, {at(2), zero}}
	for _, r := range []row[V]{l[1], l[2], l[0]} {
		if e := x.Put(r.k, r.v); e != api.OK {
			t.Errorf("%T: Put(%v): %d", a, r.k, e)
		}
	}
	if got := rowsOf(x); !slices.Equal(got, l) {
		t.Errorf("%T: All: %v", a, got)
	}
	if v, is := x.Get(at(2)); v != zero || !is {
		t.Errorf("%T: Get of a zero value: %v, %t", a, v, is)
	}
	if v, is := x.Get(at(3)); v != zero || is {
		t.Errorf("%T: Get of none: %v, %t", a, v, is)
	}
	if n := x.Drop(func(_ api.Key, v V) bool { return v == b }); n != 1 {
		t.Errorf("%T: Drop: %d", a, n)
	}
	if k, v, is := x.Min(); k != l[0].k || v != a || !is {
		t.Errorf("%T: Min: %v, %v, %t", a, k, v, is)
	}
	for _, want := range []row[V]{l[0], l[2]} {
		if k, v, is := x.Pop(); k != want.k || v != want.v || !is {
			t.Errorf("%T: Pop: %v, %v, %t", a, k, v, is)
		}
	}
	if k, v, is := x.Pop(); k != (api.Key{}) || v != zero || is {
		t.Errorf("%T: Pop of none: %v, %v, %t", a, k, v, is)
	}
	if k, v, is := x.Min(); k != (api.Key{}) || v != zero || is {
		t.Errorf("%T: Min of none: %v, %v, %t", a, k, v, is)
	}
}

func TestTypesOfValues(t *testing.T) {
	type pair struct {
		name string
		n    int
	}
	one, two := 1, 2
	ofType(t, 5, -7)
	ofType(t, int64(math.MinInt64), math.MaxInt64)
	ofType(t, "a", "b")
	ofType(t, pair{"a", 1}, pair{"a", 2})
	ofType(t, api.Key{T: 1}, api.Key{Seq: 1})
	ofType(t, &one, &two)
	ofType[any](t, "a", 5)
	ofType(t, [2]bool{true, false}, [2]bool{false, true})
}

// Values that can't be held against each other may be kept, too.
func TestValuesOfSlices(t *testing.T) {
	x := New[[]byte](2)
	x.Put(at(2), []byte("two"))
	x.Put(at(1), nil)
	if v, is := x.Get(at(1)); v != nil || !is {
		t.Errorf("Get of nil: %v, %t", v, is)
	}
	x.Pop()
	if _, v, is := x.Pop(); string(v) != "two" || !is {
		t.Errorf("Pop: %s, %t", v, is)
	}
	y := New[func() int](1)
	y.Put(at(1), func() int { return 9 })
	if f, is := y.Get(at(1)); !is || f() != 9 {
		t.Error("Get of a function")
	}
}

// Tables know nothing of one another.
func TestTwoTables(t *testing.T) {
	x, y := New[int](2), New[int](2)
	if x.Put(at(1), 1) != api.OK || y.Len() != 0 || y.Put(at(1), 2) != api.OK {
		t.Error("Put into the second one")
	}
	x.Clear()
	if v, is := y.Get(at(1)); v != 2 || !is || x.Len() != 0 {
		t.Errorf("the second one behind Clear of the first one: %d, %t", v, is)
	}
}

// P7.2

// Get, Del, Min and Pop of what is there, of none, and again.
func TestGetDelMinPop(t *testing.T) {
	x, s := filled(t, 5, 4)
	for _, k := range []api.Key{{}, {T: 5}, {T: 1, From: 1}, {T: 1, Seq: 1}, {T: -1}, {T: 1, From: -1}} {
		if v, is := x.Get(k); v != 0 || is {
			t.Errorf("Get(%v): %d, %t", k, v, is)
		}
		if x.Del(k) {
			t.Errorf("Del(%v): true", k)
		}
		holds(t, x, s)
	}
	for range 3 {
		if v, is := x.Get(at(3)); v != 30 || !is {
			t.Errorf("Get: %d, %t", v, is)
		}
		if k, v, is := x.Min(); k != at(1) || v != 10 || !is {
			t.Errorf("Min: %v, %d, %t", k, v, is)
		}
	}
	if !x.Del(at(3)) || x.Del(at(3)) || x.Len() != 3 || x.Room() != 2 {
		t.Errorf("Del; Len %d, Room %d", x.Len(), x.Room())
	}
	if v, is := x.Get(at(3)); v != 0 || is {
		t.Errorf("Get behind Del: %d, %t", v, is)
	}
	for _, T := range []int64{1, 2, 4} {
		if k, v, is := x.Min(); k != at(T) || v != int(10*T) || !is {
			t.Errorf("Min: %v, %d, %t; wanted T %d", k, v, is, T)
		}
		if k, v, is := x.Pop(); k != at(T) || v != int(10*T) || !is {
			t.Errorf("Pop: %v, %d, %t; wanted T %d", k, v, is, T)
		}
		if v, is := x.Get(at(T)); v != 0 || is || x.Del(at(T)) {
			t.Errorf("Get behind Pop: %d, %t", v, is)
		}
	}
	empty(t, x, 5)
}

// empty checks each call of a table without rows, and that it may still be filled.
func empty(t *testing.T, x *Table[int], most int) {
	t.Helper()
	s := newSlow[int](most)
	for range 2 {
		holds(t, x, s)
		for _, k := range []api.Key{{}, {T: 1}, {T: -1, From: 64, Seq: 5}} {
			if v, is := x.Get(k); v != 0 || is || x.Del(k) {
				t.Errorf("of an empty table: Get(%v): %d, %t", k, v, is)
			}
		}
		if k, v, is := x.Min(); k != (api.Key{}) || v != 0 || is {
			t.Errorf("Min of an empty table: %v, %d, %t", k, v, is)
		}
		if k, v, is := x.Pop(); k != (api.Key{}) || v != 0 || is {
			t.Errorf("Pop of an empty table: %v, %d, %t", k, v, is)
		}
		if n := x.Drop(func(api.Key, int) bool { t.Error("asked of a row of an empty table"); return true }); n != 0 {
			t.Errorf("Drop of an empty table: %d", n)
		}
		for k, v := range x.All() {
			t.Errorf("All of an empty table: %v, %d", k, v)
		}
	}
	for i := range most {
		puts(t, x, s, at(int64(-i)), i+1)
	}
	holds(t, x, s)
	if e := x.Put(at(99), 1); e != api.ErrFull {
		t.Errorf("Put into an empty table that was filled again: %d", e)
	}
}

func TestEmpty(t *testing.T) {
	for most := range 4 {
		empty(t, New[int](most), most)
		x, _ := filled(t, most, most)
		for k := range x.All() {
			x.Del(k)
		}
		empty(t, x, most)
		x, _ = filled(t, most, most)
		for x.Len() > 0 {
			x.Pop()
		}
		empty(t, x, most)
	}
}

// The row of the zero key is a row as any other.
func TestZeroKey(t *testing.T) {
	x := New[int](2)
	x.Put(at(1), 5)
	if k, _, is := x.Min(); k != at(1) || !is {
		t.Errorf("Min: %v, %t", k, is)
	}
	if e := x.Put(api.Key{}, 0); e != api.OK {
		t.Errorf("Put: %d", e)
	}
	if v, is := x.Get(api.Key{}); v != 0 || !is {
		t.Errorf("Get: %d, %t", v, is)
	}
	if k, v, is := x.Min(); k != (api.Key{}) || v != 0 || !is {
		t.Errorf("Min: %v, %d, %t", k, v, is)
	}
	if k, v, is := x.Pop(); k != (api.Key{}) || v != 0 || !is || x.Len() != 1 {
		t.Errorf("Pop: %v, %d, %t", k, v, is)
	}
	x.Put(api.Key{}, 0)
	if !x.Del(api.Key{}) || x.Del(api.Key{}) || x.Len() != 1 {
		t.Error("Del")
	}
}

// A Pop takes the zero key's row out only where it is the first one.
func TestPopOfNoneTakesNone(t *testing.T) {
	x := New[int](3)
	x.Pop()
	x.Put(api.Key{}, 1)
	x.Put(at(-1), 2)
	if k, v, is := x.Pop(); k != at(-1) || v != 2 || !is || x.Len() != 1 {
		t.Errorf("Pop: %v, %d, %t", k, v, is)
	}
}

// sizes are numbers of rows on both sides of where pieces of keys are cut.
var sizes = []int{0, 1, 2, 3, 10, longest/2 - 1, longest / 2, longest - 1, longest, longest + 1, longest + 2, 2*longest - 1, 2 * longest, 2*longest + 1, 5*longest + 3}

// All goes over all rows in order, may be stopped behind each row, and be gone over again.
func TestAll(t *testing.T) {
	for _, n := range sizes {
		x, s := filled(t, n+1, n)
		all := x.All()
		for range 2 {
			for _, stop := range []int{1, 2, n / 2, n - 1, n, n + 1} {
				var got []row[int]
				for k, v := range all {
					got = append(got, row[int]{k, v})
					if len(got) == stop {
						break
					}
				}
				want := s.rows
				if stop > 0 && stop < n {
					want = s.rows[:stop]
				}
				if !slices.Equal(got, want) {
					t.Fatalf("All of %d rows, stopped behind %d: %v", n, stop, got)
				}
			}
		}
		holds(t, x, s)
	}
}

// A reader that wants no more is told no more.
func TestAllStopped(t *testing.T) {
	x, _ := filled(t, 5, 5)
	for stop := 1; stop <= 5; stop++ {
		n := 0
		x.All()(func(k api.Key, v int) bool {
			n++
			if k != at(int64(n)) || v != 10*n {
				t.Errorf("row %d: %v, %d", n, k, v)
			}
			return n < stop
		})
		if n != stop {
			t.Errorf("stopped behind %d: told %d", stop, n)
		}
	}
}

// Two who go over a table, one within the other, do not hinder one another.
func TestAllWithinAll(t *testing.T) {
	x, s := filled(t, 4, 4)
	n := 0
	for a := range x.All() {
		for b := range x.All() {
			if slowAhead(a, b) {
				n++
			}
		}
	}
	if n != 6 {
		t.Errorf("%d pairs", n)
	}
	holds(t, x, s)
}

// It ends whatever its reader does, goes over no row twice, over none that is gone, and over each one that stays.
func TestAllChangedAmid(t *testing.T) {
	for _, n := range sizes {
		x, _ := filled(t, n+1, n)
		told := 0
		for k, v := range x.All() {
			told++
			if k != at(int64(told)) || v != 10*told || !x.Del(k) {
				t.Fatalf("%d rows, each taken out as it is told: %v, %d", n, k, v)
			}
		}
		if told != n || x.Len() != 0 {
			t.Errorf("%d rows, each taken out as it is told: %d told, %d left", n, told, x.Len())
		}
	}
	x, _ := filled(t, 9, 6)
	var got []int64
	for k := range x.All() {
		got = append(got, k.T)
		x.Del(at(k.T + 1))
	}
	if !slices.Equal(got, []int64{1, 3, 5}) || x.Len() != 3 {
		t.Errorf("the next one taken out at each row: %v", got)
	}
	told := 0
	for k := range x.All() {
		told++
		x.Clear()
		x.Put(at(k.T+100), 1)
	}
	if told != 1 || x.Len() != 1 {
		t.Errorf("cleared amid it: %d told, %d left", told, x.Len())
	}
}

// P7.3

func TestDrop(t *testing.T) {
	for _, n := range sizes {
		for name, no := range map[string]func(k api.Key, v int) bool{
			"none":                func(api.Key, int) bool { return false },
			"all":                 func(api.Key, int) bool { return true },
			"the first":           func(k api.Key, _ int) bool { return k.T == 1 },
			"the last":            func(k api.Key, _ int) bool { return k.T == int64(n) },
			"all but the first":   func(k api.Key, _ int) bool { return k.T != 1 },
			"all but the last":    func(k api.Key, _ int) bool { return k.T != int64(n) },
			"each second":         func(k api.Key, _ int) bool { return k.T%2 == 0 },
			"each other second":   func(k api.Key, _ int) bool { return k.T%2 == 1 },
			"the first half":      func(k api.Key, _ int) bool { return k.T <= int64(n/2) },
			"the middle":          func(k api.Key, _ int) bool { return k.T > int64(n/3) && k.T <= int64(2*n/3) },
			"by its value":        func(_ api.Key, v int) bool { return v%30 == 0 },
			"by its value, great": func(_ api.Key, v int) bool { return v > 5*n },
		} {
			t.Run(fmt.Sprintf("%s of %d", name, n), func(t *testing.T) {
				x, s := filled(t, n, n)
				drops(t, x, s, no)
				holds(t, x, s)
				drops(t, x, s, no)
				holds(t, x, s)
				for i := range n {
					puts(t, x, s, at(int64(n-i)), i)
				}
				holds(t, x, s)
			})
		}
	}
}

// What Drop counts, told by hand.
func TestDropCounts(t *testing.T) {
	x, _ := filled(t, 5, 5)
	if n := x.Drop(func(api.Key, int) bool { return false }); n != 0 || x.Len() != 5 || x.Room() != 0 {
		t.Errorf("none: %d; Len %d, Room %d", n, x.Len(), x.Room())
	}
	if n := x.Drop(func(k api.Key, _ int) bool { return k.T%2 == 0 }); n != 2 || x.Len() != 3 || x.Room() != 2 {
		t.Errorf("each second one: %d; Len %d, Room %d", n, x.Len(), x.Room())
	}
	if got := keysOf(rowsOf(x)); !slices.Equal(got, []api.Key{at(1), at(3), at(5)}) {
		t.Errorf("left: %v", got)
	}
	if n := x.Drop(func(k api.Key, _ int) bool { return k.T == 1 }); n != 1 || x.Len() != 2 {
		t.Errorf("the first one: %d; Len %d", n, x.Len())
	}
	if k, v, is := x.Min(); k != at(3) || v != 30 || !is {
		t.Errorf("Min: %v, %d, %t", k, v, is)
	}
	if n := x.Drop(func(k api.Key, _ int) bool { return k.T == 5 }); n != 1 || x.Len() != 1 {
		t.Errorf("the last one: %d; Len %d", n, x.Len())
	}
	if n := x.Drop(func(api.Key, int) bool { return true }); n != 1 || x.Len() != 0 || x.Room() != 5 {
		t.Errorf("all: %d; Len %d, Room %d", n, x.Len(), x.Room())
	}
	empty(t, x, 5)
}

// A function that is nil, or panics, has not told yes: its row stays, the others are asked.
func TestDropWithoutAnswer(t *testing.T) {
	x, s := filled(t, 5, 5)
	if n := x.Drop(nil); n != 0 {
		t.Errorf("Drop(nil): %d", n)
	}
	holds(t, x, s)
	asked := 0
	n := x.Drop(func(k api.Key, _ int) bool {
		asked++
		if k.T == 3 {
			panic("no")
		}
		return k.T > 1
	})
	s.drop(func(k api.Key, _ int) bool { return k.T > 1 && k.T != 3 })
	if n != 3 || asked != 5 {
		t.Errorf("Drop with a function that panics: %d, asked %d times", n, asked)
	}
	holds(t, x, s)
	if n := New[int](3).Drop(nil); n != 0 {
		t.Errorf("Drop(nil) of an empty table: %d", n)
	}
}

// It ends whatever its function does to the table, and counts what it took out itself.
func TestDropChangedAmid(t *testing.T) {
	x, _ := filled(t, 9, 5)
	if n := x.Drop(func(k api.Key, _ int) bool { return x.Del(k) }); n != 0 || x.Len() != 0 {
		t.Errorf("each row taken out by the function: %d; Len %d", n, x.Len())
	}
	x, _ = filled(t, 9, 4)
	n := x.Drop(func(k api.Key, v int) bool {
		x.Put(at(k.T+100), v)
		return true
	})
	if n != 4 || x.Len() != 4 {
		t.Errorf("a row put in at each one: %d; Len %d", n, x.Len())
	}
	n = x.Drop(func(api.Key, int) bool {
		x.Clear()
		return true
	})
	if n != 0 || x.Len() != 0 {
		t.Errorf("cleared by the function: %d; Len %d", n, x.Len())
	}
}

func TestClear(t *testing.T) {
	for _, n := range sizes {
		x, _ := filled(t, n, n)
		x.Clear()
		if x.Len() != 0 || x.Room() != n {
			t.Errorf("Clear of %d rows: Len %d, Room %d", n, x.Len(), x.Room())
		}
		empty(t, x, n)
		x.Clear()
		x.Clear()
		empty(t, x, n)
	}
}

// P7.4

// Whatever way rows came, and with others taken out between, they come out in order, each once.
func TestPopInOrder(t *testing.T) {
	for _, n := range sizes {
		for name, order := range map[string]func(l []int){
			"rising":  func([]int) {},
			"falling": func(l []int) { slices.Reverse(l) },
			"mixed":   func(l []int) { mix(l, chance(uint64(n)+3)) },
			"inwards": func(l []int) {
				slices.SortFunc(l, func(a, b int) int { return min(a, n-1-a) - min(b, n-1-b) })
			},
			"outwards": func(l []int) {
				slices.SortFunc(l, func(a, b int) int { return min(b, n-1-b) - min(a, n-1-a) })
			},
		} {
			t.Run(name+" "+strconv.Itoa(n), func(t *testing.T) {
				l := make([]int, n)
				for i := range l {
					l[i] = i
				}
				order(l)
				x := New[int](n)
				for _, i := range l {
					if e := x.Put(at(int64(i)), i); e != api.OK {
						t.Fatalf("Put: %d", e)
					}
				}
				piecesHold(t, x)
				popRising(t, x, n)
				for _, i := range l {
					x.Put(at(int64(i)), -1)
				}
				x.Drop(func(k api.Key, _ int) bool { return k.T%3 != 1 })
				for _, i := range l {
					if i%3 != 1 {
						x.Put(at(int64(i)), i)
					}
				}
				for i := range n {
					if k, v, is := x.Pop(); k != at(int64(i)) || !is || (v == -1) != (i%3 == 1) {
						t.Fatalf("Pop %d: %v, %d, %t", i, k, v, is)
					}
				}
			})
		}
	}
}

// All orders in which six keys may come.
func TestPopOfAllOrders(t *testing.T) {
	keys := []api.Key{{T: -1, From: 9}, {}, {Seq: 1}, {From: 1}, {From: 1, Seq: 7}, {T: 1}}
	var more func(x []api.Key)
	more = func(l []api.Key) {
		if len(l) < len(keys) {
			for _, k := range keys {
				if !slices.Contains(l, k) {
					more(append(slices.Clone(l), k))
				}
			}
			return
		}
		x := New[int](6)
		for i, k := range l {
			x.Put(k, i)
		}
		for _, want := range keys {
			if k, v, is := x.Pop(); k != want || !is || l[v] != want {
				t.Fatalf("put as %v: Pop: %v, %d, %t; wanted %v", l, k, v, is, want)
			}
		}
	}
	more(nil)
}

// play makes calls of no rule, in both; of puts, dels and pops as many as weight tells. It checks each answer, and all else each so many calls.
func play(t *testing.T, seed uint64, most, calls, each int, keys []api.Key, weight [3]uint64) {
	t.Helper()
	next := chance(seed)
	x, s := New[int](most), newSlow[int](most)
	for i := range calls {
		k := keys[next()%uint64(len(keys))]
		switch d := next() % 100; {
		case d < weight[0]:
			puts(t, x, s, k, int(next()%1000))
		case d < weight[0]+weight[1]:
			dels(t, x, s, k)
		case d < weight[0]+weight[1]+weight[2]:
			pops(t, x, s)
		case d == 98:
			by, rest := 2+int(next()%5), int(next()%5)
			drops(t, x, s, func(k api.Key, v int) bool { return (int(k.Seq)+v)%by == rest })
		case d == 99 && next()%8 == 0:
			x.Clear()
			s.rows = nil
		default:
			getHolds(t, x, s, k)
		}
		minHolds(t, x, s)
		if x.Len() != len(s.rows) || x.Room() != s.most-len(s.rows) {
			t.Fatalf("Len %d, Room %d; wanted %d rows of %d", x.Len(), x.Room(), len(s.rows), s.most)
		}
		if i%each == 0 {
			holds(t, x, s)
		}
	}
	for x.Len() > 0 || len(s.rows) > 0 {
		pops(t, x, s)
	}
	holds(t, x, s)
}

// near are keys that lie close to one another.
func near(n int) []api.Key {
	var l []api.Key
	for i := range n {
		l = append(l, api.Key{T: int64(i/9) - 2, From: i/3%3 - 1, Seq: uint32(i % 3)})
	}
	return l
}

func TestPlays(t *testing.T) {
	seed := uint64(70)
	for _, most := range []int{-1, 0, 1, 2, 3, 7, 20} {
		for _, n := range []int{1, 2, 5, 27} {
			for _, weight := range [][3]uint64{{60, 10, 20}, {40, 20, 20}, {30, 50, 5}, {80, 8, 8}} {
				seed++
				play(t, seed, most, 1000, 1, near(n), weight)
			}
		}
	}
	play(t, 1, 40, 5000, 1, edges(), [3]uint64{60, 10, 20})
	play(t, 2, math.MaxInt, 5000, 7, edges(), [3]uint64{60, 30, 5})
}

// Plays of many keys, so that pieces of them are cut and vanish.
func TestLongPlays(t *testing.T) {
	many := near(8 * longest)
	for i, weight := range [][3]uint64{{80, 10, 5}, {50, 40, 5}, {45, 10, 40}, {90, 5, 2}} {
		play(t, uint64(i)+11, 6*longest, 8000, 40, many, weight)
	}
	play(t, 21, 2*longest+1, 8000, 40, many, [3]uint64{90, 5, 2})
}

// As a node does it: what comes is a little ahead or behind of what came last, and what is first goes.
func TestPlayOfTimes(t *testing.T) {
	next := chance(31)
	x, s := New[int](3*longest), newSlow[int](3*longest)
	for i := range 20000 {
		puts(t, x, s, api.Key{T: int64(i) + int64(next()%500), From: int(next() % 64), Seq: uint32(next() % 4)}, i)
		if i%1000 > 400 {
			pops(t, x, s)
		}
		if i%997 == 0 {
			end := int64(i - 100)
			drops(t, x, s, func(k api.Key, _ int) bool { return k.T < end })
			holds(t, x, s)
		}
	}
	holds(t, x, s)
}

// Of nil

func ofNil[V comparable](t *testing.T, v V) {
	t.Helper()
	var x *Table[V]
	var zero V
	for range 2 {
		for _, k := range []api.Key{{}, {T: 5, From: 1, Seq: 9}, {T: -1, From: 64}} {
			if e := x.Put(k, v); e != api.ErrArg {
				t.Errorf("Put(%v): %d", k, e)
			}
			if v, is := x.Get(k); v != zero || is {
				t.Errorf("Get(%v): %v, %t", k, v, is)
			}
			if x.Del(k) {
				t.Errorf("Del(%v): true", k)
			}
		}
		if k, v, is := x.Min(); k != (api.Key{}) || v != zero || is {
			t.Errorf("Min: %v, %v, %t", k, v, is)
		}
		if k, v, is := x.Pop(); k != (api.Key{}) || v != zero || is {
			t.Errorf("Pop: %v, %v, %t", k, v, is)
		}
		if x.Len() != 0 || x.Room() != 0 {
			t.Errorf("Len %d, Room %d", x.Len(), x.Room())
		}
		for k, v := range x.All() {
			t.Errorf("All: %v, %v", k, v)
		}
		if n := x.Drop(func(api.Key, V) bool { t.Error("asked"); return true }); n != 0 {
			t.Errorf("Drop: %d", n)
		}
		if n := x.Drop(nil); n != 0 {
			t.Errorf("Drop(nil): %d", n)
		}
		x.Clear()
	}
}

func TestNil(t *testing.T) {
	ofNil(t, 5)
	ofNil(t, "five")
	ofNil(t, api.Key{T: 5})
	ofNil[any](t, 5)
}

// A table that New did not make has no room, and panics at no call.
func TestNotMade(t *testing.T) {
	var x Table[int]
	empty(t, &x, 0)
	x.Clear()
	if e := x.Put(at(1), 1); e != api.ErrFull {
		t.Errorf("Put: %d", e)
	}
}
