package data

import (
	"bytes"
	"encoding/hex"
	"fmt"
	"math"
	"slices"
	"testing"

	"angelus/api"
	"angelus/buf"
	"angelus/head"
)

// chance answers numbers of no rule, the same ones each time.
func chance(x uint64) func() uint64 {
	return func() uint64 {
		x ^= x << 13
		x ^= x >> 7
		x ^= x << 17
		return x
	}
}

// some are n bytes of no rule; none of them is 0, so that one that is missing is seen.
func some(n int) []byte {
	next := chance(uint64(n) + 9)
	b := make([]byte, n)
	for i := range b {
		b[i] = byte(next()>>20) | 1
	}
	return b
}

// none and empty are the two bodies without a byte.
var none, empty []byte = nil, []byte{}

// lengths are those of bodies that may be, with the edges of one and two bytes of a length.
var lengths = []int{0, 1, 2, 7, 8, 9, 126, 127, 128, 129, 255, 256, 257, 1000, 1022, 1023, 1024}

// longer are those of bodies that may not be; of all from 1<<14 on the length has three bytes.
var longer = []int{1025, 1026, 2048, 4096, 1<<14 - 1, 1 << 14, 1 << 16, 1<<16 + 1024, 1 << 20}

var goodKeys = []api.Key{
	{}, {T: 5, From: 1, Seq: 2}, {T: 1}, {From: 1}, {Seq: 1}, {From: 63}, {Seq: math.MaxUint32},
	{T: 1 << 32, From: 31, Seq: 1 << 31}, {T: api.MaxTime - 1}, {T: api.MaxTime, From: 63, Seq: math.MaxUint32},
}

var badKeys = []api.Key{
	{T: -1}, {T: -5, From: 1, Seq: 2}, {T: math.MinInt64}, {T: api.MaxTime + 1}, {T: 1 << 61}, {T: math.MaxInt64, From: 3},
	{From: -1}, {From: 64}, {From: 65, T: 9}, {From: 256}, {From: 1<<32 + 1}, {From: math.MinInt}, {From: math.MaxInt},
	{T: -1, From: 64}, {T: api.MaxTime + 1, From: -1, Seq: math.MaxUint32},
}

// text is a packet's each part: it asks nothing of the package, nor of those below it.
func text(p api.Packet) string {
	return fmt.Sprintf("kind %d key %d.%d.%d hops %d no %d to %d index %d total %d stamp %d value %d body %x",
		p.Kind, p.Key.T, p.Key.From, p.Key.Seq, p.Hops, p.No, p.To, p.Index, p.Total, p.Stamp, p.Value, p.Body)
}

// brief is a text that can be read in a message.
func brief(s string) string {
	if len(s) > 400 {
		return s[:400] + ".."
	}
	return s
}

func samePacket(t *testing.T, name string, got, want api.Packet) {
	t.Helper()
	if g, w := text(got), text(want); g != w {
		t.Errorf("%s: %s, not %s", name, brief(g), brief(w))
	}
}

// entryText is an entry's each part.
func entryText(e api.Entry) string {
	return fmt.Sprintf("at %d key %d.%d.%d body %x", e.At, e.Key.T, e.Key.From, e.Key.Seq, e.Body)
}

// full is a packet in which nothing is 0.
func full(kind int) api.Packet {
	return api.Packet{
		Kind: kind, Hops: 10, Key: api.Key{T: 300, From: 2, Seq: 7},
		No: 11, To: 12, Index: 13, Total: 14, Stamp: 15, Value: 16, Body: []byte{17, 18, 19},
	}
}

// update is a packet of an update, written out.
func update(k api.Key, hops int, body []byte) api.Packet {
	return api.Packet{Kind: 4, Hops: hops, Key: k, Body: body}
}

// slowGood is P10.1's Good, word by word, with the parts of 9's and 6's that it asks for.
func slowGood(p api.Packet) bool {
	switch {
	case p.Kind != 4:
		return false
	case p.Hops < 1 || p.Hops > 63:
		return false
	case p.Key.T < 0 || p.Key.T > 1<<60:
		return false
	case p.Key.From < 0 || p.Key.From > 63:
		return false
	case len(p.Body) > 1024:
		return false
	}
	return p.No == 0 && p.To == 0 && p.Index == 0 && p.Total == 0 && p.Stamp == 0 && p.Value == 0
}

// sevens is x in sevens of bits: in each byte but the last one 128 more.
func sevens(x int) []byte {
	var b []byte
	for x > 127 {
		b = append(b, byte(x%128)+128)
		x /= 128
	}
	return append(b, byte(x))
}

// slowPut is what stands behind the head of a packet with that body.
func slowPut(body []byte) []byte { return slices.Concat(sevens(len(body)), body) }

// put is what Put writes, with room for any packet of these tests.
func put(p api.Packet) []byte {
	w := buf.New(1 << 21)
	Put(w, p)
	b, e := w.Done()
	if e != api.OK {
		panic(e)
	}
	return b
}

// The chapter's example.
func TestExample(t *testing.T) {
	p := New(api.Key{T: 5, From: 1, Seq: 2}, []byte("hi"))
	samePacket(t, "New", p, update(api.Key{T: 5, From: 1, Seq: 2}, 1, []byte("hi")))
	if got := fmt.Sprintf("% x", put(p)); got != "02 68 69" {
		t.Errorf("written %s", got)
	}
	e, err := Entry(p, 10)
	if got := entryText(e); err != api.OK || got != "at 15 key 5.1.2 body 6869" {
		t.Errorf("Entry: %s, error %d", got, err)
	}
}

// P10.1

// New asks nothing of a key nor of a body.
func TestNew(t *testing.T) {
	bodies := [][]byte{none, empty, {0}, some(1), {0, 0, 0}}
	for _, n := range append(slices.Clone(lengths), longer...) {
		bodies = append(bodies, some(n))
	}
	for _, k := range append(slices.Clone(goodKeys), badKeys...) {
		for _, body := range bodies {
			got := New(k, body)
			if got.Kind != api.KData || got.Hops != 1 || got.Key != k || !bytes.Equal(got.Body, body) {
				t.Errorf("New(%v, %d bytes): %s", k, len(body), brief(text(got)))
			}
			if got.No != 0 || got.To != 0 || got.Index != 0 || got.Total != 0 || got.Stamp != 0 || got.Value != 0 {
				t.Errorf("New(%v, %d bytes) has more than it should: %s", k, len(body), brief(text(got)))
			}
		}
	}
}

// apart tells what is wrong, if the one body is seen in the other one, or in the memory behind it. Both are changed.
func apart(in, out []byte) string {
	was := bytes.Clone(out)
	all := in[:cap(in)]
	for i := range all {
		all[i] ^= 0xFF
	}
	if !bytes.Equal(out, was) {
		return "what came in later is seen in what was told"
	}
	behind := bytes.Clone(all)
	for i := range out {
		out[i] = ^all[min(i, len(all)-1)]
	}
	if !bytes.Equal(all, behind) {
		return "what was told is seen in what came in"
	}
	for i := range out[:cap(out)] {
		out[:cap(out)][i] = 0xAB
	}
	_ = append(out, 0xCD, 0xCD, 0xCD)
	if !bytes.Equal(all, behind) {
		return "what is put behind what was told is seen in what came in"
	}
	return ""
}

// roomy is a body with room behind it, where there are bytes of its own.
func roomy(n int) []byte { return some(n + 50)[:n] }

func TestNewHasABodyOfItsOwn(t *testing.T) {
	for _, n := range append(slices.Clone(lengths), longer...) {
		for _, in := range [][]byte{some(n), roomy(n)} {
			p := New(api.Key{T: 1}, in)
			if !bytes.Equal(p.Body, in) {
				t.Fatalf("%d bytes: another body", n)
			}
			if n == 0 && cap(in) == 0 {
				continue
			}
			if wrong := apart(in, p.Body); wrong != "" {
				t.Errorf("%d bytes of %d: %s", n, cap(in), wrong)
			}
		}
	}
}

// Two packets of one body have nothing to do with each other.
func TestNewTwice(t *testing.T) {
	in := roomy(20)
	p, q := New(api.Key{T: 1}, in), New(api.Key{T: 2}, in)
	if wrong := apart(p.Body, q.Body); wrong != "" {
		t.Error(wrong)
	}
}

func TestNewLeavesTheBody(t *testing.T) {
	for _, n := range lengths {
		in := roomy(n)
		all := in[:cap(in)]
		was := bytes.Clone(all)
		New(api.Key{T: 1}, in)
		if !bytes.Equal(all, was) {
			t.Errorf("%d bytes: New changed what came in", n)
		}
	}
}

func TestNewIsGoodByItsKeyAndItsBody(t *testing.T) {
	for _, n := range append(slices.Clone(lengths), longer...) {
		for _, k := range goodKeys {
			if got := Good(New(k, some(n))); got != (n <= 1024) {
				t.Errorf("Good of New(%v, %d bytes) is %v", k, n, got)
			}
		}
		for _, k := range badKeys {
			if Good(New(k, some(n))) {
				t.Errorf("New(%v, %d bytes) is good", k, n)
			}
		}
	}
}

func TestGoodOfKinds(t *testing.T) {
	kinds := []int{math.MinInt, -1<<32 + 4, -256 + 4, -4, 1<<16 + 4, 1<<32 + 4, math.MaxInt}
	for kind := -20; kind <= 1100; kind++ {
		kinds = append(kinds, kind)
	}
	for _, kind := range kinds {
		p := update(api.Key{T: 5, From: 1, Seq: 2}, 1, []byte("hi"))
		p.Kind = kind
		if got := Good(p); got != (kind == api.KData) {
			t.Errorf("Good of kind %d is %v", kind, got)
		}
		// A head that is good of a probe and an echo makes none of them an update.
		if Good(api.Packet{Kind: kind}) {
			t.Errorf("kind %d with nothing more is good", kind)
		}
	}
	if Good(api.Packet{}) {
		t.Error("the zero packet is good")
	}
}

func TestGoodOfHops(t *testing.T) {
	for _, r := range []struct {
		hops int
		want bool
	}{
		{0, false}, {1, true}, {2, true}, {31, true}, {62, true}, {63, true}, {64, false}, {65, false}, {-1, false}, {-63, false},
		{127, false}, {128, false}, {255, false}, {256, false}, {257, false}, {1 << 32, false}, {1<<32 + 1, false},
		{math.MinInt, false}, {math.MinInt + 1, false}, {math.MaxInt, false},
	} {
		for _, k := range goodKeys {
			if got := Good(update(k, r.hops, []byte("hi"))); got != r.want {
				t.Errorf("Good of %d hops, key %v is %v", r.hops, k, got)
			}
		}
		for _, k := range badKeys {
			if Good(update(k, r.hops, []byte("hi"))) {
				t.Errorf("%d hops, key %v is good", r.hops, k)
			}
		}
	}
}

func TestGoodOfBodies(t *testing.T) {
	for hops := 1; hops <= 63; hops++ {
		for _, body := range [][]byte{none, empty, {0}, make([]byte, 1024)} {
			if !Good(update(api.Key{T: 5}, hops, body)) {
				t.Errorf("%d hops, a body of %d zeros is not good", hops, len(body))
			}
		}
	}
	for n := range 1200 {
		if got := Good(update(api.Key{T: 5}, 1, some(n))); got != (n <= 1024) {
			t.Errorf("Good of %d bytes is %v", n, got)
		}
	}
	for _, n := range longer {
		if Good(update(api.Key{T: 5}, 1, some(n))) {
			t.Errorf("%d bytes are good", n)
		}
	}
	// What lies behind a body is none of it.
	if !Good(update(api.Key{T: 5}, 1, some(5000)[:1024])) {
		t.Error("1024 bytes with more room are not good")
	}
}

// others sets one of the parts that an update has not, each with its name.
var others = []struct {
	name string
	set  func(p *api.Packet, x int64)
}{
	{"No", func(p *api.Packet, x int64) { p.No = x }},
	{"To", func(p *api.Packet, x int64) { p.To = int(x) }},
	{"Index", func(p *api.Packet, x int64) { p.Index = int(x) }},
	{"Total", func(p *api.Packet, x int64) { p.Total = int(x) }},
	{"Stamp", func(p *api.Packet, x int64) { p.Stamp = x }},
	{"Value", func(p *api.Packet, x int64) { p.Value = x }},
}

func TestGoodOfEachOtherPart(t *testing.T) {
	for _, o := range others {
		for _, body := range [][]byte{none, empty, []byte("hi"), some(1024)} {
			for _, x := range []int64{1, -1, 2, 63, 64, 255, 256, 1 << 16, 1 << 31, 1 << 32, 1 << 40, 1 << 60, math.MinInt64, math.MaxInt64} {
				p := update(api.Key{T: 5, From: 1, Seq: 2}, 1, body)
				o.set(&p, x)
				if Good(p) {
					t.Errorf("with %s %d it is good", o.name, x)
				}
				o.set(&p, 0)
				if !Good(p) {
					t.Errorf("with %s 0 again it is not good", o.name)
				}
			}
		}
	}
	// Two that would make one another out, were they added up.
	for i, o := range others {
		for _, u := range others[i+1:] {
			p := update(api.Key{T: 5, From: 1, Seq: 2}, 1, []byte("hi"))
			o.set(&p, 1)
			u.set(&p, -1)
			if Good(p) {
				t.Errorf("with %s 1 and %s -1 it is good", o.name, u.name)
			}
			u.set(&p, 1)
			if Good(p) {
				t.Errorf("with %s and %s 1 it is good", o.name, u.name)
			}
		}
	}
}

// Packets of which each part is at its edge or near it, against the promise word by word.
func TestGoodOfAll(t *testing.T) {
	keys := append(slices.Clone(goodKeys), badKeys...)
	for _, kind := range []int{-1, 0, 1, 2, 3, 4, 5, 6, 7, 256 + 4, 1<<32 + 4} {
		for _, hops := range []int{-1, 0, 1, 2, 62, 63, 64, 256 + 1} {
			for _, k := range keys {
				for _, n := range []int{0, 1, 1023, 1024, 1025} {
					p := api.Packet{Kind: kind, Hops: hops, Key: k, Body: some(n)}
					for i := -1; i < len(others); i++ {
						q := p
						if i >= 0 {
							others[i].set(&q, 1)
						}
						if got := Good(q); got != slowGood(q) {
							t.Fatalf("Good of %s is %v", brief(text(q)), got)
						}
					}
				}
			}
		}
	}
}

func TestGoodLeavesThePacket(t *testing.T) {
	body := roomy(20)
	p, was := update(api.Key{T: 5}, 1, body), bytes.Clone(body[:cap(body)])
	Good(p)
	if !bytes.Equal(body[:cap(body)], was) {
		t.Error("Good changed the body")
	}
}

// P10.2

func TestPutBytes(t *testing.T) {
	for _, r := range []struct {
		n    int
		want string // the length alone
	}{
		{0, "00"}, {1, "01"}, {2, "02"}, {64, "40"}, {126, "7e"}, {127, "7f"}, {128, "8001"}, {129, "8101"}, {255, "ff01"}, {256, "8002"},
		{1000, "e807"}, {1023, "ff07"}, {1024, "8008"}, {1025, "8108"}, {2048, "8010"}, {1<<14 - 1, "ff7f"}, {1 << 14, "808001"}, {1 << 20, "808040"},
	} {
		body := some(r.n)
		if got := hex.EncodeToString(put(update(api.Key{T: 5}, 1, body))); got != r.want+hex.EncodeToString(body) {
			t.Errorf("%d bytes: %s", r.n, brief(got))
		}
	}
	for _, body := range [][]byte{none, empty} {
		if got := put(update(api.Key{T: 5}, 1, body)); !bytes.Equal(got, []byte{0}) {
			t.Errorf("a body without a byte: % x", got)
		}
	}
	if got := put(update(api.Key{T: 5}, 1, []byte{0, 0})); !bytes.Equal(got, []byte{2, 0, 0}) {
		t.Errorf("a body of noughts: % x", got)
	}
}

// Put writes the body, of whatever packet it is.
func TestPutAsksOfTheBodyAlone(t *testing.T) {
	for kind := -1; kind <= 8; kind++ {
		for _, n := range []int{0, 1, 127, 128, 1024, 1025} {
			p := full(kind)
			p.Body = some(n)
			if got := put(p); !bytes.Equal(got, slowPut(p.Body)) {
				t.Errorf("kind %d, %d bytes: %s", kind, n, brief(hex.EncodeToString(got)))
			}
			p.Key, p.Hops = api.Key{T: -1, From: 64}, 64
			if got := put(p); !bytes.Equal(got, slowPut(p.Body)) {
				t.Errorf("kind %d, %d bytes, a head that is not good: %s", kind, n, brief(hex.EncodeToString(got)))
			}
		}
	}
}

func TestPutStandsBehindWhatWasWritten(t *testing.T) {
	w := buf.New(100)
	w.Byte(9)
	p := New(api.Key{T: 300, From: 2, Seq: 7}, []byte("hi"))
	head.Put(w, p)
	Put(w, p)
	Put(w, New(api.Key{}, nil))
	w.Byte(8)
	if b, e := w.Done(); e != api.OK || fmt.Sprintf("% x", b) != "09 04 01 ac 02 02 07 00 00 00 02 68 69 00 08" {
		t.Errorf("% x, error %d", b, e)
	}
}

func TestPutWhereNothingCanBeWritten(t *testing.T) {
	for _, n := range []int{0, 1, 127, 128, 1024, 1025} {
		p := update(api.Key{T: 5}, 1, some(n))
		Put(nil, p)
		w := new(buf.Writer)
		Put(w, p)
		if b, e := w.Done(); e != api.ErrLong || len(b) != 0 {
			t.Errorf("%d bytes, a zero writer: %d bytes, error %d", n, len(b), e)
		}
		whole := len(slowPut(p.Body))
		for most := -1; most <= whole+1; most++ {
			w := buf.New(most)
			Put(w, p)
			b, e := w.Done()
			if most < whole && (e != api.ErrLong || len(b) != 0) {
				t.Errorf("%d bytes in %d: %d bytes, error %d", n, most, len(b), e)
			}
			if most >= whole && (e != api.OK || !bytes.Equal(b, slowPut(p.Body))) {
				t.Errorf("%d bytes in %d: %d bytes, error %d", n, most, len(b), e)
			}
		}
		w = buf.New(2000)
		w.Fixed(0, 9)
		Put(w, p)
		if b, e := w.Done(); e != api.ErrArg || len(b) != 0 {
			t.Errorf("%d bytes behind an error: %d bytes, error %d", n, len(b), e)
		}
	}
	Put(nil, api.Packet{})
}

func TestPutLeavesTheBody(t *testing.T) {
	body := roomy(20)
	all := body[:cap(body)]
	was := bytes.Clone(all)
	w := buf.New(100)
	Put(w, update(api.Key{T: 5}, 1, body))
	if !bytes.Equal(all, was) {
		t.Error("Put changed the body")
	}
	for i := range all {
		all[i] ^= 0xFF
	}
	if b, e := w.Done(); e != api.OK || !bytes.Equal(b, slowPut(was[:20])) {
		t.Error("what came in later is seen in what was written")
	}
}

// wants holds an answer of Get, and where the reader stands behind it, against what it should be.
func wants(t *testing.T, name string, r *buf.Reader, p, want api.Packet, e api.Errno, left int) {
	t.Helper()
	got, ge := Get(r, p)
	if g, w := text(got), text(want); g != w || ge != e || r.Left() != left {
		t.Errorf("%s: %s, error %d, %d left, not %s, error %d, %d left", name, brief(g), ge, r.Left(), brief(w), e, left)
	}
}

// Get tells the packet that it was given, whatever it is, with the body and with nothing else changed.
func TestGetOfWhatPutWrote(t *testing.T) {
	given := []api.Packet{{}, New(api.Key{T: 5}, nil), New(api.Key{T: -1, From: 64}, some(2000))}
	for kind := -1; kind <= 8; kind++ {
		given = append(given, full(kind))
	}
	for _, n := range lengths {
		b := put(update(api.Key{T: 5}, 1, some(n)))
		for _, p := range given {
			want := p
			want.Body = some(n)
			name := fmt.Sprintf("%d bytes, kind %d", n, p.Kind)
			r := buf.Read(slices.Concat(b, []byte{0xAA, 2, 3}))
			wants(t, name, r, p, want, api.OK, 3)
			if r.Byte() != 0xAA || r.Err() != api.OK {
				t.Errorf("%s: the reader doesn't stand behind it", name)
			}
			r = buf.Read(b)
			wants(t, name+", nothing behind", r, p, want, api.OK, 0)
			if r.End() != api.OK {
				t.Errorf("%s: not all is read", name)
			}
		}
	}
}

func TestGetOneBehindAnother(t *testing.T) {
	var b []byte
	for _, n := range lengths {
		b = append(b, slowPut(some(n))...)
	}
	r, left := buf.Read(b), len(b)
	for _, n := range lengths {
		left -= len(slowPut(some(n)))
		wants(t, fmt.Sprint(n, " bytes"), r, update(api.Key{T: 5}, 1, []byte("old")), update(api.Key{T: 5}, 1, some(n)), api.OK, left)
	}
	wants(t, "behind all", r, full(4), api.Packet{}, api.ErrShort, 0)
}

// A body that is longer is ErrLong, be it there or not.
func TestGetOfLongerBodies(t *testing.T) {
	longest := full(4)
	longest.Body = some(1024)
	wants(t, "1024 bytes", buf.Read(slowPut(some(1024))), full(4), longest, api.OK, 0)
	for _, n := range longer {
		whole := slowPut(some(n))
		first := len(sevens(n))
		wants(t, fmt.Sprint(n, " bytes"), buf.Read(whole), full(4), api.Packet{}, api.ErrLong, 0)
		wants(t, fmt.Sprint(n, " bytes and more"), buf.Read(append(bytes.Clone(whole), 1, 2, 3)), full(4), api.Packet{}, api.ErrLong, 0)
		wants(t, fmt.Sprint(n, " bytes, of which there are none"), buf.Read(whole[:first]), full(4), api.Packet{}, api.ErrLong, 0)
		wants(t, fmt.Sprint(n, " bytes, of which there are 1024"), buf.Read(whole[:first+1024]), full(4), api.Packet{}, api.ErrLong, 0)
		wants(t, fmt.Sprint(n, " bytes, the length cut"), buf.Read(whole[:first-1]), full(4), api.Packet{}, api.ErrShort, 0)
	}
	// Lengths of which but the lower bits could be one, and the greatest ones.
	for _, s := range []string{"8080808010", "8280808010", "ffffffff0f", "82808080808080808001", "ffffffffffffffff7f", "80808080808080808001", "ffffffffffffffffff01"} {
		wants(t, s, buf.Read(append(unhex(s), some(2000)...)), full(4), api.Packet{}, api.ErrLong, 0)
	}
}

func unhex(s string) []byte {
	b, err := hex.DecodeString(s)
	if err != nil {
		panic(err)
	}
	return b
}

func TestGetOfBytesCutShort(t *testing.T) {
	wants(t, "none", buf.Read(nil), full(4), api.Packet{}, api.ErrShort, 0)
	wants(t, "empty", buf.Read([]byte{}), full(4), api.Packet{}, api.ErrShort, 0)
	for _, n := range lengths {
		whole := slowPut(some(n))
		for i := range whole {
			wants(t, fmt.Sprintf("%d of %d", i, len(whole)), buf.Read(whole[:i]), full(4), api.Packet{}, api.ErrShort, 0)
		}
	}
}

// A length has one form alone.
func TestGetOfWrongForms(t *testing.T) {
	for _, r := range []struct {
		b string
		e api.Errno
	}{
		{"8000", api.ErrForm},
		{"82006869", api.ErrForm},
		{"8280006869", api.ErrForm},
		{"ffffffffffffffffff02", api.ErrForm},
		{"80808080808080808002", api.ErrForm},
		{"ffffffffffffffffffff01", api.ErrForm},
		{"8080808080808080808000", api.ErrForm},
		{"80808080808080808080", api.ErrForm},
		{"80", api.ErrShort},
		{"ff", api.ErrShort},
		{"8080", api.ErrShort},
		{"ffffffffffffffffff", api.ErrShort},
	} {
		wants(t, r.b, buf.Read(unhex(r.b)), full(4), api.Packet{}, r.e, 0)
		if r.e == api.ErrForm {
			wants(t, r.b+" and more", buf.Read(append(unhex(r.b), some(2000)...)), full(4), api.Packet{}, r.e, 0)
		}
	}
}

// What was wrong in reading ahead of it is told, and nothing is read.
func TestGetOfReadersThatFailed(t *testing.T) {
	for _, p := range []api.Packet{{}, New(api.Key{T: 5}, []byte("hi")), full(4)} {
		got, e := Get(nil, p)
		samePacket(t, "of nil", got, api.Packet{})
		if e != api.ErrArg {
			t.Errorf("of nil: error %d", e)
		}
		wants(t, "of a zero reader", new(buf.Reader), p, api.Packet{}, api.ErrShort, 0)
		for _, r := range []struct {
			name string
			fail func(*buf.Reader)
			e    api.Errno
		}{
			{"behind ErrArg", func(r *buf.Reader) { r.Fixed(9) }, api.ErrArg},
			{"behind ErrShort", func(r *buf.Reader) { r.Fixed(8) }, api.ErrShort},
			{"behind ErrLong", func(r *buf.Reader) { r.Bytes(1) }, api.ErrLong},
			{"behind ErrForm", func(r *buf.Reader) { r.Fixed(3); r.Num() }, api.ErrForm},
		} {
			rd := buf.Read(unhex("0268698000"))
			r.fail(rd)
			wants(t, r.name, rd, p, api.Packet{}, r.e, 0)
			wants(t, r.name+", once more", rd, p, api.Packet{}, r.e, 0)
			if rd.Err() != r.e {
				t.Errorf("%s: then the reader tells %d", r.name, rd.Err())
			}
		}
	}
}

// What Get finds wrong stays wrong with the reader.
func TestGetLeavesTheReaderFailed(t *testing.T) {
	for _, r := range []struct {
		b []byte
		e api.Errno
	}{
		{[]byte{3, 1, 2}, api.ErrShort},
		{[]byte{0x80, 0, 1, 2}, api.ErrForm},
		{slowPut(some(1025)), api.ErrLong},
	} {
		rd := buf.Read(r.b)
		wants(t, "first", rd, full(4), api.Packet{}, r.e, 0)
		wants(t, "second", rd, full(4), api.Packet{}, r.e, 0)
		if rd.Err() != r.e || rd.End() != r.e || rd.Byte() != 0 {
			t.Errorf("the reader tells %d, not %d", rd.Err(), r.e)
		}
	}
}

func TestGetHasABodyOfItsOwn(t *testing.T) {
	for _, n := range lengths[1:] {
		b := append(slowPut(some(n)), slowPut(some(n))...)
		given := full(4)
		given.Body = roomy(n)
		was := bytes.Clone(given.Body[:cap(given.Body)])
		r := buf.Read(b)
		p, e := Get(r, given)
		if e != api.OK || !bytes.Equal(p.Body, some(n)) || !bytes.Equal(given.Body[:cap(given.Body)], was) {
			t.Fatalf("%d bytes: error %d, or another body, or the given one changed", n, e)
		}
		if wrong := apart(b, p.Body); wrong != "" {
			t.Errorf("%d bytes, and the bytes: %s", n, wrong)
		}
		p, e = Get(r, given)
		if e != api.OK || !bytes.Equal(p.Body, some(n)) {
			t.Errorf("%d bytes: what was told is seen in what is read behind it", n)
		}
		if wrong := apart(given.Body, p.Body); wrong != "" {
			t.Errorf("%d bytes, and the given body: %s", n, wrong)
		}
	}
}

func TestGetLeavesTheBytes(t *testing.T) {
	for _, b := range [][]byte{slowPut(some(20)), slowPut(some(1025)), {3, 1}, {0x80, 0}} {
		b = append(b, some(30)...)
		was := bytes.Clone(b)
		Get(buf.Read(b), full(4))
		if !bytes.Equal(b, was) {
			t.Errorf("% x", b)
		}
	}
}

// getSlow is P10.2's Get by the bytes, word by word, of a length of at most nine bytes: it answers how many bytes it takes, too.
func getSlow(b []byte) ([]byte, int, api.Errno) {
	n, by := 0, 1
	for i, x := range b {
		if i == 9 {
			panic("a longer one is not drawn")
		}
		n += by * int(x%128)
		by *= 128
		if x >= 128 {
			continue
		}
		switch {
		case x == 0 && i > 0:
			return nil, 0, api.ErrForm
		case n > 1024:
			return nil, 0, api.ErrLong
		case n > len(b)-i-1:
			return nil, 0, api.ErrShort
		}
		return b[i+1 : i+1+n], i + 1 + n, api.OK
	}
	return nil, 0, api.ErrShort
}

func TestGetOfBytesByChance(t *testing.T) {
	next := chance(77)
	told := map[api.Errno]int{}
	for range 200000 {
		b := make([]byte, next()%20)
		if next()%16 == 0 {
			b = make([]byte, 900+next()%300)
		}
		for i := range b {
			b[i] = byte(next() >> 24)
			if i < 3 && next()%2 == 0 {
				b[i] = b[i]&128 + b[i]%12
			}
			if i >= 3 && i < 9 {
				b[i] %= 128
			}
		}
		body, taken, e := getSlow(b)
		told[e]++
		want, left := api.Packet{}, 0
		if e == api.OK {
			want, left = full(4), len(b)-taken
			want.Body = body
		}
		r := buf.Read(b)
		got, ge := Get(r, full(4))
		if text(got) != text(want) || ge != e || r.Left() != left {
			t.Fatalf("%x: %s, error %d, %d left, not %s, error %d, %d left", b, text(got), ge, r.Left(), text(want), e, left)
		}
	}
	for _, e := range []api.Errno{api.OK, api.ErrShort, api.ErrForm, api.ErrLong} {
		if told[e] < 100 {
			t.Errorf("error %d came but %d times", e, told[e])
		}
	}
}

// P10.3

// slowEntry is P10.3, word by word. Its sum is one of numbers without a sign, which can't go round here.
func slowEntry(p api.Packet, delta int64) (api.Entry, api.Errno) {
	if !slowGood(p) {
		return api.Entry{}, api.ErrArg
	}
	if delta < 0 {
		return api.Entry{}, api.ErrArg
	}
	at := uint64(p.Key.T) + uint64(delta)
	if at > 1<<60 {
		return api.Entry{}, api.ErrOver
	}
	return api.Entry{At: int64(at), Key: p.Key, Body: p.Body}, api.OK
}

// delivers holds an answer of Entry against what it should be.
func delivers(t *testing.T, p api.Packet, delta int64, want api.Entry, e api.Errno) {
	t.Helper()
	got, ge := Entry(p, delta)
	if g, w := entryText(got), entryText(want); g != w || ge != e {
		t.Errorf("Entry of %s, delta %d: %s, error %d, not %s, error %d", brief(text(p)), delta, brief(g), ge, brief(w), e)
	}
}

func TestEntryAt(t *testing.T) {
	const most = api.MaxTime
	for _, r := range []struct {
		t, delta, at int64
		e            api.Errno
	}{
		{0, 0, 0, api.OK},
		{5, 10, 15, api.OK},
		{5, 0, 5, api.OK},
		{0, 8712, 8712, api.OK},
		{most, 0, most, api.OK},
		{most - 1, 1, most, api.OK},
		{most - 10, 10, most, api.OK},
		{10, most - 10, most, api.OK},
		{1, most - 1, most, api.OK},
		{0, most, most, api.OK},
		{0, most - 1, most - 1, api.OK},
		{most / 2, most / 2, most, api.OK},
		{most, 1, 0, api.ErrOver},
		{most - 1, 2, 0, api.ErrOver},
		{most - 10, 11, 0, api.ErrOver},
		{10, most - 9, 0, api.ErrOver},
		{1, most, 0, api.ErrOver},
		{0, most + 1, 0, api.ErrOver},
		{most, most, 0, api.ErrOver},
		{0, 1 << 62, 0, api.ErrOver},
		{0, math.MaxInt64, 0, api.ErrOver},
		{1, math.MaxInt64, 0, api.ErrOver},
		{1, math.MaxInt64 - 1, 0, api.ErrOver},
		{most, math.MaxInt64, 0, api.ErrOver},
		{most, math.MaxInt64 - most, 0, api.ErrOver},
		{most, math.MaxInt64 - most + 1, 0, api.ErrOver},
		{most, -1, 0, api.ErrArg},
		{5, -1, 0, api.ErrArg},
		{5, -5, 0, api.ErrArg},
		{5, -6, 0, api.ErrArg},
		{0, -1, 0, api.ErrArg},
		{0, math.MinInt64, 0, api.ErrArg},
		{most, -most, 0, api.ErrArg},
		{most, math.MinInt64, 0, api.ErrArg},
		{most, math.MinInt64 + 1, 0, api.ErrArg},
	} {
		for _, hops := range []int{1, 2, 63} {
			for _, body := range [][]byte{none, empty, []byte("hi"), some(1024)} {
				p := update(api.Key{T: r.t, From: 63, Seq: math.MaxUint32}, hops, body)
				want := api.Entry{}
				if r.e == api.OK {
					want = api.Entry{At: r.at, Key: p.Key, Body: body}
				}
				delivers(t, p, r.delta, want, r.e)
			}
		}
	}
}

// What is wrong with a packet, or a delta below 0, is told ahead of what would be too late.
func TestEntryOfWhatIsNotGood(t *testing.T) {
	spoil := []struct {
		name string
		set  func(p *api.Packet)
	}{
		{"kind 0", func(p *api.Packet) { p.Kind = 0 }},
		{"kind 3", func(p *api.Packet) { p.Kind = 3 }},
		{"kind 5", func(p *api.Packet) { p.Kind = 5 }},
		{"kind 260", func(p *api.Packet) { p.Kind = 260 }},
		{"hops 0", func(p *api.Packet) { p.Hops = 0 }},
		{"hops 64", func(p *api.Packet) { p.Hops = 64 }},
		{"hops -1", func(p *api.Packet) { p.Hops = -1 }},
		{"T -1", func(p *api.Packet) { p.Key.T = -1 }},
		{"T at its lower end", func(p *api.Packet) { p.Key.T = math.MinInt64 }},
		{"T above MaxTime", func(p *api.Packet) { p.Key.T = api.MaxTime + 1 }},
		{"T at its upper end", func(p *api.Packet) { p.Key.T = math.MaxInt64 }},
		{"From -1", func(p *api.Packet) { p.Key.From = -1 }},
		{"From 64", func(p *api.Packet) { p.Key.From = 64 }},
		{"1025 bytes", func(p *api.Packet) { p.Body = some(1025) }},
		{"all zero", func(p *api.Packet) { *p = api.Packet{} }},
	}
	for _, o := range others {
		spoil = append(spoil, struct {
			name string
			set  func(p *api.Packet)
		}{o.name, func(p *api.Packet) { o.set(p, 1) }})
	}
	for _, s := range spoil {
		for _, at := range []int64{0, 5, api.MaxTime} {
			for _, delta := range []int64{math.MinInt64, -api.MaxTime, -1, 0, 1, 10, api.MaxTime, api.MaxTime + 1, math.MaxInt64} {
				p := update(api.Key{T: at, From: 1, Seq: 2}, 1, []byte("hi"))
				s.set(&p)
				got, e := Entry(p, delta)
				if e != api.ErrArg || got.At != 0 || got.Key != (api.Key{}) || len(got.Body) != 0 {
					t.Errorf("%s, T %d, delta %d: %s, error %d", s.name, at, delta, brief(entryText(got)), e)
				}
			}
		}
	}
}

func TestEntryOfAll(t *testing.T) {
	deltas := []int64{math.MinInt64, -1 << 60, -300, -1, 0, 1, 10, 8712, 1 << 32, 1<<60 - 300, 1<<60 - 2, 1<<60 - 1, 1 << 60, 1<<60 + 1, 1 << 61, 1 << 62, math.MaxInt64 - 1, math.MaxInt64}
	keys := append(slices.Clone(goodKeys), badKeys...)
	for _, kind := range []int{0, 1, 2, 3, 4, 5, 6, 7} {
		for _, hops := range []int{0, 1, 63, 64} {
			for _, k := range keys {
				for _, n := range []int{0, 2, 1024, 1025} {
					for _, delta := range deltas {
						p := api.Packet{Kind: kind, Hops: hops, Key: k, Body: some(n)}
						want, e := slowEntry(p, delta)
						delivers(t, p, delta, want, e)
					}
				}
			}
		}
	}
}

func TestEntryHasABodyOfItsOwn(t *testing.T) {
	for _, n := range lengths {
		for _, in := range [][]byte{some(n), roomy(n)} {
			p := update(api.Key{T: 5}, 1, in)
			e, err := Entry(p, 10)
			if err != api.OK || !bytes.Equal(e.Body, in) {
				t.Fatalf("%d bytes: error %d, or another body", n, err)
			}
			if cap(in) == 0 {
				continue
			}
			if wrong := apart(in, e.Body); wrong != "" {
				t.Errorf("%d bytes of %d: %s", n, cap(in), wrong)
			}
		}
	}
	p := New(api.Key{T: 5}, []byte("hi"))
	one, _ := Entry(p, 1)
	two, _ := Entry(p, 1)
	if wrong := apart(one.Body, two.Body); wrong != "" {
		t.Errorf("two entries of one packet: %s", wrong)
	}
}

func TestEntryLeavesThePacket(t *testing.T) {
	for _, delta := range []int64{-1, 0, 10, math.MaxInt64} {
		in := roomy(20)
		all := in[:cap(in)]
		was := bytes.Clone(all)
		Entry(update(api.Key{T: 5}, 1, in), delta)
		if !bytes.Equal(all, was) {
			t.Errorf("delta %d: the body is changed", delta)
		}
	}
}

// P10.4

// drawn is a good packet, with each part at its edge now and then.
func drawn(next func() uint64) api.Packet {
	pick := func(most uint64) uint64 {
		switch next() % 8 {
		case 0:
			return 0
		case 1:
			return most
		case 2:
			return next() % min(most+1, 200)
		}
		return next() % (most + 1)
	}
	body := make([]byte, pick(1024))
	for i := range body {
		body[i] = byte(next() >> 16)
	}
	k := api.Key{T: int64(pick(1 << 60)), From: int(pick(63)), Seq: uint32(pick(math.MaxUint32))}
	return update(k, 1+int(pick(62)), body)
}

func TestWhatWasPutIsGot(t *testing.T) {
	next := chance(1001)
	for range 20000 {
		p := drawn(next)
		if !Good(p) {
			t.Fatalf("%s is not good", brief(text(p)))
		}
		b := put(p)
		if !bytes.Equal(b, slowPut(p.Body)) {
			t.Fatalf("%s is written %x", brief(text(p)), b)
		}
		bare := p
		bare.Body = nil
		wants(t, "by chance", buf.Read(b), bare, p, api.OK, 0)
		wants(t, "by chance, with more behind it", buf.Read(append(b, 7, 8)), bare, p, api.OK, 2)
		if t.Failed() {
			t.FailNow()
		}
	}
}

// A whole packet: its head by head, what stands behind it by data.
func TestWhatWasPutBehindItsHeadIsGot(t *testing.T) {
	next := chance(2002)
	for range 20000 {
		p := drawn(next)
		w := buf.New(api.MaxFrame)
		head.Put(w, p)
		Put(w, p)
		b, e := w.Done()
		if e != api.OK {
			t.Fatalf("%s: error %d", brief(text(p)), e)
		}
		r := buf.Read(b)
		h, e := head.Get(r)
		if e != api.OK {
			t.Fatalf("%s: its head: error %d", brief(text(p)), e)
		}
		wants(t, "by chance", r, h, p, api.OK, 0)
		if got, _ := Get(buf.Read(slowPut(p.Body)), h); !Good(got) {
			t.Fatalf("%s: what is got is not good", brief(text(p)))
		}
		if t.Failed() {
			t.FailNow()
		}
	}
}

// What New makes, told again by Get, is delivered as it was.
func TestWhatIsGotIsDelivered(t *testing.T) {
	next := chance(3003)
	for range 5000 {
		d := drawn(next)
		p := New(d.Key, d.Body)
		q, e := Get(buf.Read(put(p)), New(d.Key, nil))
		if e != api.OK {
			t.Fatalf("%s: error %d", brief(text(p)), e)
		}
		delta := int64(next() % (1<<60 + 1))
		want, we := slowEntry(p, delta)
		delivers(t, q, delta, want, we)
		if t.Failed() {
			t.FailNow()
		}
	}
}
