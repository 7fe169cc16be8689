package attend

import (
	"bytes"
	"encoding/hex"
	"fmt"
	"math"
	"math/big"
	"slices"
	"testing"

	"angelus/api"
	"angelus/buf"
	"angelus/head"
	"angelus/nodes"
)

// chance answers numbers of no rule, the same ones each time.
func chance(x uint64) func() uint64 {
	return func() uint64 {
		x ^= x << 13
		x ^= x >> 7
		x ^= x << 17
		return x
	}
}

// goodNos and badNos are numbers of attendances that may be, and that may not.
var (
	goodNos = []int64{0, 1, 2, 63, 126, 127, 128, 129, 255, 256, 300, 1<<14 - 1, 1 << 14, 1<<32 - 1, 1 << 32, 1<<56 - 1, 1 << 56, api.MaxTime - 1, api.MaxTime}
	badNos  = []int64{math.MinInt64, math.MinInt64 + 1, -api.MaxTime - 1, -api.MaxTime, -1 << 32, -128, -2, -1, api.MaxTime + 1, api.MaxTime + 2, 1 << 61, 1 << 62, math.MaxInt64 - 1, math.MaxInt64}
)

// allNos are both.
func allNos() []int64 { return slices.Concat(goodNos, badNos) }

var goodKeys = []api.Key{
	{}, {T: 30, From: 2, Seq: 4}, {T: 1}, {From: 1}, {Seq: 1}, {From: 63}, {Seq: math.MaxUint32},
	{T: 1 << 32, From: 31, Seq: 1 << 31}, {T: api.MaxTime - 1}, {T: api.MaxTime, From: 63, Seq: math.MaxUint32},
}

// badKeys have now and then a From of which the lower bits are a node's, or by which a shift panics.
var badKeys = []api.Key{
	{T: -1}, {T: -30, From: 2, Seq: 4}, {T: math.MinInt64}, {T: api.MaxTime + 1}, {T: 1 << 61}, {T: math.MaxInt64, From: 3},
	{From: -1}, {From: -63}, {From: 64}, {From: 65, T: 9}, {From: 66}, {From: 256}, {From: 1<<32 + 1}, {From: math.MinInt}, {From: math.MaxInt},
	{T: -1, From: 64}, {T: api.MaxTime + 1, From: -1, Seq: math.MaxUint32},
}

// allKeys are both.
func allKeys() []api.Key { return slices.Concat(goodKeys, badKeys) }

// otherKinds are those that are none of this layer's: the five others, none, and numbers of which only the lower bits look like it.
var otherKinds = []int{
	math.MinInt, -1<<32 + 5, -256 + 5, -251, -5, -1, 0, 1, 2, 3, 4, 6, 7, 8, 13, 21, 37, 64 + 5, 128 + 5, 255, 256, 256 + 5, 1<<16 + 5, 1<<32 + 5, math.MaxInt,
}

// bodies are none, an empty one, one byte, and more.
var bodies = [][]byte{nil, {}, {0}, {7}, {0, 0, 0}, make([]byte, 1024), make([]byte, 5000)}

// text is a packet's each part: it asks nothing of the package, nor of those below it.
func text(p api.Packet) string {
	return fmt.Sprintf("kind %d key %d.%d.%d hops %d no %d to %d index %d total %d stamp %d value %d body %x",
		p.Kind, p.Key.T, p.Key.From, p.Key.Seq, p.Hops, p.No, p.To, p.Index, p.Total, p.Stamp, p.Value, p.Body)
}

func samePacket(t *testing.T, name string, got, want api.Packet) {
	t.Helper()
	if g, w := text(got), text(want); g != w {
		t.Errorf("%s: %s, not %s", name, g, w)
	}
}

// full is a packet in which nothing is 0.
func full(kind int) api.Packet {
	return api.Packet{
		Kind: kind, Hops: 10, Key: api.Key{T: 300, From: 2, Seq: 7},
		No: 11, To: 12, Index: 13, Total: 14, Stamp: 15, Value: 16, Body: []byte{17, 18, 19},
	}
}

// attend is a packet written out.
func attend(hops int, k api.Key, no int64) api.Packet {
	return api.Packet{Kind: 5, Hops: hops, Key: k, No: no}
}

// from is one of a node.
func from(node int, no int64) api.Packet { return attend(1, api.Key{From: node}, no) }

// part sets one part of a packet, of which an attend has nothing.
type part struct {
	name string
	set  func(p *api.Packet, x int64)
}

var otherParts = []part{
	{"To", func(p *api.Packet, x int64) { p.To = int(x) }},
	{"Index", func(p *api.Packet, x int64) { p.Index = int(x) }},
	{"Total", func(p *api.Packet, x int64) { p.Total = int(x) }},
	{"Stamp", func(p *api.Packet, x int64) { p.Stamp = x }},
	{"Value", func(p *api.Packet, x int64) { p.Value = x }},
	{"Body", func(p *api.Packet, x int64) { p.Body = []byte{byte(x)} }},
}

// notZero are numbers that are none, of which some are 0 if but their lower bits are asked.
var notZero = []int64{1, -1, 2, 5, 63, 64, 255, 256, 1 << 16, 1 << 31, 1 << 32, 1<<40 + 1, 1 << 60, math.MinInt64, math.MaxInt64}

// slowGood is P12.1's Good, word by word, with what 9 and 6 ask of a head.
func slowGood(p api.Packet) bool {
	switch {
	case p.Kind != 5, p.Hops < 1, p.Hops > 63, p.Key.T < 0, p.Key.T > 1<<60, p.Key.From < 0, p.Key.From > 63:
		return false
	case p.No < 0, p.No > 1<<60:
		return false
	}
	return p.To == 0 && p.Index == 0 && p.Total == 0 && p.Stamp == 0 && p.Value == 0 && len(p.Body) == 0
}

// slowPut are the bytes that stand behind a head: a number modulo 2^64 in sevens of bits, in each byte but the last one 128 more.
func slowPut(no int64) []byte {
	left, low := big.NewInt(no), new(big.Int)
	left.Mod(left, new(big.Int).Lsh(big.NewInt(1), 64))
	var b []byte
	for left.Cmp(big.NewInt(127)) > 0 {
		left.DivMod(left, big.NewInt(128), low)
		b = append(b, byte(low.Int64())+128)
	}
	return append(b, byte(left.Int64()))
}

// put is what Put writes.
func put(p api.Packet) []byte {
	w := buf.New(100)
	Put(w, p)
	b, e := w.Done()
	if e != api.OK {
		panic(e)
	}
	return b
}

func unhex(s string) []byte {
	b, err := hex.DecodeString(s)
	if err != nil {
		panic(err)
	}
	return b
}

// The chapter's example. The set is told as nodes tells it: node 2 alone.
func TestExample(t *testing.T) {
	p := New(api.Key{T: 30, From: 2, Seq: 4}, 3)
	w := buf.New(api.MaxFrame)
	head.Put(w, p)
	Put(w, p)
	if b, e := w.Done(); e != api.OK || fmt.Sprintf("% x", b) != "05 01 1e 02 04 00 00 00 03" {
		t.Errorf("written % x, error %d", b, e)
	}
	if got := Who(3, p); got != 1<<2 || nodes.Text(got) != "2" {
		t.Errorf("Who: %b", got)
	}
	if x, ok := Due(3, 10); x != 30 || !ok {
		t.Errorf("Due: %d, %v", x, ok)
	}
}

// P12.1

// New asks nothing of a key nor of a number.
func TestNew(t *testing.T) {
	for _, k := range allKeys() {
		for _, no := range allNos() {
			p := New(k, no)
			samePacket(t, "New", p, api.Packet{Kind: api.KAttend, Hops: 1, Key: k, No: no})
			if want := slices.Contains(goodKeys, k) && slices.Contains(goodNos, no); Good(p) != want {
				t.Errorf("Good of New(%v, %d) is %v", k, no, !want)
			}
		}
	}
}

func TestGoodOfKinds(t *testing.T) {
	kinds := slices.Clone(otherKinds)
	for kind := -20; kind <= 1100; kind++ {
		kinds = append(kinds, kind)
	}
	for _, kind := range kinds {
		for _, p := range []api.Packet{{}, {Hops: 1}, {Stamp: 5}, {Stamp: 5, Value: 6}, attend(1, api.Key{}, 3), attend(63, api.Key{T: 300, From: 2, Seq: 7}, 0), full(0)} {
			p.Kind = kind
			if got := Good(p); got != slowGood(p) {
				t.Errorf("Good of %s is %v", text(p), got)
			}
		}
	}
	if Good(api.Packet{}) || Good(full(api.KAttend)) || !Good(attend(1, api.Key{}, 0)) {
		t.Error("nothing and all are not good, an attend is")
	}
}

func TestGoodOfHopsKeysAndNumbers(t *testing.T) {
	good := 0
	for _, hops := range []int{math.MinInt, -63, -1, 0, 1, 2, 31, 62, 63, 64, 65, 127, 255, 256, 257, 1<<32 + 1, math.MaxInt} {
		for _, k := range allKeys() {
			for _, no := range allNos() {
				p := attend(hops, k, no)
				want := hops >= 1 && hops <= 63 && slices.Contains(goodKeys, k) && slices.Contains(goodNos, no)
				if got := Good(p); got != want {
					t.Errorf("Good of %s is %v", text(p), got)
				}
				if want {
					good++
				}
			}
		}
	}
	if want := 5 * len(goodKeys) * len(goodNos); good != want {
		t.Errorf("%d of them are good, not %d", good, want)
	}
}

// A good packet is not good any more with each one of the other parts, alone, and good without.
func TestGoodOfEachOtherPart(t *testing.T) {
	for _, no := range goodNos {
		for _, k := range goodKeys {
			for _, hops := range []int{1, 2, 63} {
				p := attend(hops, k, no)
				for _, o := range otherParts {
					for _, x := range notZero {
						q := p
						o.set(&q, x)
						if Good(q) {
							t.Errorf("with %s %d it is good: %s", o.name, x, text(q))
						}
					}
				}
				if !Good(p) {
					t.Errorf("it is not good: %s", text(p))
				}
			}
		}
	}
}

// Two parts that would make one another out, were they added up.
func TestGoodOfTwoOtherParts(t *testing.T) {
	for i, o := range otherParts {
		for _, u := range otherParts[i+1:] {
			for _, y := range []int64{-1, 1} {
				p := attend(1, api.Key{From: 3}, 4)
				o.set(&p, 1)
				u.set(&p, y)
				if Good(p) {
					t.Errorf("with %s 1 and %s %d it is good", o.name, u.name, y)
				}
			}
		}
	}
}

func TestGoodOfBodies(t *testing.T) {
	for _, body := range bodies {
		for _, no := range allNos() {
			p := attend(1, api.Key{T: 30, From: 2, Seq: 4}, no)
			p.Body = body
			if got := Good(p); got != (len(body) == 0 && slices.Contains(goodNos, no)) {
				t.Errorf("Good with No %d and a body of %d bytes is %v", no, len(body), got)
			}
		}
	}
}

// Parts that are each at its edge or near it, all with all, against the promise word by word.
func TestGoodOfAll(t *testing.T) {
	good := 0
	for _, kind := range []int{-1, 0, 1, 2, 3, 4, 5, 6, 7, 256 + 5, 1<<32 + 5} {
		for _, hops := range []int{-1, 0, 1, 63, 64} {
			for _, k := range allKeys() {
				for _, no := range []int64{-1, 0, 1, api.MaxTime, api.MaxTime + 1} {
					for i := range 1 + len(otherParts) {
						p := api.Packet{Kind: kind, Hops: hops, Key: k, No: no}
						if i > 0 {
							otherParts[i-1].set(&p, 1)
						}
						want := slowGood(p)
						if got := Good(p); got != want {
							t.Fatalf("Good of %s is %v", text(p), got)
						}
						if want {
							good++
						}
					}
				}
			}
		}
	}
	if want := 2 * len(goodKeys) * 3; good != want {
		t.Errorf("%d of them are good, not %d", good, want)
	}
}

func TestGoodAndPutLeaveThePacket(t *testing.T) {
	body := []byte{71, 72, 73, 74, 75}
	for n := range body {
		p := full(api.KAttend)
		if n == 0 {
			p = from(2, 11) // With nothing in its body it is good.
		}
		p.Body = body[:n]
		was := text(p)
		Good(p)
		Put(buf.New(100), p)
		Who(p.No, p)
		if !bytes.Equal(body, []byte{71, 72, 73, 74, 75}) || text(p) != was {
			t.Fatalf("with %d bytes the packet is changed: %s", n, text(p))
		}
	}
}

// P12.2

func TestPutBytes(t *testing.T) {
	for _, r := range []struct {
		no   int64
		want string
	}{
		{0, "00"},
		{1, "01"},
		{3, "03"},
		{127, "7f"},
		{128, "8001"},
		{300, "ac02"},
		{1<<14 - 1, "ff7f"},
		{1 << 14, "808001"},
		{1<<32 + 5, "8580808010"},
		{api.MaxTime - 1, "ffffffffffffffff0f"},
		{api.MaxTime, "808080808080808010"},
		{api.MaxTime + 1, "818080808080808010"},
		{math.MaxInt64, "ffffffffffffffff7f"},
		{-1, "ffffffffffffffffff01"},
		{math.MinInt64, "80808080808080808001"},
	} {
		if got := hex.EncodeToString(put(attend(1, api.Key{}, r.no))); got != r.want {
			t.Errorf("No %d: %s, not %s", r.no, got, r.want)
		}
	}
	for _, no := range allNos() {
		if got := put(attend(1, api.Key{}, no)); !bytes.Equal(got, slowPut(no)) {
			t.Errorf("No %d: %x", no, got)
		}
	}
}

// Put asks of the number alone what it writes: not whether the packet is good.
func TestPutAsksOfTheNumberAlone(t *testing.T) {
	for _, no := range []int64{0, 1, 128, api.MaxTime} {
		want := slowPut(no)
		for _, kind := range append([]int{5}, otherKinds...) {
			p := full(kind)
			p.No = no
			if got := put(p); !bytes.Equal(got, want) {
				t.Errorf("%s: %x, not %x", text(p), got, want)
			}
		}
		for _, k := range badKeys {
			if got := put(attend(64, k, no)); !bytes.Equal(got, want) {
				t.Errorf("key %v: %x, not %x", k, got, want)
			}
		}
	}
}

func TestPutStandsBehindWhatWasWritten(t *testing.T) {
	w := buf.New(100)
	w.Byte(9)
	p := New(api.Key{T: 300, From: 2, Seq: 7}, 128)
	head.Put(w, p)
	Put(w, p)
	Put(w, from(0, 3))
	w.Byte(8)
	if b, e := w.Done(); e != api.OK || fmt.Sprintf("% x", b) != "09 05 01 ac 02 02 07 00 00 00 80 01 03 08" {
		t.Errorf("% x, error %d", b, e)
	}
}

func TestPutWhereNothingCanBeWritten(t *testing.T) {
	for _, no := range allNos() {
		p := from(1, no)
		Put(nil, p)
		whole := slowPut(no)
		for most := -1; most <= len(whole)+1; most++ {
			w := buf.New(most)
			Put(w, p)
			b, e := w.Done()
			if most < len(whole) && (e != api.ErrLong || len(b) != 0) {
				t.Errorf("No %d in %d bytes: %x, error %d", no, most, b, e)
			}
			if most >= len(whole) && (e != api.OK || !bytes.Equal(b, whole)) {
				t.Errorf("No %d in %d bytes: %x, error %d", no, most, b, e)
			}
		}
		full := buf.New(3)
		full.Byte(1, 2, 3)
		Put(full, p)
		if b, e := full.Done(); e != api.ErrLong || len(b) != 0 {
			t.Errorf("No %d, a full writer: %x, error %d", no, b, e)
		}
		failed := buf.New(100)
		failed.Fixed(0, 9)
		Put(failed, p)
		if b, e := failed.Done(); e != api.ErrArg || len(b) != 0 {
			t.Errorf("No %d behind an error: %x, error %d", no, b, e)
		}
	}
}

// wants holds an answer of Get, and where the reader stands behind it, against what it should be.
func wants(t *testing.T, name string, r *buf.Reader, p, want api.Packet, e api.Errno, left int) {
	t.Helper()
	got, ge := Get(r, p)
	if g, w := text(got), text(want); g != w || ge != e || r.Left() != left {
		t.Errorf("%s: %s, error %d, %d left, not %s, error %d, %d left", name, g, ge, r.Left(), w, e, left)
	}
}

// with is a packet with another number.
func with(p api.Packet, no int64) api.Packet {
	p.No = no
	return p
}

// given are packets that Get may be given; it asks nothing of them, not even their kind.
func given() []api.Packet {
	bad := full(api.KAttend)
	bad.Hops, bad.Key, bad.No, bad.Body = 64, api.Key{T: -1, From: 64}, -1, make([]byte, 2000)
	l := []api.Packet{{Kind: api.KAttend}, attend(63, api.Key{T: 30, From: 63, Seq: 4}, 0), bad}
	for kind := -1; kind <= 8; kind++ {
		l = append(l, full(kind))
	}
	return l
}

// Get tells the packet that it was given, with what was read and with nothing else changed.
func TestGetOfWhatPutWrote(t *testing.T) {
	for _, no := range goodNos {
		for _, p := range given() {
			b := put(from(0, no))
			name := fmt.Sprint("No ", no)
			r := buf.Read(slices.Concat(b, []byte{0xAA, 2, 3}))
			wants(t, name+" with more behind it", r, p, with(p, no), api.OK, 3)
			if r.Byte() != 0xAA || r.Err() != api.OK {
				t.Errorf("%s: the reader doesn't stand behind it", name)
			}
			r = buf.Read(b)
			wants(t, name, r, p, with(p, no), api.OK, 0)
			if r.End() != api.OK {
				t.Errorf("%s: not all is read", name)
			}
		}
	}
}

func TestGetOneBehindAnother(t *testing.T) {
	var b []byte
	for _, no := range goodNos {
		b = append(b, slowPut(no)...)
	}
	r, left := buf.Read(b), len(b)
	for _, no := range goodNos {
		left -= len(slowPut(no))
		wants(t, fmt.Sprint("No ", no), r, full(5), with(full(5), no), api.OK, left)
	}
	wants(t, "behind all", r, full(5), api.Packet{}, api.ErrShort, 0)
}

func TestGetOfBytesCutShort(t *testing.T) {
	for _, no := range allNos() {
		whole := slowPut(no)
		for i := range whole {
			for _, p := range given() {
				wants(t, fmt.Sprintf("%d of %d", i, len(whole)), buf.Read(whole[:i]), p, api.Packet{}, api.ErrShort, 0)
			}
		}
	}
	for _, p := range given() {
		wants(t, "none", buf.Read(nil), p, api.Packet{}, api.ErrShort, 0)
		wants(t, "empty", buf.Read([]byte{}), p, api.Packet{}, api.ErrShort, 0)
	}
}

// A number has one form alone; what is wrong in reading is told ahead of a number that is too great.
func TestGetOfWrongForms(t *testing.T) {
	for _, s := range []string{
		"8000", "ff00", "828000", "80808080808080808000", "80808080808080808002", "ffffffffffffffffff02",
		"ffffffffffffffffff7f", "80808080808080808080", "ffffffffffffffffffff01", "8080808080808080808000",
	} {
		for _, p := range given() {
			wants(t, s, buf.Read(unhex(s)), p, api.Packet{}, api.ErrForm, 0)
			wants(t, s+" and more", buf.Read(append(unhex(s), 1, 2, 3)), p, api.Packet{}, api.ErrForm, 0)
		}
	}
}

// A number that is too great was read as it stands: the reader has nothing against it.
func TestGetOfNumbersTooGreat(t *testing.T) {
	for _, no := range badNos {
		b := slowPut(no)
		name := fmt.Sprint("No ", no)
		for _, p := range given() {
			wants(t, name, buf.Read(b), p, api.Packet{}, api.ErrRange, 0)
			r := buf.Read(slices.Concat(b, []byte{7, 8}))
			wants(t, name+" with more behind it", r, p, api.Packet{}, api.ErrRange, 2)
			if r.Byte() != 7 || r.Err() != api.OK {
				t.Errorf("%s: then the reader tells %d", name, r.Err())
			}
		}
	}
}

// What was wrong in reading ahead of it is told, and nothing is read.
func TestGetOfReadersThatFailed(t *testing.T) {
	for _, p := range given() {
		got, e := Get(nil, p)
		samePacket(t, "of nil", got, api.Packet{})
		if e != api.ErrArg {
			t.Errorf("of nil: error %d", e)
		}
		wants(t, "of a zero reader", new(buf.Reader), p, api.Packet{}, api.ErrShort, 0)
		for _, r := range []struct {
			name string
			fail func(*buf.Reader)
			e    api.Errno
		}{
			{"behind ErrArg", func(r *buf.Reader) { r.Fixed(9) }, api.ErrArg},
			{"behind ErrShort", func(r *buf.Reader) { r.Bytes(100) }, api.ErrShort},
			{"behind ErrLong", func(r *buf.Reader) { r.Bytes(1) }, api.ErrLong},
			{"behind ErrForm", func(r *buf.Reader) { r.Byte(); r.Num() }, api.ErrForm},
		} {
			rd := buf.Read(append([]byte{99, 0x80, 0}, make([]byte, 40)...))
			r.fail(rd)
			wants(t, r.name, rd, p, api.Packet{}, r.e, 0)
			wants(t, r.name+", once more", rd, p, api.Packet{}, r.e, 0)
			if rd.Err() != r.e {
				t.Errorf("%s: then the reader tells %d", r.name, rd.Err())
			}
		}
	}
}

// What Get finds wrong in reading stays wrong with the reader.
func TestGetLeavesTheReaderFailed(t *testing.T) {
	for _, r := range []struct {
		b string
		e api.Errno
	}{{"", api.ErrShort}, {"8080", api.ErrShort}, {"8000010203", api.ErrForm}} {
		rd := buf.Read(unhex(r.b))
		wants(t, "first", rd, full(5), api.Packet{}, r.e, 0)
		wants(t, "second", rd, full(5), api.Packet{}, r.e, 0)
		if rd.Err() != r.e || rd.End() != r.e || rd.Byte() != 0 {
			t.Errorf("the reader tells %d, not %d", rd.Err(), r.e)
		}
	}
}

// The body that a packet came with goes with it, but not its memory.
func TestGetHasABodyOfItsOwn(t *testing.T) {
	for _, n := range []int{0, 1, 3, 1024, 5000} {
		all := bytes.Repeat([]byte{5}, n+50)
		p := full(5)
		p.Body = all[:n]
		got, e := Get(buf.Read([]byte{3}), p)
		if e != api.OK || !bytes.Equal(got.Body, all[:n]) {
			t.Fatalf("%d bytes: error %d, or another body", n, e)
		}
		was := bytes.Clone(got.Body)
		for i := range all {
			all[i] = 6
		}
		if !bytes.Equal(got.Body, was) {
			t.Errorf("%d bytes: what came in later is seen in what was told", n)
		}
		for i := range got.Body {
			got.Body[i] = 7
		}
		_ = append(got.Body, 8, 8, 8)
		if slices.ContainsFunc(all, func(b byte) bool { return b != 6 }) {
			t.Errorf("%d bytes: what was told is seen in what came in", n)
		}
	}
}

func TestGetLeavesTheBytes(t *testing.T) {
	for _, s := range []string{"00", "0301", "8000", "ffffffffffffffff7f", "808080808080808010"} {
		b, p := unhex(s), full(5)
		was := text(p)
		Get(buf.Read(b), p)
		if hex.EncodeToString(b) != s || text(p) != was {
			t.Errorf("%s became %x, or the packet %s", s, b, text(p))
		}
	}
}

// slowGet is what is read of bytes, word by word, and how many bytes that takes.
func slowGet(b []byte) (int64, int, api.Errno) {
	x := new(big.Int)
	for i := 0; ; i++ {
		switch {
		case i == 10:
			return 0, len(b), api.ErrForm
		case i == len(b):
			return 0, len(b), api.ErrShort
		}
		x.Add(x, new(big.Int).Lsh(big.NewInt(int64(b[i]%128)), uint(7*i)))
		switch {
		case b[i] >= 128:
			continue
		case b[i] == 0 && i > 0, x.BitLen() > 64:
			return 0, len(b), api.ErrForm
		case x.Cmp(big.NewInt(1<<60)) > 0:
			return 0, i + 1, api.ErrRange
		}
		return x.Int64(), i + 1, api.OK
	}
}

func TestGetOfBytesByChance(t *testing.T) {
	next := chance(77)
	told := map[api.Errno]int{}
	for range 100000 {
		b := make([]byte, next()%14)
		high := int(next() % 12)
		for i := range b {
			b[i] = byte(next() >> 24)
			if i < high {
				b[i] |= 128
			}
			if next()%8 == 0 {
				b[i] %= 2
			}
		}
		no, taken, e := slowGet(b)
		told[e]++
		want := api.Packet{}
		if e == api.OK {
			want = with(full(5), no)
		}
		wants(t, hex.EncodeToString(b), buf.Read(b), full(5), want, e, len(b)-taken)
		if t.Failed() {
			t.FailNow()
		}
	}
	for _, e := range []api.Errno{api.OK, api.ErrRange, api.ErrShort, api.ErrForm} {
		if told[e] < 100 {
			t.Errorf("error %d came but %d times", e, told[e])
		}
	}
}

// P12.3

// slowWho is P12.3's Who, word by word, node by node.
func slowWho(no int64, l []api.Packet) api.Set {
	s := api.Set(0)
	for i := range 64 {
		for _, p := range l {
			if slowGood(p) && p.No == no && p.Key.From == i {
				s |= 1 << i
				break
			}
		}
	}
	return s
}

func there(t *testing.T, name string, no int64, l []api.Packet, want api.Set) {
	t.Helper()
	if got := Who(no, l...); got != want {
		t.Errorf("%s: Who(%d, ..) is %s, not %s", name, no, nodes.Text(got), nodes.Text(want))
	}
}

func TestWhoOfNone(t *testing.T) {
	for _, no := range allNos() {
		there(t, "nil", no, nil, 0)
		there(t, "empty", no, []api.Packet{}, 0)
		there(t, "the zero packet", no, []api.Packet{{}}, 0)
		if got := Who(no); got != 0 {
			t.Errorf("Who(%d) is %b", no, got)
		}
	}
}

func TestWhoOfOne(t *testing.T) {
	for i := range 64 {
		for _, no := range goodNos {
			for _, asked := range allNos() {
				want := api.Set(0)
				if asked == no {
					want = 1 << i
				}
				there(t, fmt.Sprintf("node %d with No %d", i, no), asked, []api.Packet{from(i, no)}, want)
			}
		}
	}
}

// A number that may not be is that of no good attend, even if some has it.
func TestWhoOfNumbersThatMayNotBe(t *testing.T) {
	for _, no := range badNos {
		for _, i := range []int{0, 1, 5, 63} {
			there(t, fmt.Sprintf("node %d", i), no, []api.Packet{from(i, no), from(i, 0), from(i, api.MaxTime)}, 0)
		}
	}
}

// The set tells From alone: not when, which one, or how far.
func TestWhoOfHopsAndKeys(t *testing.T) {
	var l []api.Packet
	for _, k := range goodKeys {
		for _, hops := range []int{1, 2, 62, 63} {
			p := attend(hops, k, 9)
			there(t, text(p), 9, []api.Packet{p}, 1<<k.From)
			p.Body = []byte{}
			there(t, text(p)+" with an empty body", 9, []api.Packet{p}, 1<<k.From)
			l = append(l, p)
		}
	}
	there(t, "all keys", 9, l, 1<<0|1<<1|1<<2|1<<31|1<<63)
}

// wrongOnes are attends of node 7 with that number in each of which one thing is wrong, and some of no node.
func wrongOnes(no int64) []api.Packet {
	var l []api.Packet
	for _, kind := range otherKinds {
		p := from(7, no)
		p.Kind = kind
		l = append(l, p)
	}
	for _, hops := range []int{math.MinInt, -1, 0, 64, 65, 256 + 1, math.MaxInt} {
		l = append(l, attend(hops, api.Key{From: 7}, no))
	}
	for _, k := range badKeys {
		l = append(l, attend(1, k, no))
	}
	for _, x := range notZero {
		for _, o := range otherParts {
			p := from(7, no)
			o.set(&p, x)
			l = append(l, p)
		}
	}
	return l
}

func TestWhoOfWhatIsNotGood(t *testing.T) {
	for _, no := range []int64{0, 1, 12, api.MaxTime} {
		wrong := wrongOnes(no)
		for _, p := range wrong {
			name := text(p)
			there(t, name+", alone", no, []api.Packet{p}, 0)
			there(t, name+" ahead of good ones", no, []api.Packet{p, from(0, no), from(63, no)}, 1<<0|1<<63)
			there(t, name+" behind good ones", no, []api.Packet{from(0, no), from(63, no), p}, 1<<0|1<<63)
			there(t, name+" about a good one of its node", no, []api.Packet{p, from(7, no), p}, 1<<7)
		}
		there(t, "all wrong ones", no, wrong, 0)
		there(t, "all wrong ones and a good one", no, append(wrong, from(62, no)), 1<<62)
	}
}

func TestWhoOfOtherNumbers(t *testing.T) {
	var l []api.Packet
	for i, no := range goodNos {
		l = append(l, from(i, no), from(i+30, no))
	}
	for i, no := range goodNos {
		there(t, "many numbers", no, l, 1<<i|1<<(i+30))
	}
	for _, no := range append([]int64{3, 62, 125, 130, 1 << 40}, badNos...) {
		there(t, "a number of none", no, l, 0)
	}
	// One node with all numbers but one.
	for i, no := range goodNos {
		var others []api.Packet
		for j, x := range goodNos {
			if j != i {
				others = append(others, from(4, x))
			}
		}
		there(t, "the others", no, others, 0)
		there(t, "the others and it", no, append(others, from(4, no)), 1<<4)
	}
}

func TestWhoOfAllNodes(t *testing.T) {
	var l []api.Packet
	want := api.Set(0)
	for i := range 64 {
		l, want = append(l, from(i, 8)), want|1<<i
		there(t, fmt.Sprint("nodes up to ", i), 8, l, want)
	}
	there(t, "all nodes", 8, l, math.MaxUint64)
	for i := range l {
		there(t, fmt.Sprint("all nodes but ", i), 8, slices.Delete(slices.Clone(l), i, i+1), math.MaxUint64&^(1<<i))
	}
}

func TestWhoOfOneManyTimes(t *testing.T) {
	for _, i := range []int{0, 1, 31, 32, 62, 63} {
		var l []api.Packet
		for n := range 1000 {
			l = append(l, attend(1+n%63, api.Key{T: int64(n / 7), From: i, Seq: uint32(n / 3)}, 5))
			if n < 5 || n > 995 {
				there(t, fmt.Sprintf("node %d, %d times", i, n+1), 5, l, 1<<i)
			}
		}
		l = append(l, from(63-i, 5))
		there(t, fmt.Sprintf("node %d many times, and another one", i), 5, l, 1<<i|1<<(63-i))
	}
}

// orders calls f with each order of l.
func orders(l []api.Packet, k int, f func()) {
	if k == len(l) {
		f()
		return
	}
	for i := k; i < len(l); i++ {
		l[k], l[i] = l[i], l[k]
		orders(l, k+1, f)
		l[k], l[i] = l[i], l[k]
	}
}

func TestWhoOfEachOrder(t *testing.T) {
	twice, bad := from(9, 3), from(20, 3)
	twice.Key.Seq, bad.Value = 1, 1
	l := []api.Packet{from(9, 3), from(0, 3), twice, from(63, 3), from(21, 4), bad, {}}
	times := 0
	orders(l, 0, func() {
		times++
		there(t, "an order", 3, l, 1<<9|1<<0|1<<63)
		there(t, "an order", 4, l, 1<<21)
		there(t, "an order", 5, l, 0)
	})
	if times != 5040 {
		t.Errorf("%d orders", times)
	}
}

func TestWhoLeavesTheList(t *testing.T) {
	body := []byte{71, 72, 73}
	bad, good := from(6, 3), from(0, 3)
	bad.Body, good.Body = body[:2], body[:0]
	all := []api.Packet{from(9, 3), bad, good, from(9, 3), {}, full(5), from(1, 4), from(2, 3), from(1, 3), full(4)}
	var was []string
	for _, p := range all {
		was = append(was, text(p))
	}
	for n := range len(all) + 1 {
		Who(3, all[:n]...)
		for i, p := range all {
			if text(p) != was[i] {
				t.Fatalf("of %d packets number %d became %s", n, i, text(p))
			}
		}
	}
	if !bytes.Equal(body, []byte{71, 72, 73}) {
		t.Errorf("a body became %x", body)
	}
	there(t, "the list", 3, all, 1<<9|1<<0|1<<2|1<<1)
	there(t, "the list once more", 3, all, 1<<9|1<<0|1<<2|1<<1)
}

// slowDue is P12.3's Due, word by word.
func slowDue(no, every int64) (int64, bool) {
	x := new(big.Int).Mul(big.NewInt(no), big.NewInt(every))
	if no < 0 || every < 0 || x.Cmp(big.NewInt(1<<60)) > 0 {
		return 0, false
	}
	return x.Int64(), true
}

func due(t *testing.T, no, every, want int64, ok bool) {
	t.Helper()
	if x, o := Due(no, every); x != want || o != ok {
		t.Errorf("Due(%d, %d): %d, %v, not %d, %v", no, every, x, o, want, ok)
	}
}

func TestDue(t *testing.T) {
	const far = api.MaxTime
	for _, r := range []struct {
		a, b, want int64
		ok         bool
	}{
		{0, 0, 0, true},
		{0, 1, 0, true},
		{1, 1, 1, true},
		{3, 10, 30, true},
		{0, far, 0, true},
		{0, far + 1, 0, true},
		{0, math.MaxInt64, 0, true},
		{1, far, far, true},
		{1, far - 1, far - 1, true},
		{1, far + 1, 0, false},
		{1, math.MaxInt64, 0, false},
		{2, far / 2, far, true},
		{2, far/2 + 1, 0, false},
		{3, far / 3, far - 1, true},
		{3, far/3 + 1, 0, false},
		{1 << 30, 1 << 30, far, true},
		{1 << 30, 1<<30 + 1, 0, false},
		{1<<30 - 1, 1<<30 + 1, far - 1, true},
		{17, (far + 1) / 17, 0, false}, // One above MaxTime.
		{241, (far + 1) / 241, 0, false},
		{17 * 241, (far + 1) / (17 * 241), 0, false},
		{1 << 20, api.MaxSpan, far, true},
		{1<<20 + 1, api.MaxSpan, 0, false},
		{far, far, 0, false},
		{1 << 31, 1 << 32, 0, false},
		{1 << 32, 1 << 32, 0, false},             // It would go round to 0,
		{1 << 32, 1<<32 + 1, 0, false},           // to 2^32,
		{1<<33 + 1, 1 << 33, 0, false},           // to 2^33,
		{1<<32 + 1, 1<<32 - 1, 0, false},         // to -1,
		{math.MaxInt64, math.MaxInt64, 0, false}, // to 1,
		{3, math.MaxInt64, 0, false},
		{4, 1 << 62, 0, false},
		{-1, 0, 0, false},
		{-1, 1, 0, false},
		{-1, -1, 0, false},
		{-3, -10, 0, false},
		{-1, far, 0, false},
		{math.MinInt64, 0, 0, false},
		{math.MinInt64, 1, 0, false},
		{math.MinInt64, 2, 0, false},
		{math.MinInt64, -1, 0, false},
		{math.MinInt64, math.MinInt64, 0, false},
		{math.MinInt64, math.MaxInt64, 0, false},
	} {
		due(t, r.a, r.b, r.want, r.ok)
		due(t, r.b, r.a, r.want, r.ok)
	}
	if 17*241*((far+1)/(17*241)) != far+1 {
		t.Error("these are not one above MaxTime")
	}
}

func TestDueOfAllEdges(t *testing.T) {
	l := []int64{math.MinInt64, math.MinInt64 + 1, -api.MaxTime, -1 << 32, -2, -1, math.MaxInt64, math.MaxInt64 - 1}
	for x := range int64(40) {
		l = append(l, x)
	}
	for i := 6; i < 63; i++ {
		l = append(l, 1<<i-1, 1<<i, 1<<i+1, 1<<i+1<<(i/2), api.MaxTime/int64(i), api.MaxTime/int64(i)+1)
	}
	for _, a := range l {
		for _, b := range l {
			want, ok := slowDue(a, b)
			due(t, a, b, want, ok)
		}
	}
}

// The greatest every that goes with a number, and the one above it.
func TestDueAtTheEnd(t *testing.T) {
	next := chance(11)
	for range 50000 {
		no := int64(next()>>(1+next()%63)) + 1
		if no > api.MaxTime || no < 1 {
			continue
		}
		most := api.MaxTime / no
		due(t, no, most, no*most, true)
		due(t, no, most+1, 0, false)
		due(t, most, no, no*most, true)
		due(t, most+1, no, 0, false)
	}
}

func TestDueByChance(t *testing.T) {
	next := chance(12)
	goods := 0
	for range 200000 {
		a, b := int64(next())>>(next()%64), int64(next())>>(next()%64)
		want, ok := slowDue(a, b)
		due(t, a, b, want, ok)
		if ok {
			goods++
		}
	}
	if goods < 1000 {
		t.Errorf("but %d of them were good", goods)
	}
}

// P12.4

// drawn is a good packet, with each part at its edge now and then.
func drawn(next func() uint64) api.Packet {
	pick := func(most uint64) uint64 {
		switch next() % 8 {
		case 0:
			return 0
		case 1:
			return most
		case 2:
			return next() % min(most, 200)
		}
		return next() >> (next() % 40) % (most + 1)
	}
	k := api.Key{T: int64(pick(1 << 60)), From: int(pick(63)), Seq: uint32(pick(math.MaxUint32))}
	return attend(1+int(pick(62)), k, int64(pick(1<<60)))
}

// What stands behind a head alone, and whole packets: the head by head, what stands behind it by attend.
func TestWhatWasPutIsGot(t *testing.T) {
	next := chance(1001)
	for range 50000 {
		p := drawn(next)
		if !Good(p) {
			t.Fatalf("%s is not good", text(p))
		}
		b := put(p)
		if !bytes.Equal(b, slowPut(p.No)) {
			t.Fatalf("%s is written %x", text(p), b)
		}
		wants(t, "by chance", buf.Read(b), with(p, 0), p, api.OK, 0)
		wants(t, "by chance, with more behind it", buf.Read(append(b, 7, 8)), with(p, 0), p, api.OK, 2)
		w := buf.New(api.MaxFrame)
		head.Put(w, p)
		Put(w, p)
		whole, e := w.Done()
		if e != api.OK {
			t.Fatalf("%s: error %d", text(p), e)
		}
		r := buf.Read(whole)
		h, e := head.Get(r)
		if e != api.OK {
			t.Fatalf("%s: its head: error %d", text(p), e)
		}
		got, e := Get(r, h)
		if e != api.OK || text(got) != text(p) || r.End() != api.OK || !Good(got) || t.Failed() {
			t.Fatalf("%s: got %s, error %d, good %v", text(p), text(got), e, Good(got))
		}
	}
}

// drawnList is a list of no rule, with few nodes and few numbers, some of it wrong.
func drawnList(next func() uint64) []api.Packet {
	var l []api.Packet
	for range next() % 20 {
		p := drawn(next)
		p.No = int64(next() % 3)
		switch next() % 8 {
		case 0:
			otherParts[next()%uint64(len(otherParts))].set(&p, 1+int64(next()%9))
		case 1:
			p.Kind = int(next() % 9)
		case 2:
			p.Hops = int(next()%90) - 10
		case 3:
			p.Key.From = int(next()%160) - 40
		case 4:
			p.Body = []byte{}
		}
		l = append(l, p)
	}
	return l
}

// shuffled is a list in another order, by chance.
func shuffled(next func() uint64, l []api.Packet) []api.Packet {
	l = slices.Clone(l)
	for i := len(l) - 1; i > 0; i-- {
		j := next() % uint64(i+1)
		l[i], l[j] = l[j], l[i]
	}
	return l
}

func TestWhoByChance(t *testing.T) {
	next := chance(2002)
	some := 0
	for range 20000 {
		l := drawnList(next)
		no := int64(next()%4) - int64(next()%4/3)
		want := slowWho(no, l)
		if want != 0 {
			some++
		}
		there(t, "as drawn", no, l, want)
		twice := l
		for range next() % 6 {
			if len(l) > 0 {
				twice = append(slices.Clone(twice), l[next()%uint64(len(l))])
			}
		}
		there(t, "some twice", no, twice, want)
		there(t, "all twice", no, slices.Concat(l, l), want)
		for range 4 {
			there(t, "in another order", no, shuffled(next, l), want)
			there(t, "some twice, in another order", no, shuffled(next, twice), want)
		}
		backward := slices.Clone(l)
		slices.Reverse(backward)
		there(t, "from the end", no, backward, want)
		if t.Failed() {
			t.FailNow()
		}
	}
	if some < 5000 {
		t.Errorf("but %d lists had somebody", some)
	}
}
