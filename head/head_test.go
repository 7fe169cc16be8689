package head

import (
	"bytes"
	"encoding/hex"
	"fmt"
	"math"
	"slices"
	"strings"
	"testing"

	"angelus/api"
	"angelus/buf"
)

// chance answers numbers of no rule, the same ones each time.
func chance(x uint64) func() uint64 {
	return func() uint64 {
		x ^= x << 13
		x ^= x >> 7
		x ^= x << 17
		return x
	}
}

// kinds are the kinds, their edges, and numbers of which only the lower bits look like a kind.
var kinds = []int{
	math.MinInt, -1<<32 + 4, -256 + 4, -256, -6, -4, -3, -1, 0, 1, 2, 3, 4, 5, 6, 7, 8, 9, 10, 63, 64, 128, 255,
	256, 257, 258, 259, 260, 261, 262, 263, 1 << 16, 1<<16 + 4, 1 << 32, 1<<32 + 1, 1<<32 + 3, 1<<32 + 6, math.MaxInt,
}

var manyHops = []int{
	math.MinInt, math.MinInt + 1, -1<<32 + 1, -256 + 1, -64, -63, -1, 0, 1, 2, 5, 31, 32, 61, 62, 63, 64, 65, 127, 128, 255,
	256, 257, 256 + 63, 1 << 32, 1<<32 + 1, math.MaxInt - 1, math.MaxInt,
}

var times = []int64{
	math.MinInt64, math.MinInt64 + 1, -api.MaxTime - 1, -api.MaxTime, -300, -1, 0, 1, 5, 127, 128, 300, 1<<14 - 1, 1 << 14,
	1<<32 - 1, 1 << 32, 1<<56 - 1, 1 << 56, api.MaxTime - 1, api.MaxTime, api.MaxTime + 1, 1 << 62, math.MaxInt64 - 1, math.MaxInt64,
}

var froms = []int{
	math.MinInt, -1<<32 + 5, -256 + 5, -64, -1, 0, 1, 2, 62, 63, 64, 65, 127, 128, 255, 256, 256 + 5, 1 << 32, 1<<32 + 5, math.MaxInt,
}

var seqs = []uint32{0, 1, 7, 255, 256, 1 << 16, 1<<24 + 5, 0x04030201, 1<<31 - 1, 1 << 31, math.MaxUint32 - 1, math.MaxUint32}

// slowFlood is P9.1's Flood, word by word.
func slowFlood(kind int) bool { return kind == 3 || kind == 4 || kind == 5 || kind == 6 }

// slowGood is P9.1's Good, word by word.
func slowGood(p api.Packet) bool {
	switch {
	case kindIs(p.Kind, 3, 4, 5, 6):
		return p.Hops >= 1 && p.Hops <= 63 && p.Key.T >= 0 && p.Key.T <= 1<<60 && p.Key.From >= 0 && p.Key.From <= 63
	case kindIs(p.Kind, 1, 2):
		return p.Hops == 0 && p.Key.T == 0 && p.Key.From == 0 && p.Key.Seq == 0
	}
	return false
}

func kindIs(kind int, l ...int) bool { return slices.Contains(l, kind) }

// sevens is x in sevens of bits: in each byte but the last one 128 more.
func sevens(x uint64) []byte {
	var b []byte
	for x > 127 {
		b = append(b, byte(x%128)+128)
		x /= 128
	}
	return append(b, byte(x))
}

// parts are the parts of a head that has these numbers, one behind another: kind, hops, T, From, Seq.
func parts(kind, hops byte, t uint64, from byte, seq uint32) [][]byte {
	if !slowFlood(int(kind)) {
		return [][]byte{{kind}}
	}
	return [][]byte{{kind}, {hops}, sevens(t), {from}, {byte(seq), byte(seq >> 8), byte(seq >> 16), byte(seq >> 24)}}
}

// slowPut is P9.2's Put, word by word.
func slowPut(p api.Packet) []byte {
	if !slowFlood(p.Kind) {
		return []byte{byte(p.Kind)}
	}
	return slices.Concat(parts(byte(p.Kind), byte(p.Hops), uint64(p.Key.T), byte(p.Key.From), p.Key.Seq)...)
}

// put is what Put writes.
func put(p api.Packet) []byte {
	w := buf.New(100)
	Put(w, p)
	b, e := w.Done()
	if e != api.OK {
		panic(e)
	}
	return b
}

// only is a packet with the parts of a head alone.
func only(p api.Packet) api.Packet {
	return api.Packet{Kind: p.Kind, Hops: p.Hops, Key: api.Key{T: p.Key.T, From: p.Key.From, Seq: p.Key.Seq}}
}

// isSame is P9.3's Same by the text of each part: it asks nothing of the package.
func isSame(a, b api.Packet) bool { return text(a) == text(b) }

func text(p api.Packet) string {
	return fmt.Sprint(p.Kind, p.Key.T, p.Key.From, p.Key.Seq, p.Hops, p.No, p.To, p.Index, p.Total, p.Stamp, p.Value, hex.EncodeToString(p.Body))
}

// full is a packet in which nothing is 0.
func full(kind, hops int) api.Packet {
	return api.Packet{
		Kind: kind, Hops: hops, Key: api.Key{T: 300, From: 2, Seq: 7},
		No: 11, To: 12, Index: 13, Total: 14, Stamp: 15, Value: 16, Body: []byte{17, 18, 19},
	}
}

// P9.1

func TestFloodAndName(t *testing.T) {
	names := map[int]string{1: "probe", 2: "echo", 3: "beacon", 4: "data", 5: "attend", 6: "chunk"}
	ask := func(kind int) {
		want := names[kind]
		if want == "" {
			want = "?"
		}
		if got := Name(kind); got != want {
			t.Errorf("Name(%d) is %q, not %q", kind, got, want)
		}
		if got := Flood(kind); got != (kind >= 3 && kind <= 6) {
			t.Errorf("Flood(%d) is %v", kind, got)
		}
	}
	for kind := -300; kind <= 1200; kind++ {
		ask(kind)
	}
	for _, kind := range kinds {
		ask(kind)
	}
}

func TestGoodOfWhatIsFlooded(t *testing.T) {
	good := api.Key{T: 5, From: 1, Seq: 9}
	for _, r := range []struct {
		hops int
		k    api.Key
		want bool
	}{
		{1, good, true},
		{63, good, true},
		{-1, good, false},
		{0, good, false},
		{64, good, false},
		{256 + 1, good, false},
		{1, api.Key{}, true},
		{0, api.Key{}, false},
		{63, api.Key{T: api.MaxTime, From: 63, Seq: math.MaxUint32}, true},
		{1, api.Key{T: api.MaxTime + 1}, false},
		{1, api.Key{T: -1}, false},
		{1, api.Key{From: 64}, false},
		{1, api.Key{From: -1}, false},
	} {
		for kind := 3; kind <= 6; kind++ {
			if got := Good(api.Packet{Kind: kind, Hops: r.hops, Key: r.k}); got != r.want {
				t.Errorf("Good of kind %d, %d hops, %v is %v", kind, r.hops, r.k, got)
			}
		}
		for _, kind := range []int{math.MinInt, -3, 0, 7, 256 + 4, 1<<32 + 3, math.MaxInt} {
			if Good(api.Packet{Kind: kind, Hops: r.hops, Key: r.k}) {
				t.Errorf("Good of kind %d, which is none, %d hops, %v", kind, r.hops, r.k)
			}
		}
	}
}

func TestGoodOfWhatIsNotFlooded(t *testing.T) {
	for kind := 1; kind <= 2; kind++ {
		if !Good(api.Packet{Kind: kind}) {
			t.Errorf("kind %d with nothing more is not good", kind)
		}
		for _, hops := range manyHops {
			if got := Good(api.Packet{Kind: kind, Hops: hops}); got != (hops == 0) {
				t.Errorf("Good of kind %d with %d hops is %v", kind, hops, got)
			}
		}
		for _, k := range []api.Key{{T: 1}, {T: -1}, {From: 1}, {From: -1}, {From: 64}, {Seq: 1}, {Seq: math.MaxUint32}, {T: 5, From: 1, Seq: 9}, {T: api.MaxTime + 1}, {T: 1 << 32}, {From: 1 << 32}} {
			if Good(api.Packet{Kind: kind, Key: k}) {
				t.Errorf("Good of kind %d with the key %v", kind, k)
			}
		}
	}
	if Good(api.Packet{}) {
		t.Error("the zero packet is good")
	}
}

func TestGoodAsksOfTheHeadAlone(t *testing.T) {
	for kind := 3; kind <= 6; kind++ {
		if !Good(full(kind, 1)) {
			t.Errorf("kind %d", kind)
		}
	}
	for kind := 1; kind <= 2; kind++ {
		p := full(kind, 0)
		p.Key = api.Key{}
		if !Good(p) {
			t.Errorf("kind %d", kind)
		}
	}
}

func TestGoodOfAll(t *testing.T) {
	for _, kind := range kinds {
		for _, hops := range manyHops {
			for _, at := range times {
				for _, from := range froms {
					for _, seq := range []uint32{0, 1, math.MaxUint32} {
						p := api.Packet{Kind: kind, Hops: hops, Key: api.Key{T: at, From: from, Seq: seq}}
						if got := Good(p); got != slowGood(p) {
							t.Fatalf("Good of %v is %v", p, got)
						}
					}
				}
			}
		}
	}
}

// P9.2

func TestPutExample(t *testing.T) {
	p := api.Packet{Kind: api.KBeacon, Hops: 1, Key: api.Key{T: 300, From: 2, Seq: 7}}
	want := []byte{0x03, 0x01, 0xAC, 0x02, 0x02, 0x07, 0x00, 0x00, 0x00}
	if got := put(p); !bytes.Equal(got, want) {
		t.Errorf("% X", got)
	}
	r := buf.Read(want)
	if got, e := Get(r); !isSame(got, p) || e != api.OK || r.Left() != 0 {
		t.Error(got, e, r.Left())
	}
}

func TestPutBytes(t *testing.T) {
	for _, r := range []struct {
		p    api.Packet
		want string
	}{
		{api.Packet{Kind: 1}, "01"},
		{api.Packet{Kind: 2}, "02"},
		{full(1, 5), "01"},
		{full(2, 5), "02"},
		{api.Packet{Kind: 3, Hops: 1}, "01 00 00 00 00 00 00"},
		{api.Packet{Kind: 3, Hops: 63, Key: api.Key{T: 127, From: 63, Seq: math.MaxUint32}}, "3F 7F 3F FF FF FF FF"},
		{api.Packet{Kind: 3, Hops: 9, Key: api.Key{T: 128, From: 62, Seq: 0x04030201}}, "09 80 01 3E 01 02 03 04"},
		{api.Packet{Kind: 3, Hops: 2, Key: api.Key{T: api.MaxTime, From: 1, Seq: 256}}, "02 80 80 80 80 80 80 80 80 10 01 00 01 00 00"},
		{api.Packet{Kind: 3, Hops: 2, Key: api.Key{T: -1}}, "02 FF FF FF FF FF FF FF FF FF 01 00 00 00 00 00"},
		{api.Packet{Kind: 3, Hops: 2, Key: api.Key{T: math.MinInt64}}, "02 80 80 80 80 80 80 80 80 80 01 00 00 00 00 00"},
		{api.Packet{Kind: 3, Hops: 0, Key: api.Key{From: 64}}, "00 00 40 00 00 00 00"},
		{api.Packet{Kind: 3, Hops: -1, Key: api.Key{From: -1}}, "FF 00 FF 00 00 00 00"},
		{api.Packet{Kind: 3, Hops: 64, Key: api.Key{From: 256 + 5}}, "40 00 05 00 00 00 00"},
		{api.Packet{Kind: 3, Hops: 1<<32 + 3, Key: api.Key{From: math.MaxInt}}, "03 00 FF 00 00 00 00"},
		{api.Packet{}, "00"},
		{api.Packet{Kind: 7, Hops: 1}, "07"},
		{api.Packet{Kind: -1, Hops: 1}, "FF"},
		{api.Packet{Kind: 256 + 4, Hops: 1}, "04"},
		{api.Packet{Kind: 1<<32 + 3, Hops: 1}, "03"},
		{api.Packet{Kind: math.MinInt, Hops: 1}, "00"},
	} {
		want := []string{r.want}
		last := r.p.Kind
		if r.p.Kind == 3 {
			want[0], last = "03 "+r.want, 6
		}
		for kind := r.p.Kind + 1; kind <= last && r.p.Kind == 3; kind++ {
			want = append(want, fmt.Sprintf("%02X ", kind)+r.want)
		}
		for i, w := range want {
			p := r.p
			p.Kind += i
			if got := fmt.Sprintf("% X", put(p)); got != w {
				t.Errorf("%v: %s, not %s", p, got, w)
			}
		}
	}
}

func TestPutOfAll(t *testing.T) {
	for _, kind := range kinds {
		for _, hops := range manyHops {
			for _, at := range times {
				for _, from := range froms {
					p := api.Packet{Kind: kind, Hops: hops, Key: api.Key{T: at, From: from, Seq: 0x04030201}}
					if got := put(p); !bytes.Equal(got, slowPut(p)) {
						t.Fatalf("%v: % X", p, got)
					}
				}
			}
		}
	}
	for _, seq := range seqs {
		p := api.Packet{Kind: 4, Hops: 1, Key: api.Key{Seq: seq}}
		if got := put(p); !bytes.Equal(got, slowPut(p)) {
			t.Errorf("%v: % X", p, got)
		}
	}
}

func TestPutStandsBehindWhatWasWritten(t *testing.T) {
	w := buf.New(100)
	w.Byte(9, 9)
	Put(w, full(1, 0))
	Put(w, full(4, 2))
	w.Byte(8)
	if b, e := w.Done(); e != api.OK || fmt.Sprintf("% X", b) != "09 09 01 04 02 AC 02 02 07 00 00 00 08" {
		t.Errorf("% X %v", b, e)
	}
}

func TestPutWhereNothingCanBeWritten(t *testing.T) {
	Put(nil, full(4, 2))
	Put(nil, api.Packet{})
	Put(new(buf.Writer), full(4, 2))
	for _, kind := range []int{0, 1, 2, 3, 4, 5, 6, 7} {
		whole := len(slowPut(full(kind, 2)))
		for most := -1; most <= whole; most++ {
			w := buf.New(most)
			Put(w, full(kind, 2))
			b, e := w.Done()
			if most < whole && (e != api.ErrLong || len(b) != 0) {
				t.Errorf("kind %d in %d bytes: % X %v", kind, most, b, e)
			}
			if most == whole && (e != api.OK || len(b) != whole) {
				t.Errorf("kind %d in %d bytes: % X %v", kind, most, b, e)
			}
		}
	}
	w := buf.New(100)
	w.Fixed(0, 9)
	Put(w, full(4, 2))
	if b, e := w.Done(); e != api.ErrArg || len(b) != 0 {
		t.Errorf("behind an error: % X %v", b, e)
	}
}

// wants holds an answer of Get, and where the reader stands behind it, against what it should be.
func wants(t *testing.T, name string, r *buf.Reader, want api.Packet, e api.Errno, left int) {
	t.Helper()
	got, ge := Get(r)
	if !isSame(got, want) || ge != e || r.Left() != left {
		t.Errorf("%s: %v, error %d, %d left, not %v, error %d, %d left", name, got, ge, r.Left(), want, e, left)
	}
}

func TestGetOfWhatPutWrote(t *testing.T) {
	for kind := 1; kind <= 6; kind++ {
		p := full(kind, 2)
		if kind < 3 {
			p.Hops, p.Key = 0, api.Key{}
		}
		r := buf.Read(append(put(p), 1, 2, 3))
		wants(t, Name(kind), r, only(p), api.OK, 3)
		if r.Byte() != 1 || r.Err() != api.OK {
			t.Errorf("%s: the reader doesn't stand behind it", Name(kind))
		}
	}
}

func TestGetTellsTheHeadAlone(t *testing.T) {
	for kind := 3; kind <= 6; kind++ {
		p, e := Get(buf.Read(put(full(kind, 2))))
		if e != api.OK || p.No != 0 || p.To != 0 || p.Index != 0 || p.Total != 0 || p.Stamp != 0 || p.Value != 0 || len(p.Body) != 0 {
			t.Error(p, e)
		}
		if p.Kind != kind || p.Hops != 2 || p.Key.T != 300 || p.Key.From != 2 || p.Key.Seq != 7 {
			t.Error(p)
		}
	}
}

func TestGetOfBytesCutShort(t *testing.T) {
	wants(t, "none", buf.Read(nil), api.Packet{}, api.ErrShort, 0)
	wants(t, "empty", buf.Read([]byte{}), api.Packet{}, api.ErrShort, 0)
	for kind := 3; kind <= 6; kind++ {
		for _, at := range []int64{0, 5, 300, api.MaxTime} {
			whole := put(api.Packet{Kind: kind, Hops: 63, Key: api.Key{T: at, From: 63, Seq: math.MaxUint32}})
			for n := range whole {
				wants(t, fmt.Sprintf("% X of % X", whole[:n], whole), buf.Read(whole[:n]), api.Packet{}, api.ErrShort, 0)
			}
		}
	}
}

func TestGetOfWhatIsWrong(t *testing.T) {
	behind := []byte{0xAA, 0xBB}
	for _, r := range []struct {
		hops byte
		t    uint64
		from byte
		e    api.Errno
		read int // how many of a head's parts are read
	}{
		{1, 5, 63, api.OK, 5},
		{63, api.MaxTime, 0, api.OK, 5},
		{0, 5, 1, api.ErrHops, 2},
		{64, 5, 1, api.ErrHops, 2},
		{65, 5, 1, api.ErrHops, 2},
		{128, 5, 1, api.ErrHops, 2},
		{255, 5, 1, api.ErrHops, 2},
		{1, api.MaxTime + 1, 1, api.ErrRange, 3},
		{1, 1 << 61, 1, api.ErrRange, 3},
		{1, 1 << 63, 1, api.ErrRange, 3},
		{1, math.MaxUint64, 1, api.ErrRange, 3},
		{1, 5, 64, api.ErrNode, 4},
		{1, 5, 65, api.ErrNode, 4},
		{1, 5, 128, api.ErrNode, 4},
		{1, 5, 255, api.ErrNode, 4},
		{0, api.MaxTime + 1, 1, api.ErrHops, 2},
		{64, 5, 64, api.ErrHops, 2},
		{64, api.MaxTime + 1, 64, api.ErrHops, 2},
		{1, api.MaxTime + 1, 64, api.ErrRange, 3},
		{63, api.MaxTime, 64, api.ErrNode, 4},
	} {
		for kind := byte(3); kind <= 6; kind++ {
			l := append(parts(kind, r.hops, r.t, r.from, 7), behind)
			want := api.Packet{}
			if r.e == api.OK {
				want = api.Packet{Kind: int(kind), Hops: int(r.hops), Key: api.Key{T: int64(r.t), From: int(r.from), Seq: 7}}
			}
			b, left := slices.Concat(l...), len(slices.Concat(l[r.read:]...))
			rd := buf.Read(b)
			wants(t, fmt.Sprintf("% X", b), rd, want, r.e, left)
			if rd.Err() != api.OK {
				t.Errorf("% X: the reader tells %d, though all could be read", b, rd.Err())
			}
			// What is wrong is told as soon as its part is there, whatever is missing behind it.
			if r.e != api.OK {
				wants(t, fmt.Sprintf("% X, cut", b), buf.Read(b[:len(b)-left]), api.Packet{}, r.e, 0)
			}
		}
	}
}

func TestGetOfKinds(t *testing.T) {
	for kind := range 256 {
		b := []byte{byte(kind), 0, 5, 64, 0, 0}
		switch {
		case kind >= 3 && kind <= 6:
			wants(t, Name(kind), buf.Read(b), api.Packet{}, api.ErrHops, 4)
			wants(t, Name(kind)+" alone", buf.Read(b[:1]), api.Packet{}, api.ErrShort, 0)
		case kind == 1 || kind == 2:
			wants(t, Name(kind), buf.Read(b), api.Packet{Kind: kind}, api.OK, 5)
			wants(t, Name(kind)+" alone", buf.Read(b[:1]), api.Packet{Kind: kind}, api.OK, 0)
		default:
			wants(t, fmt.Sprint("kind ", kind), buf.Read(b), api.Packet{}, api.ErrKind, 5)
			wants(t, fmt.Sprint("kind ", kind, " alone"), buf.Read(b[:1]), api.Packet{}, api.ErrKind, 0)
		}
	}
}

// T is read as any number in sevens is: what is wrong with its form comes ahead of what is wrong with its size.
func TestGetOfWrongForms(t *testing.T) {
	for _, r := range []struct {
		t string
		e api.Errno
	}{
		{"80 00", api.ErrForm},
		{"AC 82 00", api.ErrForm},
		{"FF FF FF FF FF FF FF FF FF 02", api.ErrForm},
		{"FF FF FF FF FF FF FF FF FF FF", api.ErrForm},
		{"FF FF FF FF FF FF FF FF FF FF 01", api.ErrForm},
		{"80", api.ErrShort},
		{"FF FF FF FF FF FF FF FF FF", api.ErrShort},
	} {
		b, err := hex.DecodeString(strings.ReplaceAll(r.t, " ", ""))
		if err != nil {
			t.Fatal(err)
		}
		b = append([]byte{5, 1}, b...)
		if r.e == api.ErrForm {
			b = append(b, 64, 1, 2, 3, 4)
		}
		wants(t, r.t, buf.Read(b), api.Packet{}, r.e, 0)
	}
}

func TestGetOfReadersThatFailed(t *testing.T) {
	if p, e := Get(nil); !isSame(p, api.Packet{}) || e != api.ErrArg {
		t.Error(p, e)
	}
	wants(t, "zero", new(buf.Reader), api.Packet{}, api.ErrShort, 0)
	r := buf.Read([]byte{1, 2, 3, 4, 5, 6, 7, 8, 9})
	r.Fixed(9)
	wants(t, "behind ErrArg", r, api.Packet{}, api.ErrArg, 0)
	r = buf.Read([]byte{5, 1})
	r.Bytes(4)
	wants(t, "behind ErrLong", r, api.Packet{}, api.ErrLong, 0)
}

// getSlow is P9.2's Get by the bytes, word by word. It takes a T of nine bytes at most: all that are longer are wrong.
func getSlow(b []byte) (api.Packet, api.Errno) {
	if len(b) < 1 {
		return api.Packet{}, api.ErrShort
	}
	p := api.Packet{Kind: int(b[0])}
	if p.Kind < 1 || p.Kind > 6 {
		return api.Packet{}, api.ErrKind
	}
	if p.Kind < 3 {
		return p, api.OK
	}
	if len(b) < 2 {
		return api.Packet{}, api.ErrShort
	}
	if p.Hops = int(b[1]); p.Hops < 1 || p.Hops > 63 {
		return api.Packet{}, api.ErrHops
	}
	b = b[2:]
	r := buf.Read(b)
	at := r.Num()
	if r.Err() != api.OK {
		return api.Packet{}, r.Err()
	}
	if at > 1<<60 {
		return api.Packet{}, api.ErrRange
	}
	p.Key.T = int64(at)
	b = b[len(b)-r.Left():]
	if len(b) < 1 {
		return api.Packet{}, api.ErrShort
	}
	if p.Key.From = int(b[0]); p.Key.From > 63 {
		return api.Packet{}, api.ErrNode
	}
	if len(b) < 5 {
		return api.Packet{}, api.ErrShort
	}
	for i := range 4 {
		p.Key.Seq += uint32(b[i+1]) << (8 * i)
	}
	return p, api.OK
}

func TestGetOfBytesByChance(t *testing.T) {
	next := chance(77)
	told := map[api.Errno]int{}
	for range 200000 {
		b := make([]byte, next()%16)
		for i := range b {
			b[i] = byte(next() >> 24)
			if next()%2 == 0 {
				b[i] %= 70
			}
			if i == 0 && next()%4 > 0 {
				b[i] = b[i]%6 + 1
			}
		}
		want, e := getSlow(b)
		told[e]++
		if got, ge := Get(buf.Read(b)); !isSame(got, want) || ge != e {
			t.Fatalf("% X: %v %d, not %v %d", b, got, ge, want, e)
		}
	}
	for _, e := range []api.Errno{api.OK, api.ErrShort, api.ErrForm, api.ErrKind, api.ErrHops, api.ErrNode} {
		if told[e] < 100 {
			t.Errorf("error %d came but %d times", e, told[e])
		}
	}
}

func TestGetLeavesTheBytes(t *testing.T) {
	b := []byte{4, 1, 0xAC, 2, 2, 7, 0, 0, 0, 9}
	was := bytes.Clone(b)
	Get(buf.Read(b))
	if !bytes.Equal(b, was) {
		t.Errorf("% X", b)
	}
}

// P9.3

func TestNext(t *testing.T) {
	for _, kind := range kinds {
		for _, hops := range manyHops {
			p := full(kind, hops)
			was := full(kind, hops)
			got, is := Next(p)
			want := api.Packet{}
			goes := slowFlood(kind) && hops >= 1 && hops < 63
			if goes {
				want = full(kind, hops+1)
			}
			if is != goes || !isSame(got, want) {
				t.Errorf("Next of %v: %v %v", p, got, is)
			}
			if !isSame(p, was) {
				t.Errorf("Next changed %v", p)
			}
		}
	}
}

func TestNextAsksOfNothingElse(t *testing.T) {
	for _, at := range times {
		for _, from := range froms {
			for _, seq := range seqs {
				p := full(4, 62)
				p.Key = api.Key{T: at, From: from, Seq: seq}
				p.No, p.To, p.Index, p.Total, p.Stamp, p.Value = at, from, from, from, at, at
				p.Body = nil
				want := p
				want.Hops = 63
				if got, is := Next(p); !is || !isSame(got, want) {
					t.Fatalf("Next of %v: %v %v", p, got, is)
				}
			}
		}
	}
}

func TestNextTillTheLastHop(t *testing.T) {
	for kind := 3; kind <= 6; kind++ {
		p, hops := full(kind, 1), 1
		for {
			q, is := Next(p)
			if !is {
				break
			}
			p = q
			hops++
		}
		if hops != 63 || p.Hops != 63 {
			t.Errorf("kind %d ends at %d", kind, p.Hops)
		}
	}
}

func TestNextHasABodyOfItsOwn(t *testing.T) {
	p := full(4, 1)
	room := append(make([]byte, 0, 9), p.Body...)
	p.Body = room
	q, _ := Next(p)
	p.Body[0] = 99
	if q.Body[0] != 17 {
		t.Error("what came in later is seen in what was told")
	}
	q.Body[1] = 98
	q.Body = append(q.Body, 97)
	if p.Body[1] != 18 || room[:4][3] != 0 {
		t.Error("what was told is seen in what came in")
	}
}

func TestSameOfOnePart(t *testing.T) {
	changes := []struct {
		name   string
		change func(*api.Packet)
	}{
		{"Kind", func(p *api.Packet) { p.Kind++ }},
		{"Kind, far", func(p *api.Packet) { p.Kind += 1 << 32 }},
		{"Hops", func(p *api.Packet) { p.Hops++ }},
		{"Hops, far", func(p *api.Packet) { p.Hops += 256 }},
		{"T", func(p *api.Packet) { p.Key.T++ }},
		{"T, far", func(p *api.Packet) { p.Key.T += 1 << 32 }},
		{"T, below", func(p *api.Packet) { p.Key.T = -p.Key.T }},
		{"From", func(p *api.Packet) { p.Key.From++ }},
		{"From, far", func(p *api.Packet) { p.Key.From += 256 }},
		{"Seq", func(p *api.Packet) { p.Key.Seq++ }},
		{"Seq, far", func(p *api.Packet) { p.Key.Seq += 1 << 31 }},
		{"No", func(p *api.Packet) { p.No++ }},
		{"No, far", func(p *api.Packet) { p.No += 1 << 32 }},
		{"To", func(p *api.Packet) { p.To++ }},
		{"To, far", func(p *api.Packet) { p.To += 1 << 32 }},
		{"Index", func(p *api.Packet) { p.Index++ }},
		{"Index, far", func(p *api.Packet) { p.Index += 1 << 32 }},
		{"Total", func(p *api.Packet) { p.Total++ }},
		{"Total, far", func(p *api.Packet) { p.Total += 1 << 32 }},
		{"Index and Total change places", func(p *api.Packet) { p.Index, p.Total = p.Total, p.Index }},
		{"Stamp", func(p *api.Packet) { p.Stamp++ }},
		{"Stamp, far", func(p *api.Packet) { p.Stamp += 1 << 32 }},
		{"Value", func(p *api.Packet) { p.Value++ }},
		{"Value, far", func(p *api.Packet) { p.Value += 1 << 32 }},
		{"Stamp and Value change places", func(p *api.Packet) { p.Stamp, p.Value = p.Value, p.Stamp }},
		{"the body's first byte", func(p *api.Packet) { p.Body[0]++ }},
		{"the body's last byte", func(p *api.Packet) { p.Body[2]++ }},
		{"a shorter body", func(p *api.Packet) { p.Body = p.Body[:2] }},
		{"a longer body", func(p *api.Packet) { p.Body = append(p.Body, 0) }},
		{"an empty body", func(p *api.Packet) { p.Body = []byte{} }},
		{"no body", func(p *api.Packet) { p.Body = nil }},
	}
	for kind := 0; kind <= 7; kind++ {
		for _, c := range changes {
			a, b := full(kind, 2), full(kind, 2)
			if !Same(a, b) {
				t.Fatalf("kind %d: twins are not the same", kind)
			}
			c.change(&b)
			if Same(a, b) || Same(b, a) {
				t.Errorf("kind %d: %s is not seen", kind, c.name)
			}
			c.change(&a)
			if !Same(a, b) || !Same(b, a) {
				t.Errorf("kind %d: %s: twins are not the same", kind, c.name)
			}
		}
	}
}

func TestSameOfBodies(t *testing.T) {
	bodies := [][]byte{nil, {}, make([]byte, 0, 8), {0}, {0, 0}, {1}, {0, 1}, {1, 0}, append(make([]byte, 0, 8), 1), bytes.Repeat([]byte{7}, 1024), bytes.Repeat([]byte{7}, 1025)}
	for _, x := range bodies {
		for _, y := range bodies {
			a, b := api.Packet{Kind: 4, Body: x}, api.Packet{Kind: 4, Body: y}
			if got, want := Same(a, b), string(x) == string(y); got != want {
				t.Errorf("bodies %v and %v: %v", x, y, got)
			}
		}
	}
	for i := range 1024 {
		x, y := make([]byte, 1024), make([]byte, 1024)
		y[i] = 1
		if Same(api.Packet{Body: x}, api.Packet{Body: y}) {
			t.Errorf("byte %d of a body is not seen", i)
		}
	}
	if !Same(api.Packet{}, api.Packet{}) || !Same(api.Packet{}, api.Packet{Body: []byte{}}) {
		t.Error("zero packets are not the same")
	}
}

func TestSameByChance(t *testing.T) {
	next := chance(5)
	few := func() int { return int(next() >> 20 % 2) }
	twins := 0
	for range 300000 {
		var l [2]api.Packet
		for i := range l {
			l[i] = api.Packet{
				Kind: few(), Hops: few(), Key: api.Key{T: int64(few()), From: few(), Seq: uint32(few())},
				No: int64(few()), To: few(), Index: few(), Total: few(), Stamp: int64(few()), Value: int64(few()), Body: make([]byte, few()),
			}
		}
		if next()%4 == 0 {
			l[1] = l[0]
		}
		want := isSame(l[0], l[1])
		if want {
			twins++
		}
		if Same(l[0], l[1]) != want {
			t.Fatal(l)
		}
	}
	if twins < 1000 {
		t.Error("too few twins", twins)
	}
}

// P9.4

// goodOnes calls with many packets whose head is good.
func goodOnes(with func(api.Packet)) {
	for kind := 1; kind <= 6; kind++ {
		if kind < 3 {
			with(api.Packet{Kind: kind})
			continue
		}
		for hops := 1; hops <= 63; hops++ {
			for from := 0; from <= 63; from++ {
				for _, at := range []int64{0, 1, 127, 128, 300, 1 << 32, api.MaxTime - 1, api.MaxTime} {
					with(api.Packet{Kind: kind, Hops: hops, Key: api.Key{T: at, From: from, Seq: seqs[(hops+from)%len(seqs)]}})
				}
			}
		}
	}
	next := chance(9)
	for range 100000 {
		p := api.Packet{Kind: 3 + int(next()%4), Hops: 1 + int(next()%63)}
		p.Key.T = int64(next() % (1 << (next() % 61)))
		p.Key.From = int(next() % 64)
		p.Key.Seq = uint32(next() >> (next() % 64))
		with(p)
	}
}

func TestWhatWasPutIsGot(t *testing.T) {
	n := 0
	goodOnes(func(p api.Packet) {
		n++
		r := buf.Read(put(p))
		got, e := Get(r)
		if !Good(p) || e != api.OK || r.End() != api.OK || !isSame(got, p) || !Same(got, p) || !Good(got) {
			t.Fatalf("%v: %v %d", p, got, e)
		}
	})
	if n < 200000 {
		t.Error("too few", n)
	}
}

// What is not good, but of a kind, is not got as it was put: Get refuses it, or tells another packet.
func TestWhatIsNotGoodIsNotGot(t *testing.T) {
	for _, hops := range manyHops {
		for _, at := range times {
			for _, from := range froms {
				p := api.Packet{Kind: 5, Hops: hops, Key: api.Key{T: at, From: from, Seq: 1}}
				got, e := Get(buf.Read(put(p)))
				if is := e == api.OK && isSame(got, p); is != Good(p) {
					t.Fatalf("%v: %v %d", p, got, e)
				}
			}
		}
	}
}

func ExamplePut() {
	w := buf.New(api.MaxFrame)
	Put(w, api.Packet{Kind: api.KBeacon, Hops: 1, Key: api.Key{T: 300, From: 2, Seq: 7}})
	b, e := w.Done()
	fmt.Printf("% X %d\n", b, e)
	p, e := Get(buf.Read(b))
	q, is := Next(p)
	fmt.Println(Name(p.Kind), p.Hops, p.Key, e, q.Hops, is, Same(p, q))
	// Output:
	// 03 01 AC 02 02 07 00 00 00 0
	// beacon 1 {300 2 7} 0 2 true false
}
