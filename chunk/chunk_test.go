package chunk

import (
	"bytes"
	"encoding/hex"
	"fmt"
	"math"
	"math/big"
	"slices"
	"strings"
	"testing"

	"angelus/api"
	"angelus/buf"
	"angelus/head"
)

// chance answers numbers of no rule, the same ones each time.
func chance(x uint64) func() uint64 {
	return func() uint64 {
		x ^= x << 13
		x ^= x >> 7
		x ^= x << 17
		return x
	}
}

// some are n bytes of no rule; none of them is 0, so that one that is missing is seen.
func some(n int) []byte {
	next := chance(uint64(n) + 9)
	b := make([]byte, n)
	for i := range b {
		b[i] = byte(next()>>20) | 1
	}
	return b
}

// roomy is a body with room behind it, where there are bytes of its own.
func roomy(n int) []byte { return some(n + 50)[:n] }

// goodNos and badNos are numbers that may be, and that may not.
var (
	goodNos = []int64{0, 1, 2, 63, 126, 127, 128, 129, 255, 256, 300, 1<<14 - 1, 1 << 14, 1<<32 - 1, 1 << 32, 1<<56 - 1, 1 << 56, api.MaxTime - 1, api.MaxTime}
	badNos  = []int64{math.MinInt64, math.MinInt64 + 1, -api.MaxTime - 1, -api.MaxTime, -1 << 32, -128, -2, -1, api.MaxTime + 1, api.MaxTime + 2, 1 << 61, 1 << 62, math.MaxInt64 - 1, math.MaxInt64}
)

// goodTos and badTos are nodes, and what is none.
var (
	goodTos = []int{0, 1, 2, 31, 32, 62, 63}
	badTos  = []int{math.MinInt, -1<<32 + 1, -256 + 1, -64, -63, -2, -1, 64, 65, 127, 128, 255, 256, 256 + 5, 1 << 32, 1<<32 + 1, math.MaxInt}
)

// place is which chunk of how many.
type place struct{ index, total int }

var goodPlaces = []place{
	{0, 1}, {0, 2}, {1, 2}, {0, 3}, {1, 3}, {2, 3}, {0, 127}, {126, 127}, {127, 128}, {63, 64}, {64, 65},
	{0, 254}, {253, 254}, {0, 255}, {1, 255}, {127, 255}, {128, 255}, {253, 255}, {254, 255},
}

// badPlaces have now and then an Index or a Total of which the lower bits could be one.
var badPlaces = []place{
	{-1, 1}, {-1, 2}, {-1, 255}, {-255, 1}, {-256, 1}, {math.MinInt, 1}, {math.MinInt, 255},
	{1, 1}, {2, 1}, {2, 2}, {3, 2}, {3, 3}, {64, 64}, {255, 255}, {256, 255}, {256, 1}, {257, 3}, {1 << 32, 1}, {math.MaxInt, 255},
	{0, 0}, {-1, 0}, {1, 0}, {-2, 0}, {255, 0}, {math.MinInt, 0}, {math.MaxInt, 0},
	{0, -1}, {-1, -1}, {-2, -1}, {-5, -3}, {0, -256 + 1}, {0, math.MinInt}, {math.MinInt, math.MinInt}, {math.MinInt, -1},
	{0, 256}, {1, 256}, {254, 256}, {255, 256}, {256, 256}, {-1, 256}, {0, 257}, {0, 256 + 3}, {300, 301}, {0, 1<<32 + 1},
	{0, math.MaxInt}, {math.MaxInt - 1, math.MaxInt}, {math.MaxInt, math.MaxInt},
}

var goodKeys = []api.Key{
	{}, {T: 9, From: 1}, {T: 300, From: 2, Seq: 7}, {T: 1}, {From: 1}, {Seq: 1}, {From: 63}, {Seq: math.MaxUint32},
	{T: 1 << 32, From: 31, Seq: 1 << 31}, {T: api.MaxTime - 1}, {T: api.MaxTime, From: 63, Seq: math.MaxUint32},
}

var badKeys = []api.Key{
	{T: -1}, {T: -9, From: 1}, {T: math.MinInt64}, {T: api.MaxTime + 1}, {T: 1 << 61}, {T: math.MaxInt64, From: 3},
	{From: -1}, {From: -63}, {From: 64}, {From: 65, T: 9}, {From: 256}, {From: 1<<32 + 1}, {From: math.MinInt}, {From: math.MaxInt},
	{T: -1, From: 64}, {T: api.MaxTime + 1, From: -1, Seq: math.MaxUint32},
}

// lengths are those of bodies that may be, longer those of bodies that may not.
var (
	lengths = []int{0, 1, 2, 3, 31, 32, 62, 63, 64}
	longer  = []int{65, 66, 127, 128, 129, 255, 256, 256 + 1, 256 + 64, 1024, 1025, 1<<14 - 1, 1 << 14, 1<<16 + 5}
)

// otherKinds are those that are none of this layer's: the five others, none, and numbers of which only the lower bits look like it.
var otherKinds = []int{
	math.MinInt, -1<<32 + 6, -256 + 6, -6, -1, 0, 1, 2, 3, 4, 5, 7, 8, 14, 22, 38, 64 + 6, 128 + 6, 255, 256, 256 + 6, 1<<16 + 6, 1<<32 + 6, math.MaxInt,
}

// notZero are numbers that are none, of which some are 0 if but their lower bits are asked.
var notZero = []int64{1, -1, 2, 6, 63, 64, 255, 256, 1 << 16, 1 << 31, 1 << 32, 1<<40 + 1, 1 << 60, math.MinInt64, math.MaxInt64}

// text is a packet's each part: it asks nothing of the package, nor of those below it.
func text(p api.Packet) string {
	return fmt.Sprintf("kind %d key %d.%d.%d hops %d no %d to %d index %d total %d stamp %d value %d body %x",
		p.Kind, p.Key.T, p.Key.From, p.Key.Seq, p.Hops, p.No, p.To, p.Index, p.Total, p.Stamp, p.Value, p.Body)
}

// brief is a text that can be read in a message.
func brief(s string) string {
	if len(s) > 400 {
		return s[:400] + ".."
	}
	return s
}

func samePacket(t *testing.T, name string, got, want api.Packet) {
	t.Helper()
	if g, w := text(got), text(want); g != w {
		t.Errorf("%s: %s, not %s", name, brief(g), brief(w))
	}
}

// full is a packet in which nothing is 0.
func full(kind int) api.Packet {
	return api.Packet{
		Kind: kind, Hops: 10, Key: api.Key{T: 300, From: 2, Seq: 7},
		No: 11, To: 12, Index: 13, Total: 14, Stamp: 15, Value: 16, Body: []byte{17, 18, 19},
	}
}

// plain is a good chunk, in which nothing is 0 that may be another number.
func plain() api.Packet {
	return api.Packet{
		Kind: 6, Hops: 3, Key: api.Key{T: 300, From: 2, Seq: 7},
		No: 11, To: 12, Index: 13, Total: 14, Body: []byte("state"),
	}
}

// behind is a chunk with these things behind its head.
func behind(no int64, to int, at place, body []byte) api.Packet {
	p := plain()
	p.No, p.To, p.Index, p.Total, p.Body = no, to, at.index, at.total, body
	return p
}

// with is a packet with what stands behind another one's head.
func with(p, q api.Packet) api.Packet {
	p.No, p.To, p.Index, p.Total, p.Body = q.No, q.To, q.Index, q.Total, q.Body
	return p
}

// within is whether x is one of lo to hi.
func within(x, lo, hi int64) bool { return lo <= x && x <= hi }

// slowGood is P13.1's Good, word by word, with what 9 and 6 ask of a head.
func slowGood(p api.Packet) bool {
	switch {
	case p.Kind != 6:
		return false
	case !within(int64(p.Hops), 1, 63):
		return false
	case !within(p.Key.T, 0, 1<<60):
		return false
	case !within(int64(p.Key.From), 0, 63):
		return false
	case !within(p.No, 0, 1<<60):
		return false
	case !within(int64(p.To), 0, 63):
		return false
	case !within(int64(p.Total), 1, 255):
		return false
	case !within(int64(p.Index), 0, int64(p.Total)-1):
		return false
	case len(p.Body) > 64:
		return false
	}
	return p.Stamp == 0 && p.Value == 0
}

// sevens is a number modulo 2^64 in sevens of bits, in each byte but the last one 128 more.
func sevens(x int64) []byte {
	left, low := big.NewInt(x), new(big.Int)
	left.Mod(left, new(big.Int).Lsh(big.NewInt(1), 64))
	var b []byte
	for left.Cmp(big.NewInt(127)) > 0 {
		left.DivMod(left, big.NewInt(128), low)
		b = append(b, byte(low.Int64())+128)
	}
	return append(b, byte(left.Int64()))
}

// lowest is a number's lowest byte.
func lowest(x int) byte {
	return byte(new(big.Int).Mod(big.NewInt(int64(x)), big.NewInt(256)).Int64())
}

// slowPut are the bytes that stand behind a packet's head, word by word.
func slowPut(p api.Packet) []byte {
	three := []byte{lowest(p.To), lowest(p.Index), lowest(p.Total)}
	return slices.Concat(sevens(p.No), three, sevens(int64(len(p.Body))), p.Body)
}

// put is what Put writes, with room for any packet of these tests.
func put(p api.Packet) []byte {
	w := buf.New(1 << 20)
	Put(w, p)
	b, e := w.Done()
	if e != api.OK {
		panic(e)
	}
	return b
}

// unhex reads bytes told by their digits; blanks are for the eye.
func unhex(s string) []byte {
	b, err := hex.DecodeString(strings.ReplaceAll(s, " ", ""))
	if err != nil {
		panic(err)
	}
	return b
}

// The chapter's example, behind its head and behind nothing.
func TestExample(t *testing.T) {
	k := api.Key{T: 9, From: 1, Seq: 0}
	p := New(k, 2, 3, 0, 1, []byte("ab"))
	samePacket(t, "New", p, api.Packet{Kind: 6, Hops: 1, Key: k, No: 2, To: 3, Index: 0, Total: 1, Body: []byte("ab")})
	if got := fmt.Sprintf("% x", put(p)); got != "02 03 00 01 02 61 62" {
		t.Errorf("written %s", got)
	}
	w := buf.New(api.MaxFrame)
	head.Put(w, p)
	Put(w, p)
	if b, e := w.Done(); e != api.OK || fmt.Sprintf("% x", b) != "06 01 09 01 00 00 00 00 02 03 00 01 02 61 62" {
		t.Errorf("written with its head % x, error %d", b, e)
	}
	if Most != 64 {
		t.Errorf("Most is %d", Most)
	}
}

// P13.1

// New asks nothing of a key: each key with each number, To and place that may be and that may not, and some bodies.
func TestNew(t *testing.T) {
	bodies := [][]byte{nil, {}, {0}, []byte("ab"), some(64), some(65)}
	for _, k := range slices.Concat(goodKeys, badKeys) {
		for i, no := range slices.Concat(goodNos, badNos) {
			for j, to := range slices.Concat(goodTos, badTos) {
				for n, at := range slices.Concat(goodPlaces, badPlaces) {
					body := bodies[(i+j+n)%len(bodies)]
					p := New(k, no, to, at.index, at.total, body)
					if p.Kind != api.KChunk || p.Hops != 1 || p.Key != k || p.No != no || p.To != to || p.Index != at.index || p.Total != at.total ||
						p.Stamp != 0 || p.Value != 0 || !bytes.Equal(p.Body, body) {
						t.Fatalf("New(%v, %d, %d, %v, %d bytes): %s", k, no, to, at, len(body), text(p))
					}
				}
			}
		}
	}
}

func TestNewOfBodies(t *testing.T) {
	bodies := [][]byte{nil, {}, {0}, {0, 0, 0}}
	for _, n := range slices.Concat(lengths, longer) {
		bodies = append(bodies, some(n))
	}
	for _, body := range bodies {
		for _, k := range []api.Key{{T: 9, From: 1}, {T: -1, From: 64}} {
			p := New(k, 11, 12, 13, 14, body)
			samePacket(t, "New", p, api.Packet{Kind: 6, Hops: 1, Key: k, No: 11, To: 12, Index: 13, Total: 14, Body: body})
		}
	}
}

// What New makes is good, if all that it was made of may be; each thing that may not be alone makes it not good.
func TestNewIsGoodByWhatItIsMadeOf(t *testing.T) {
	good := func(k api.Key, no int64, to int, at place, n int, want bool) {
		t.Helper()
		if got := Good(New(k, no, to, at.index, at.total, some(n))); got != want {
			t.Errorf("Good of New(%v, %d, %d, %v, %d bytes) is %v", k, no, to, at, n, got)
		}
	}
	k, at := goodKeys[1], place{1, 2}
	for _, x := range goodKeys {
		good(x, 2, 3, at, 4, true)
	}
	for _, x := range badKeys {
		good(x, 2, 3, at, 4, false)
	}
	for _, x := range goodNos {
		good(k, x, 3, at, 4, true)
	}
	for _, x := range badNos {
		good(k, x, 3, at, 4, false)
	}
	for _, x := range goodTos {
		good(k, 2, x, at, 4, true)
	}
	for _, x := range badTos {
		good(k, 2, x, at, 4, false)
	}
	for _, x := range goodPlaces {
		good(k, 2, 3, x, 4, true)
	}
	for _, x := range badPlaces {
		good(k, 2, 3, x, 4, false)
	}
	for _, x := range lengths {
		good(k, 2, 3, at, x, true)
	}
	for _, x := range longer {
		good(k, 2, 3, at, x, false)
	}
}

// apart tells what is wrong, if the one body is seen in the other one, or in the memory behind it. Both are changed.
func apart(in, out []byte) string {
	was := bytes.Clone(out)
	all := in[:cap(in)]
	for i := range all {
		all[i] ^= 0xFF
	}
	if !bytes.Equal(out, was) {
		return "what came in later is seen in what was told"
	}
	before := bytes.Clone(all)
	for i := range out[:cap(out)] {
		out[:cap(out)][i] = 0xAB
	}
	_ = append(out, 0xCD, 0xCD, 0xCD)
	if !bytes.Equal(all, before) {
		return "what was told is seen in what came in"
	}
	return ""
}

func TestNewHasABodyOfItsOwn(t *testing.T) {
	for _, n := range slices.Concat(lengths, longer) {
		for _, in := range [][]byte{some(n), roomy(n)} {
			was := bytes.Clone(in[:cap(in)])
			p, q := New(goodKeys[1], 1, 2, 0, 1, in), New(goodKeys[2], 1, 2, 0, 1, in)
			if !bytes.Equal(p.Body, in) || !bytes.Equal(in[:cap(in)], was) {
				t.Fatalf("%d bytes: another body, or what came in is changed", n)
			}
			if wrong := apart(in, p.Body); wrong != "" {
				t.Errorf("%d bytes of %d: %s", n, cap(in), wrong)
			}
			if !bytes.Equal(q.Body, was[:n]) {
				t.Errorf("%d bytes of %d: two packets share", n, cap(in))
			}
		}
	}
}

func TestGoodOfKinds(t *testing.T) {
	kinds := slices.Clone(otherKinds)
	for kind := -20; kind <= 1100; kind++ {
		kinds = append(kinds, kind)
	}
	bare := plain()
	bare.Hops, bare.Key = 0, api.Key{} // Of a probe and an echo such a head is good.
	for _, kind := range kinds {
		for _, p := range []api.Packet{{}, {Hops: 1}, {Total: 1}, {Hops: 1, Total: 1}, plain(), full(0), bare} {
			p.Kind = kind
			want := kind == api.KChunk && slowGood(p)
			if got := Good(p); got != want {
				t.Errorf("Good of %s is %v", text(p), got)
			}
		}
	}
	if Good(api.Packet{}) || Good(full(6)) || !Good(plain()) || !Good(api.Packet{Kind: 6, Hops: 1, Total: 1}) {
		t.Error("nothing and all are not good, a chunk is")
	}
}

func TestGoodOfHopsAndKeys(t *testing.T) {
	for _, hops := range []int{math.MinInt, -256 + 1, -63, -1, 0, 1, 2, 31, 62, 63, 64, 65, 127, 255, 256, 257, 1<<32 + 1, math.MaxInt} {
		for _, k := range slices.Concat(goodKeys, badKeys) {
			p := plain()
			p.Hops, p.Key = hops, k
			if got := Good(p); got != (hops >= 1 && hops <= 63 && slices.Contains(goodKeys, k)) {
				t.Errorf("Good of %s is %v", text(p), got)
			}
		}
	}
}

func TestGoodOfEachPart(t *testing.T) {
	for no := int64(-300); no <= 300; no++ {
		if got := Good(behind(no, 0, place{0, 1}, nil)); got != (no >= 0) {
			t.Errorf("Good of No %d is %v", no, got)
		}
	}
	for no := int64(api.MaxTime - 300); no <= api.MaxTime+300; no++ {
		if got := Good(behind(no, 0, place{0, 1}, nil)); got != (no <= api.MaxTime) {
			t.Errorf("Good of No %d is %v", no, got)
		}
	}
	for to := -600; to <= 600; to++ {
		if got := Good(behind(3, to, place{0, 1}, nil)); got != (to >= 0 && to <= 63) {
			t.Errorf("Good of To %d is %v", to, got)
		}
	}
	for n := range 700 {
		if got := Good(behind(3, 0, place{0, 1}, some(n))); got != (n <= 64) {
			t.Errorf("Good of %d bytes is %v", n, got)
		}
	}
	for _, n := range longer {
		if Good(behind(3, 0, place{0, 1}, some(n))) {
			t.Errorf("%d bytes are good", n)
		}
	}
	// What lies behind a body is none of it.
	for _, body := range [][]byte{nil, {}, make([]byte, 64), some(5000)[:64], some(5000)[:0]} {
		if !Good(behind(3, 0, place{0, 1}, body)) {
			t.Errorf("%d bytes of %d are not good", len(body), cap(body))
		}
	}
}

// All pairs of Index and Total that go into a byte, and some more about them.
func TestGoodOfPlaces(t *testing.T) {
	good := 0
	for total := -300; total <= 600; total++ {
		for index := -300; index <= 600; index++ {
			want := total >= 1 && total <= 255 && index >= 0 && index < total
			if got := Good(behind(3, 5, place{index, total}, nil)); got != want {
				t.Fatalf("Good of Index %d, Total %d is %v", index, total, got)
			}
			if want {
				good++
			}
		}
	}
	if want := 255 * 256 / 2; good != want {
		t.Errorf("%d of them are good, not %d", good, want)
	}
	for _, at := range badPlaces {
		if Good(behind(3, 5, at, nil)) {
			t.Errorf("Index %d, Total %d is good", at.index, at.total)
		}
	}
	for _, at := range goodPlaces {
		if !Good(behind(3, 5, at, nil)) {
			t.Errorf("Index %d, Total %d is not good", at.index, at.total)
		}
	}
}

func TestGoodOfStampAndValue(t *testing.T) {
	for _, p := range []api.Packet{plain(), {Kind: 6, Hops: 1, Total: 1}} {
		for _, x := range notZero {
			s, v, both, sum := p, p, p, p
			s.Stamp = x
			v.Value = x
			both.Stamp, both.Value = x, x
			sum.Stamp, sum.Value = x, -x // They would make one another out, were they added up.
			if Good(s) || Good(v) || Good(both) || Good(sum) {
				t.Errorf("with a Stamp or a Value of %d it is good: %v, %v, %v, %v", x, Good(s), Good(v), Good(both), Good(sum))
			}
		}
		if !Good(p) {
			t.Errorf("without it is not good: %s", text(p))
		}
	}
}

// Parts that are each at its edge or near it, all with all, against the promise word by word.
func TestGoodOfAll(t *testing.T) {
	good := 0
	for _, kind := range []int{0, 1, 5, 6, 7, 256 + 6} {
		for _, hops := range []int{0, 1, 63, 64} {
			for _, k := range []api.Key{{}, {T: 1 << 60, From: 63, Seq: 9}, {T: -1}, {T: 1<<60 + 1}, {From: -1}, {From: 64}} {
				for _, no := range []int64{-1, 0, 1 << 60, 1<<60 + 1} {
					for _, to := range []int{-1, 0, 63, 64} {
						for _, at := range []place{{-1, 1}, {0, 0}, {0, 1}, {1, 1}, {0, 255}, {254, 255}, {255, 255}, {0, 256}, {255, 256}} {
							for _, n := range []int{0, 1, 64, 65} {
								for _, x := range []int64{0, 1, 2} {
									p := api.Packet{Kind: kind, Hops: hops, Key: k, No: no, To: to, Index: at.index, Total: at.total, Body: make([]byte, n), Stamp: x % 2, Value: x / 2}
									want := slowGood(p)
									if got := Good(p); got != want {
										t.Fatalf("Good of %s is %v", text(p), got)
									}
									if want {
										good++
									}
								}
							}
						}
					}
				}
			}
		}
	}
	if want := 2 * 2 * 2 * 2 * 3 * 3; good != want {
		t.Errorf("%d of them are good, not %d", good, want)
	}
}

// P13.2

func TestPutBytes(t *testing.T) {
	for _, r := range []struct {
		no   int64
		to   int
		at   place
		body []byte
		want string
	}{
		{0, 0, place{0, 1}, nil, "00 00 00 01 00"},
		{0, 0, place{0, 1}, []byte{}, "00 00 00 01 00"},
		{1, 63, place{254, 255}, []byte{0}, "01 3f fe ff 01 00"},
		{127, 5, place{6, 7}, []byte("ab"), "7f 05 06 07 02 61 62"},
		{128, 5, place{6, 7}, []byte("ab"), "80 01 05 06 07 02 61 62"},
		{300, 1, place{2, 3}, nil, "ac 02 01 02 03 00"},
		{api.MaxTime - 1, 1, place{2, 3}, nil, "ff ff ff ff ff ff ff ff 0f 01 02 03 00"},
		{api.MaxTime, 1, place{2, 3}, nil, "80 80 80 80 80 80 80 80 10 01 02 03 00"},
		{api.MaxTime + 1, 1, place{2, 3}, nil, "81 80 80 80 80 80 80 80 10 01 02 03 00"},
		{math.MaxInt64, 1, place{2, 3}, nil, "ff ff ff ff ff ff ff ff 7f 01 02 03 00"},
		{-1, 1, place{2, 3}, nil, "ff ff ff ff ff ff ff ff ff 01 01 02 03 00"},
		{math.MinInt64, 1, place{2, 3}, nil, "80 80 80 80 80 80 80 80 80 01 01 02 03 00"},
		{4, 64, place{128, 200}, nil, "04 40 80 c8 00"},
		{4, 255, place{255, 255}, nil, "04 ff ff ff 00"},
		{4, 256, place{257, 258}, nil, "04 00 01 02 00"},
		{4, 300, place{1 << 20, 1<<32 + 9}, nil, "04 2c 00 09 00"},
		{4, -1, place{-2, -3}, nil, "04 ff fe fd 00"},
		{4, math.MinInt, place{math.MaxInt, math.MinInt + 7}, nil, "04 00 ff 07 00"},
		{0, 0, place{0, 0}, nil, "00 00 00 00 00"},
		{4, 1, place{2, 3}, make([]byte, 3), "04 01 02 03 03 00 00 00"},
	} {
		if got := put(behind(r.no, r.to, r.at, r.body)); !bytes.Equal(got, unhex(r.want)) {
			t.Errorf("No %d, To %d, %v, %x: % x, not %s", r.no, r.to, r.at, r.body, got, r.want)
		}
	}
}

// Bodies of all lengths are written whole: whether they are too long is not asked.
func TestPutBodies(t *testing.T) {
	for _, r := range []struct {
		n    int
		want string // the length alone
	}{
		{0, "00"}, {1, "01"}, {63, "3f"}, {64, "40"}, {65, "41"}, {127, "7f"}, {128, "8001"}, {255, "ff01"}, {1024, "8008"}, {1 << 14, "808001"},
	} {
		got := put(behind(4, 1, place{2, 3}, some(r.n)))
		if want := slices.Concat([]byte{4, 1, 2, 3}, unhex(r.want), some(r.n)); !bytes.Equal(got, want) {
			t.Errorf("%d bytes: %s", r.n, brief(hex.EncodeToString(got)))
		}
	}
}

func TestPutOfAll(t *testing.T) {
	for i, no := range slices.Concat(goodNos, badNos) {
		for j, to := range slices.Concat(goodTos, badTos) {
			for k, at := range slices.Concat(goodPlaces, badPlaces) {
				p := behind(no, to, at, some((i+j+k)%70))
				if got := put(p); !bytes.Equal(got, slowPut(p)) {
					t.Fatalf("%s: % x", text(p), got)
				}
			}
		}
	}
}

// Put asks nothing of a packet's head, nor of what else it has.
func TestPutAsksOfNothingElse(t *testing.T) {
	want := slowPut(full(6))
	for _, kind := range append([]int{6}, otherKinds...) {
		p := full(kind)
		if got := put(p); !bytes.Equal(got, want) {
			t.Errorf("kind %d: % x, not % x", kind, got, want)
		}
		for _, k := range badKeys {
			p.Hops, p.Key, p.Stamp, p.Value = 64, k, -1, 0
			if got := put(p); !bytes.Equal(got, want) {
				t.Errorf("kind %d, key %v: % x, not % x", kind, k, got, want)
			}
		}
	}
}

func TestPutStandsBehindWhatWasWritten(t *testing.T) {
	w := buf.New(100)
	w.Byte(9)
	Put(w, New(api.Key{T: 300, From: 2, Seq: 7}, 128, 5, 6, 7, []byte("ab")))
	Put(w, New(api.Key{}, 3, 0, 0, 1, nil))
	w.Byte(8)
	if b, e := w.Done(); e != api.OK || fmt.Sprintf("% x", b) != "09 80 01 05 06 07 02 61 62 03 00 00 01 00 08" {
		t.Errorf("% x, error %d", b, e)
	}
}

func TestPutWhereNothingCanBeWritten(t *testing.T) {
	for _, p := range []api.Packet{{}, plain(), full(6), behind(128, 5, place{6, 7}, some(64)), behind(-1, 300, place{-1, 0}, some(200))} {
		Put(nil, p)
		whole := slowPut(p)
		for most := -1; most <= len(whole)+1; most++ {
			w := buf.New(most)
			Put(w, p)
			b, e := w.Done()
			if most < len(whole) && (e != api.ErrLong || len(b) != 0) {
				t.Errorf("%s in %d bytes: %x, error %d", text(p), most, b, e)
			}
			if most >= len(whole) && (e != api.OK || !bytes.Equal(b, whole)) {
				t.Errorf("%s in %d bytes: %x, error %d", text(p), most, b, e)
			}
		}
		filled := buf.New(3)
		filled.Byte(1, 2, 3)
		Put(filled, p)
		if b, e := filled.Done(); e != api.ErrLong || len(b) != 0 {
			t.Errorf("%s, a full writer: %x, error %d", text(p), b, e)
		}
		failed := buf.New(1000)
		failed.Fixed(0, 9)
		Put(failed, p)
		if b, e := failed.Done(); e != api.ErrArg || len(b) != 0 {
			t.Errorf("%s behind an error: %x, error %d", text(p), b, e)
		}
		zero := new(buf.Writer)
		Put(zero, p)
		if b, e := zero.Done(); e != api.ErrLong || len(b) != 0 {
			t.Errorf("%s, a zero writer: %x, error %d", text(p), b, e)
		}
	}
}

func TestCallsLeaveThePacket(t *testing.T) {
	for _, n := range lengths {
		for _, p := range []api.Packet{plain(), full(6), full(4)} {
			body := roomy(n)
			all := body[:cap(body)]
			was := bytes.Clone(all)
			p.Body = body
			told := text(p)
			Good(p)
			Put(buf.New(1000), p)
			Mate(p, p)
			Get(buf.Read(slowPut(plain())), p)
			if !bytes.Equal(all, was) || text(p) != told {
				t.Fatalf("with %d bytes the packet is changed: %s", n, text(p))
			}
		}
	}
}

// What Put wrote is not changed by what becomes of the body.
func TestPutKeepsNothing(t *testing.T) {
	p := plain()
	want := slowPut(p)
	w := buf.New(100)
	Put(w, p)
	for i := range p.Body {
		p.Body[i] ^= 0xFF
	}
	if b, e := w.Done(); e != api.OK || !bytes.Equal(b, want) {
		t.Errorf("% x, error %d", b, e)
	}
}

// wants holds an answer of Get, and where the reader stands behind it, against what it should be.
func wants(t *testing.T, name string, r *buf.Reader, p, want api.Packet, e api.Errno, left int) {
	t.Helper()
	got, ge := Get(r, p)
	if g, w := text(got), text(want); g != w || ge != e || r.Left() != left {
		t.Errorf("%s: %s, error %d, %d left, not %s, error %d, %d left", brief(name), brief(g), ge, r.Left(), brief(w), e, left)
	}
}

// given are packets that Get may be given; it asks nothing of them, not even their kind.
func given() []api.Packet {
	bad := full(6)
	bad.Hops, bad.Key, bad.No, bad.To, bad.Index, bad.Total, bad.Body = 64, api.Key{T: -1, From: 64}, -1, 64, 3, 3, make([]byte, 2000)
	l := []api.Packet{{Kind: api.KChunk}, plain(), bad}
	for kind := -1; kind <= 8; kind++ {
		l = append(l, full(kind))
	}
	return l
}

// goods are packets with all numbers that may be behind a head, each part's with some of the other parts'.
func goods() []api.Packet {
	var l []api.Packet
	for i, no := range goodNos {
		for j, at := range goodPlaces {
			l = append(l, behind(no, goodTos[(i+j)%len(goodTos)], at, some(lengths[(i+2*j)%len(lengths)])))
		}
	}
	for to := range 64 {
		l = append(l, behind(3, to, place{to, 64}, nil))
	}
	for n := range 65 {
		l = append(l, behind(3, 5, place{0, 1}, some(n)), behind(3, 5, place{0, 1}, make([]byte, n)))
	}
	return l
}

// Get tells the packet that it was given, with what was read and with nothing else changed.
func TestGetOfWhatPutWrote(t *testing.T) {
	for _, q := range goods() {
		b := put(q)
		for _, p := range given() {
			r := buf.Read(b)
			wants(t, text(q), r, p, with(p, q), api.OK, 0)
			if r.End() != api.OK {
				t.Errorf("%s: not all is read", text(q))
			}
			r = buf.Read(slices.Concat(b, []byte{0xAA, 2, 3}))
			wants(t, text(q)+" with more behind it", r, p, with(p, q), api.OK, 3)
			if r.Byte() != 0xAA || r.Err() != api.OK {
				t.Errorf("%s: the reader doesn't stand behind it", text(q))
			}
		}
		if t.Failed() {
			t.FailNow()
		}
	}
}

// All pairs of an Index and a Total: with one that may not be what is behind them is not read.
func TestGetOfPlaces(t *testing.T) {
	for total := range 256 {
		for index := range 256 {
			r := buf.Read([]byte{7, 63, byte(index), byte(total), 2, 97, 98, 1})
			if index < total {
				wants(t, fmt.Sprint(index, " of ", total), r, plain(), behind(7, 63, place{index, total}, []byte("ab")), api.OK, 1)
			} else {
				wants(t, fmt.Sprint(index, " of ", total), r, plain(), api.Packet{}, api.ErrForm, 4)
			}
		}
	}
}

func TestGetOneBehindAnother(t *testing.T) {
	var b []byte
	for _, q := range goods() {
		b = append(b, slowPut(q)...)
	}
	r, left := buf.Read(b), len(b)
	for _, q := range goods() {
		left -= len(slowPut(q))
		wants(t, text(q), r, full(6), with(full(6), q), api.OK, left)
	}
	wants(t, "behind all", r, full(6), api.Packet{}, api.ErrShort, 0)
}

func TestGetOfBytesCutShort(t *testing.T) {
	for _, q := range goods() {
		whole := slowPut(q)
		for i := range whole {
			wants(t, fmt.Sprintf("%d of %x", i, whole), buf.Read(whole[:i]), full(6), api.Packet{}, api.ErrShort, 0)
		}
	}
	for _, p := range given() {
		wants(t, "none", buf.Read(nil), p, api.Packet{}, api.ErrShort, 0)
		wants(t, "empty", buf.Read([]byte{}), p, api.Packet{}, api.ErrShort, 0)
		wants(t, "a part", buf.Read([]byte{1, 2, 3}), p, api.Packet{}, api.ErrShort, 0)
	}
}

// wrong is what may be wrong with bytes: the bytes, the error, and how many of more that lie behind are left.
type wrong struct {
	b    string
	e    api.Errno
	left int // Without what lies behind; -1 if nothing is left whatever lies behind.
}

// wrongs are bytes with one thing wrong, and with several: the one that is met first is told, and nothing behind it is read.
var wrongs = []wrong{
	// A number has one form alone.
	{"80 00 01 02 03 00", api.ErrForm, -1},
	{"ff 00 01 02 03 00", api.ErrForm, -1},
	{"82 80 00 01 02 03 00", api.ErrForm, -1},
	{"80 80 80 80 80 80 80 80 80 00 01 02 03 00", api.ErrForm, -1},
	{"80 80 80 80 80 80 80 80 80 02 01 02 03 00", api.ErrForm, -1},
	{"ff ff ff ff ff ff ff ff ff 7f 01 02 03 00", api.ErrForm, -1},
	{"ff ff ff ff ff ff ff ff ff ff 01 01 02 03 00", api.ErrForm, -1},
	{"80 80 80 80 80 80 80 80 80 80 80 80 80 80 80", api.ErrForm, -1},
	// So has a length.
	{"04 01 02 03 80 00", api.ErrForm, -1},
	{"04 01 02 03 82 00 61 62", api.ErrForm, -1},
	{"04 01 02 03 c1 00 61 62", api.ErrForm, -1},
	{"04 01 02 03 80 80 80 80 80 80 80 80 80 02", api.ErrForm, -1},
	{"04 01 02 03 ff ff ff ff ff ff ff ff ff ff 01", api.ErrForm, -1},
	// No above MaxTime.
	{"81 80 80 80 80 80 80 80 10 01 02 03 00", api.ErrRange, 4},
	{"80 80 80 80 80 80 80 80 20 01 02 03 00", api.ErrRange, 4},
	{"ff ff ff ff ff ff ff ff 7f 01 02 03 00", api.ErrRange, 4},
	{"80 80 80 80 80 80 80 80 80 01 01 02 03 00", api.ErrRange, 4},
	{"ff ff ff ff ff ff ff ff ff 01 01 02 03 00", api.ErrRange, 4},
	// To above 63.
	{"04 40 02 03 00", api.ErrNode, 3},
	{"04 41 02 03 00", api.ErrNode, 3},
	{"04 80 02 03 00", api.ErrNode, 3},
	{"04 c0 02 03 00", api.ErrNode, 3},
	{"04 ff 02 03 00", api.ErrNode, 3},
	// Total 0, and an Index that is not below Total.
	{"04 01 00 00 00", api.ErrForm, 1},
	{"04 01 01 00 00", api.ErrForm, 1},
	{"04 01 ff 00 00", api.ErrForm, 1},
	{"04 01 01 01 00", api.ErrForm, 1},
	{"04 01 03 03 00", api.ErrForm, 1},
	{"04 01 04 03 00", api.ErrForm, 1},
	{"04 01 ff ff 00", api.ErrForm, 1},
	{"04 01 ff fe 00", api.ErrForm, 1},
	{"04 01 80 7f 00", api.ErrForm, 1},
	// Longer bodies, of which nothing need be there.
	{"04 01 02 03 41", api.ErrLong, -1},
	{"04 01 02 03 42 61 62", api.ErrLong, -1},
	{"04 01 02 03 7f", api.ErrLong, -1},
	{"04 01 02 03 80 01", api.ErrLong, -1},
	{"04 01 02 03 c0 02", api.ErrLong, -1},
	{"04 01 02 03 80 08", api.ErrLong, -1},
	{"04 01 02 03 80 80 80 80 10", api.ErrLong, -1},
	{"04 01 02 03 82 80 80 80 80 80 80 80 80 01", api.ErrLong, -1},
	{"04 01 02 03 ff ff ff ff ff ff ff ff ff 01", api.ErrLong, -1},
	// Two and more: No's form, No's range, To, the place, the length's form, its size.
	{"80 00 40 03 03 41", api.ErrForm, -1},
	{"80 00 ff 00 00 80 00", api.ErrForm, -1},
	{"80 80 80 80 80 80 80 80 80 02 40 03 03 41", api.ErrForm, -1},
	{"81 80 80 80 80 80 80 80 10 40 03 03 41", api.ErrRange, 4},
	{"81 80 80 80 80 80 80 80 10 01 00 00 00", api.ErrRange, 4},
	{"81 80 80 80 80 80 80 80 10 01 02 03 41", api.ErrRange, 4},
	{"81 80 80 80 80 80 80 80 10 01 02 03 80 00", api.ErrRange, 5},
	{"04 40 00 00 00", api.ErrNode, 3},
	{"04 40 03 03 00", api.ErrNode, 3},
	{"04 40 02 03 41", api.ErrNode, 3},
	{"04 40 02 03 80 00", api.ErrNode, 4},
	{"04 ff ff ff ff", api.ErrNode, 3},
	{"04 01 00 00 41", api.ErrForm, 1},
	{"04 01 03 03 41", api.ErrForm, 1},
	{"04 01 03 03 80 00", api.ErrForm, 2},
	{"04 01 03 00 ff ff ff ff ff ff ff ff ff ff 01", api.ErrForm, 11},
}

func TestGetOfWhatIsWrong(t *testing.T) {
	more := [][]byte{nil, {0}, {1, 2, 3}, some(200)}
	for _, x := range wrongs {
		for _, m := range more {
			b := slices.Concat(unhex(x.b), m)
			left := 0
			if x.left >= 0 {
				left = x.left + len(m)
			}
			for _, p := range given() {
				wants(t, fmt.Sprintf("%s and %d more", x.b, len(m)), buf.Read(b), p, api.Packet{}, x.e, left)
			}
		}
	}
}

// What is wrong is told as soon as what it is about is there; till then it is ErrShort.
func TestGetOfWhatIsWrongAndCutShort(t *testing.T) {
	for _, r := range []struct {
		b string
		e api.Errno
	}{
		{"80 00", api.ErrForm},
		{"80", api.ErrShort},
		{"81 80 80 80 80 80 80 80 10", api.ErrRange},
		{"81 80 80 80 80 80 80 80", api.ErrShort},
		{"ff ff ff ff ff ff ff ff ff 01", api.ErrRange},
		{"ff ff ff ff ff ff ff ff ff", api.ErrShort},
		{"ff ff ff ff ff ff ff ff ff 02", api.ErrForm},
		{"ff ff ff ff ff ff ff ff ff 80", api.ErrForm},
		{"04", api.ErrShort},
		{"04 40", api.ErrNode},
		{"04 40 03", api.ErrNode},
		{"04 40 03 03", api.ErrNode},
		{"04 01", api.ErrShort},
		{"04 01 ff", api.ErrShort},
		{"04 01 00", api.ErrShort},
		{"04 01 00 00", api.ErrForm},
		{"04 01 03 03", api.ErrForm},
		{"04 01 02 03", api.ErrShort},
		{"04 01 02 03 80", api.ErrShort},
		{"04 01 02 03 c1", api.ErrShort},
		{"04 01 02 03 80 00", api.ErrForm},
		{"04 01 02 03 41", api.ErrLong},
		{"04 01 02 03 40", api.ErrShort},
		{"04 01 02 03 02 61", api.ErrShort},
	} {
		for _, p := range given() {
			got, e := Get(buf.Read(unhex(r.b)), p)
			samePacket(t, r.b, got, api.Packet{})
			if e != r.e {
				t.Errorf("%s: error %d, not %d", r.b, e, r.e)
			}
		}
	}
	for _, n := range longer {
		whole := slowPut(behind(4, 1, place{2, 3}, some(n)))
		first := 4 + len(sevens(int64(n)))
		wants(t, fmt.Sprint(n, " bytes"), buf.Read(whole), full(6), api.Packet{}, api.ErrLong, 0)
		wants(t, fmt.Sprint(n, " bytes, of which there are none"), buf.Read(whole[:first]), full(6), api.Packet{}, api.ErrLong, 0)
		wants(t, fmt.Sprint(n, " bytes, of which there are 64"), buf.Read(whole[:first+64]), full(6), api.Packet{}, api.ErrLong, 0)
		wants(t, fmt.Sprint(n, " bytes, the length cut"), buf.Read(whole[:first-1]), full(6), api.Packet{}, api.ErrShort, 0)
	}
}

// What Get has against a number, a node or a place is none of the reader's: what is behind it may still be read.
func TestGetLeavesTheReaderGood(t *testing.T) {
	for _, x := range wrongs {
		if x.left < 0 {
			continue
		}
		r := buf.Read(append(unhex(x.b), 0xAA))
		wants(t, x.b, r, full(6), api.Packet{}, x.e, x.left+1)
		for range x.left {
			r.Byte()
		}
		if r.Byte() != 0xAA || r.End() != api.OK {
			t.Errorf("%s: then the reader tells %d", x.b, r.Err())
		}
	}
}

// What Get finds wrong in reading stays wrong with the reader.
func TestGetLeavesTheReaderFailed(t *testing.T) {
	for _, r := range []struct {
		b string
		e api.Errno
	}{
		{"", api.ErrShort}, {"8080", api.ErrShort}, {"8000010203", api.ErrForm}, {"04", api.ErrShort}, {"0401", api.ErrShort}, {"040102", api.ErrShort},
		{"04010203", api.ErrShort}, {"0401020302", api.ErrShort}, {"04010203800000", api.ErrForm}, {"040102034100", api.ErrLong},
	} {
		rd := buf.Read(unhex(r.b))
		wants(t, r.b, rd, full(6), api.Packet{}, r.e, 0)
		wants(t, r.b+", once more", rd, full(6), api.Packet{}, r.e, 0)
		if rd.Err() != r.e || rd.End() != r.e || rd.Byte() != 0 {
			t.Errorf("%s: the reader tells %d, not %d", r.b, rd.Err(), r.e)
		}
	}
}

// What was wrong in reading ahead of it is told, and nothing is read.
func TestGetOfReadersThatFailed(t *testing.T) {
	for _, p := range given() {
		got, e := Get(nil, p)
		samePacket(t, "of nil", got, api.Packet{})
		if e != api.ErrArg {
			t.Errorf("of nil: error %d", e)
		}
		wants(t, "of a zero reader", new(buf.Reader), p, api.Packet{}, api.ErrShort, 0)
		for _, r := range []struct {
			name string
			fail func(*buf.Reader)
			e    api.Errno
		}{
			{"behind ErrArg", func(r *buf.Reader) { r.Fixed(9) }, api.ErrArg},
			{"behind ErrShort", func(r *buf.Reader) { r.Bytes(100) }, api.ErrShort},
			{"behind ErrLong", func(r *buf.Reader) { r.Bytes(1) }, api.ErrLong},
			{"behind ErrForm", func(r *buf.Reader) { r.Byte(); r.Num() }, api.ErrForm},
		} {
			rd := buf.Read(append([]byte{99, 0x80, 0}, make([]byte, 40)...))
			r.fail(rd)
			wants(t, r.name, rd, p, api.Packet{}, r.e, 0)
			wants(t, r.name+", once more", rd, p, api.Packet{}, r.e, 0)
			if rd.Err() != r.e {
				t.Errorf("%s: then the reader tells %d", r.name, rd.Err())
			}
		}
	}
}

func TestGetHasABodyOfItsOwn(t *testing.T) {
	for n := 0; n <= Most; n++ {
		one := slowPut(behind(4, 1, place{2, 3}, some(n)))
		b := slices.Concat(one, one)
		p := full(6)
		p.Body = roomy(n)
		was := bytes.Clone(p.Body[:cap(p.Body)])
		r := buf.Read(b)
		got, e := Get(r, p)
		if e != api.OK || !bytes.Equal(got.Body, some(n)) || !bytes.Equal(p.Body[:cap(p.Body)], was) {
			t.Fatalf("%d bytes: error %d, or another body, or the given one changed", n, e)
		}
		if wrong := apart(b, got.Body); wrong != "" {
			t.Errorf("%d bytes, and the bytes: %s", n, wrong)
		}
		got, e = Get(r, p)
		if e != api.OK || !bytes.Equal(got.Body, some(n)) {
			t.Errorf("%d bytes: what was told is seen in what is read behind it", n)
		}
		if wrong := apart(p.Body, got.Body); wrong != "" {
			t.Errorf("%d bytes, and the given body: %s", n, wrong)
		}
	}
}

func TestGetLeavesTheBytes(t *testing.T) {
	for _, b := range [][]byte{slowPut(plain()), slowPut(behind(4, 1, place{2, 3}, some(65))), {3, 1}, {0x80, 0}, {4, 64, 2, 3, 0}} {
		was := bytes.Clone(b)
		Get(buf.Read(b), full(6))
		if !bytes.Equal(b, was) {
			t.Errorf("% x became % x", was, b)
		}
	}
}

// slowReader reads as 5 tells, word by word.
type slowReader struct {
	left []byte
	err  api.Errno
}

func (s *slowReader) fail(e api.Errno) { s.left, s.err = nil, e }

func (s *slowReader) byte() int {
	if len(s.left) == 0 {
		s.fail(api.ErrShort)
		return 0
	}
	b := s.left[0]
	s.left = s.left[1:]
	return int(b)
}

func (s *slowReader) num() *big.Int {
	x := new(big.Int)
	for i := 0; ; i++ {
		switch {
		case i == 10:
			s.fail(api.ErrForm)
			return x
		case i == len(s.left):
			s.fail(api.ErrShort)
			return x
		}
		b := s.left[i]
		x.Add(x, new(big.Int).Lsh(big.NewInt(int64(b%128)), uint(7*i)))
		if b >= 128 {
			continue
		}
		if b == 0 && i > 0 || x.BitLen() > 64 {
			s.fail(api.ErrForm)
			return x
		}
		s.left = s.left[i+1:]
		return x
	}
}

// slowGet is P13.2's Get by the bytes, word by word; it answers how many are left, too.
func slowGet(b []byte, p api.Packet) (api.Packet, api.Errno, int) {
	s := &slowReader{left: b}
	wrong := func(e api.Errno) (api.Packet, api.Errno, int) {
		if s.err != api.OK {
			e = s.err
		}
		return api.Packet{}, e, len(s.left)
	}
	no := s.num()
	if s.err != api.OK || no.Cmp(big.NewInt(1<<60)) > 0 {
		return wrong(api.ErrRange)
	}
	to := s.byte()
	if s.err != api.OK || to > 63 {
		return wrong(api.ErrNode)
	}
	index := s.byte()
	if s.err != api.OK {
		return wrong(api.OK)
	}
	total := s.byte()
	if s.err != api.OK || total == 0 || index >= total {
		return wrong(api.ErrForm)
	}
	n := s.num()
	if s.err == api.OK && n.Cmp(big.NewInt(64)) > 0 {
		s.fail(api.ErrLong)
	}
	if s.err == api.OK && n.Cmp(big.NewInt(int64(len(s.left)))) > 0 {
		s.fail(api.ErrShort)
	}
	if s.err != api.OK {
		return wrong(api.OK)
	}
	p.No, p.To, p.Index, p.Total, p.Body = no.Int64(), to, index, total, s.left[:n.Int64()]
	return p, api.OK, len(s.left) - int(n.Int64())
}

// agrees holds an answer of Get against the slow one's.
func agrees(t *testing.T, b []byte, p api.Packet) api.Errno {
	t.Helper()
	want, e, left := slowGet(b, p)
	wants(t, hex.EncodeToString(b), buf.Read(b), p, want, e, left)
	return e
}

// Each part in all its ways of being right and wrong, all with all, whole and cut short everywhere.
func TestGetOfAll(t *testing.T) {
	told := map[api.Errno]int{}
	for _, no := range []string{"04", "80 01", "80 80 80 80 80 80 80 80 10", "81 80 80 80 80 80 80 80 10", "80 00", "ff ff ff ff ff ff ff ff ff 01", "ff ff ff ff ff ff ff ff ff 02"} {
		for _, to := range []string{"00", "3f", "40", "ff"} {
			for _, at := range []string{"00 00", "00 01", "01 01", "02 03", "03 03", "fe ff", "ff ff", "ff 00"} {
				for _, body := range []string{"00", "01 61", "03 61 62 63", "40", "41", "80 00", "83 00 61 62 63", "80 01", "ff ff ff ff ff ff ff ff ff 01"} {
					for _, more := range []int{0, 1, 64, 65, 130} {
						b := slices.Concat(unhex(no), unhex(to), unhex(at), unhex(body), some(more))
						told[agrees(t, b, full(6))]++
					}
					b := slices.Concat(unhex(no), unhex(to), unhex(at), unhex(body))
					for i := range b {
						told[agrees(t, b[:i], full(6))]++
					}
				}
			}
		}
	}
	toldAll(t, told)
}

// toldAll asks that each error that Get may tell came.
func toldAll(t *testing.T, told map[api.Errno]int) {
	t.Helper()
	for _, e := range []api.Errno{api.OK, api.ErrRange, api.ErrShort, api.ErrLong, api.ErrForm, api.ErrNode} {
		if told[e] < 100 {
			t.Errorf("error %d came but %d times", e, told[e])
		}
	}
	if len(told) != 6 {
		t.Errorf("other errors: %v", told)
	}
}

func TestGetOfBytesByChance(t *testing.T) {
	next := chance(77)
	told := map[api.Errno]int{}
	for range 100000 {
		b := make([]byte, next()%24)
		if next()%8 == 0 {
			b = make([]byte, 60+next()%30)
		}
		// So many bytes go on with a number, now and then.
		high := int(next()%44) - 32
		for i := range b {
			b[i] = byte(next() >> 24)
			if i < high {
				b[i] |= 128
				continue
			}
			switch next() % 4 {
			case 0:
				b[i] %= 70
			case 1:
				b[i] %= 4
			case 2:
				b[i] |= 128 * byte(next()%2)
			}
		}
		told[agrees(t, b, full(int(next()%9)))]++
		if t.Failed() {
			t.FailNow()
		}
	}
	toldAll(t, told)
}

// Good packets as bytes of which one is changed, is missing or is one too many.
func TestGetOfBytesNearlyGood(t *testing.T) {
	next := chance(78)
	told := map[api.Errno]int{}
	for range 60000 {
		b := slowPut(drawn(next))
		i := int(next() % uint64(min(len(b), 16)))
		switch next() % 4 {
		case 0:
			b[i] = byte(next() >> 16)
		case 1:
			b[i] += byte(next()%3) - 1
		case 2:
			b = slices.Delete(b, i, i+1)
		case 3:
			b = slices.Insert(b, i, byte(next()>>16))
		}
		told[agrees(t, b, plain())]++
		if t.Failed() {
			t.FailNow()
		}
	}
	toldAll(t, told)
}

// P13.3

// mates asks Mate either way round.
func mates(t *testing.T, name string, a, b api.Packet, want bool) {
	t.Helper()
	if ab, ba := Mate(a, b), Mate(b, a); ab != want || ba != want {
		t.Errorf("%s: Mate is %v, and %v the other way round: %s; %s", name, ab, ba, brief(text(a)), brief(text(b)))
	}
}

func TestMateOfItself(t *testing.T) {
	for _, p := range goods() {
		mates(t, "itself", p, p, true)
	}
	mates(t, "one of none", api.Packet{Kind: 6, Hops: 1, Total: 1}, api.Packet{Kind: 6, Hops: 1, Total: 1}, true)
	mates(t, "the zero packet", api.Packet{}, api.Packet{}, false)
	for kind := -1; kind <= 8; kind++ {
		mates(t, "a full packet", full(kind), full(kind), false)
	}
}

// What tells one chunk from another of the same state, and how it came here, is not asked.
func TestMateOfAnotherKeyIndexHopsOrBody(t *testing.T) {
	for _, k := range goodKeys {
		p := plain()
		p.Key = k
		mates(t, "another key", plain(), p, true)
	}
	for hops := 1; hops <= 63; hops++ {
		p := plain()
		p.Hops = hops
		mates(t, "other hops", plain(), p, true)
	}
	for index := range 14 {
		p := plain()
		p.Index = index
		mates(t, "another index", plain(), p, true)
	}
	for _, body := range [][]byte{nil, {}, {0}, []byte("statf"), some(64)} {
		p := plain()
		p.Body = body
		mates(t, "another body", plain(), p, true)
	}
	mates(t, "all of these", plain(), New(api.Key{T: 4, From: 3, Seq: 2}, 11, 12, 0, 14, nil), true)
}

func TestMateOfAnotherToNoOrTotal(t *testing.T) {
	for _, at := range []int{0, 13} {
		a := plain()
		a.Index = at
		for to := range 64 {
			p := plain()
			p.To = to
			mates(t, "To", a, p, to == 12)
		}
		for _, no := range append([]int64{10, 11, 12, 1<<32 + 11, 1<<56 + 11, 256 + 11}, goodNos...) {
			p := plain()
			p.No = no
			mates(t, "No", a, p, no == 11)
		}
		for total := 14; total <= 255; total++ {
			p := plain()
			p.Total = total
			mates(t, "Total", a, p, total == 14)
		}
	}
	// Two that would make one another out, were they added up.
	for _, q := range []api.Packet{behind(10, 13, place{0, 14}, nil), behind(11, 13, place{0, 13}, nil), behind(10, 12, place{0, 15}, nil), behind(12, 11, place{0, 14}, nil)} {
		mates(t, "two others", plain(), q, false)
	}
}

// Numbers of all three parts, all with all.
func TestMateOfAll(t *testing.T) {
	var l []api.Packet
	for _, no := range []int64{0, 1, 63, api.MaxTime} {
		for _, to := range []int{0, 1, 63} {
			for _, total := range []int{1, 2, 63, 255} {
				l = append(l, behind(no, to, place{0, total}, nil), behind(no, to, place{total - 1, total}, []byte("b")))
			}
		}
	}
	for i, a := range l {
		for j, b := range l {
			mates(t, "all with all", a, b, i/2 == j/2)
		}
	}
}

// spoilt are chunks in each of which one thing is wrong, but for that the same as plain.
func spoilt() []api.Packet {
	var l []api.Packet
	add := func(set func(p *api.Packet)) {
		p := plain()
		set(&p)
		l = append(l, p)
	}
	for _, x := range otherKinds {
		add(func(p *api.Packet) { p.Kind = x })
	}
	for _, x := range []int{math.MinInt, -1, 0, 64, 65, 256 + 1, math.MaxInt} {
		add(func(p *api.Packet) { p.Hops = x })
	}
	for _, x := range badKeys {
		add(func(p *api.Packet) { p.Key = x })
	}
	for _, x := range badNos {
		add(func(p *api.Packet) { p.No = x })
	}
	for _, x := range badTos {
		add(func(p *api.Packet) { p.To = x })
	}
	for _, x := range badPlaces {
		add(func(p *api.Packet) { p.Index, p.Total = x.index, x.total })
	}
	for _, x := range []int{-1, 14, 15, 255, math.MinInt, math.MaxInt} {
		add(func(p *api.Packet) { p.Index = x })
	}
	for _, n := range longer {
		add(func(p *api.Packet) { p.Body = some(n) })
	}
	for _, x := range notZero {
		add(func(p *api.Packet) { p.Stamp = x })
		add(func(p *api.Packet) { p.Value = x })
	}
	return l
}

func TestMateOfWhatIsNotGood(t *testing.T) {
	for _, p := range spoilt() {
		if Good(p) {
			t.Errorf("it is good: %s", brief(text(p)))
		}
		mates(t, "with itself", p, p, false)
		mates(t, "with a good one", p, plain(), false)
		// A good one that is for the same, as far as there is one.
		mates(t, "with its mate", p, New(goodKeys[0], p.No, p.To, 0, p.Total, nil), false)
		mates(t, "with the zero packet", p, api.Packet{}, false)
	}
	mates(t, "a good one and the zero packet", plain(), api.Packet{}, false)
}

func TestMateByChance(t *testing.T) {
	next := chance(33)
	pairs := 0
	for range 100000 {
		a, b := drawn(next), drawn(next)
		for _, p := range []*api.Packet{&a, &b} {
			p.No, p.To, p.Total = int64(next()%2), int(next()%2), 1+int(next()%2)
			p.Index = int(next() % uint64(p.Total))
			switch next() % 32 {
			case 0:
				p.Index++
			case 1:
				p.Hops += 63
			case 2:
				p.Stamp++
			}
		}
		want := slowGood(a) && slowGood(b) && a.To == b.To && a.No == b.No && a.Total == b.Total
		mates(t, "by chance", a, b, want)
		if want {
			pairs++
		}
		if t.Failed() {
			t.FailNow()
		}
	}
	if pairs < 5000 {
		t.Errorf("but %d belong together", pairs)
	}
}

// P13.4

// drawn is a good packet, with each part at its edge now and then.
func drawn(next func() uint64) api.Packet {
	pick := func(most uint64) uint64 {
		switch next() % 8 {
		case 0:
			return 0
		case 1:
			return most
		case 2:
			return next() % min(most+1, 200)
		}
		return next() >> (next() % 40) % (most + 1)
	}
	body := make([]byte, pick(64))
	for i := range body {
		body[i] = byte(next() >> 16)
	}
	total := 1 + pick(254)
	return api.Packet{
		Kind: 6, Hops: 1 + int(pick(62)), Key: api.Key{T: int64(pick(1 << 60)), From: int(pick(63)), Seq: uint32(pick(math.MaxUint32))},
		No: int64(pick(1 << 60)), To: int(pick(63)), Index: int(pick(total - 1)), Total: int(total), Body: body,
	}
}

// What stands behind a head alone, and whole packets: the head by head, what stands behind it by chunk.
func TestWhatWasPutIsGot(t *testing.T) {
	next := chance(1001)
	for range 30000 {
		p := drawn(next)
		if !Good(p) {
			t.Fatalf("%s is not good", text(p))
		}
		b := put(p)
		if !bytes.Equal(b, slowPut(p)) {
			t.Fatalf("%s is written %x", text(p), b)
		}
		bare := api.Packet{Kind: 6, Hops: p.Hops, Key: p.Key}
		wants(t, "by chance", buf.Read(b), bare, p, api.OK, 0)
		wants(t, "by chance, with more behind it", buf.Read(append(b, 7, 8)), bare, p, api.OK, 2)
		w := buf.New(api.MaxFrame)
		head.Put(w, p)
		Put(w, p)
		whole, e := w.Done()
		if e != api.OK {
			t.Fatalf("%s: error %d", text(p), e)
		}
		r := buf.Read(whole)
		h, e := head.Get(r)
		if e != api.OK {
			t.Fatalf("%s: its head: error %d", text(p), e)
		}
		got, e := Get(r, h)
		if e != api.OK || text(got) != text(p) || r.End() != api.OK || !Good(got) || t.Failed() {
			t.Fatalf("%s: got %s, error %d, good %v", text(p), text(got), e, Good(got))
		}
	}
}

// What New makes is got as well, and goes with what it was made of.
func TestWhatIsNewIsGot(t *testing.T) {
	next := chance(2002)
	for range 10000 {
		d := drawn(next)
		p := New(d.Key, d.No, d.To, d.Index, d.Total, d.Body)
		got, e := Get(buf.Read(put(p)), New(d.Key, 0, 0, 0, 0, nil))
		if e != api.OK || text(got) != text(p) || !Mate(got, d) {
			t.Fatalf("%s: got %s, error %d", text(p), text(got), e)
		}
	}
}
