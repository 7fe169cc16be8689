package pulse

import (
	"bytes"
	"encoding/hex"
	"fmt"
	"math"
	"math/big"
	"slices"
	"testing"

	"angelus/api"
	"angelus/buf"
	"angelus/head"
)

// chance answers numbers of no rule, the same ones each time.
func chance(x uint64) func() uint64 {
	return func() uint64 {
		x ^= x << 13
		x ^= x >> 7
		x ^= x << 17
		return x
	}
}

// numbers are those of stamps and values: the ends of their type, those about 0, and edges of bytes.
var numbers = []int64{
	math.MinInt64, math.MinInt64 + 1, -api.MaxTime - 1, -1 << 32, -256, -128, -3, -1, 0, 1, 2, 77, 127, 128, 255, 256, 1<<31 - 1, 1 << 31,
	1<<32 - 1, 1 << 32, 0x0807060504030201, api.MaxTime, api.MaxTime + 1, 1 << 62, math.MaxInt64 - 1, math.MaxInt64,
}

// goodNos and badNos are numbers of rounds that may be, and that may not.
var (
	goodNos = []int64{0, 1, 2, 63, 126, 127, 128, 129, 255, 256, 300, 1<<14 - 1, 1 << 14, 1<<32 - 1, 1 << 32, 1<<56 - 1, 1 << 56, api.MaxTime - 1, api.MaxTime}
	badNos  = []int64{math.MinInt64, math.MinInt64 + 1, -api.MaxTime - 1, -api.MaxTime, -1 << 32, -128, -2, -1, api.MaxTime + 1, api.MaxTime + 2, 1 << 61, 1 << 62, math.MaxInt64 - 1, math.MaxInt64}
)

var goodKeys = []api.Key{
	{}, {T: 5, From: 1, Seq: 2}, {T: 1}, {From: 1}, {Seq: 1}, {From: 63}, {Seq: math.MaxUint32},
	{T: 1 << 32, From: 31, Seq: 1 << 31}, {T: api.MaxTime - 1}, {T: api.MaxTime, From: 63, Seq: math.MaxUint32},
}

var badKeys = []api.Key{
	{T: -1}, {T: -5, From: 1, Seq: 2}, {T: math.MinInt64}, {T: api.MaxTime + 1}, {T: 1 << 61}, {T: math.MaxInt64, From: 3},
	{From: -1}, {From: 64}, {From: 65, T: 9}, {From: 256}, {From: 1<<32 + 1}, {From: math.MinInt}, {From: math.MaxInt},
	{T: -1, From: 64}, {T: api.MaxTime + 1, From: -1, Seq: math.MaxUint32},
}

// otherKinds are those of which this layer has nothing: the three others, none, and numbers of which only the lower bits look like a kind.
var otherKinds = []int{
	math.MinInt, -1<<32 + 1, -256 + 1, -256 + 2, -256 + 3, -3, -2, -1, 0, 4, 5, 6, 7, 8, 9, 10, 63, 64, 128, 255,
	256, 257, 258, 259, 1<<16 + 1, 1<<16 + 2, 1<<16 + 3, 1 << 32, 1<<32 + 1, 1<<32 + 2, 1<<32 + 3, math.MaxInt,
}

// bodies are those of the issue: none, an empty one, and more.
var bodies = [][]byte{nil, {}, {0}, {7}, {0, 0, 0}, make([]byte, 1024), make([]byte, 5000)}

// text is a packet's each part: it asks nothing of the package, nor of those below it.
func text(p api.Packet) string {
	return fmt.Sprintf("kind %d key %d.%d.%d hops %d no %d to %d index %d total %d stamp %d value %d body %x",
		p.Kind, p.Key.T, p.Key.From, p.Key.Seq, p.Hops, p.No, p.To, p.Index, p.Total, p.Stamp, p.Value, p.Body)
}

func samePacket(t *testing.T, name string, got, want api.Packet) {
	t.Helper()
	if g, w := text(got), text(want); g != w {
		t.Errorf("%s: %s, not %s", name, g, w)
	}
}

// full is a packet in which nothing is 0.
func full(kind int) api.Packet {
	return api.Packet{
		Kind: kind, Hops: 10, Key: api.Key{T: 300, From: 2, Seq: 7},
		No: 11, To: 12, Index: 13, Total: 14, Stamp: 15, Value: 16, Body: []byte{17, 18, 19},
	}
}

// probe, echo and beacon are packets written out.
func probe(stamp int64) api.Packet       { return api.Packet{Kind: 1, Stamp: stamp} }
func echo(stamp, value int64) api.Packet { return api.Packet{Kind: 2, Stamp: stamp, Value: value} }
func beacon(hops int, k api.Key, no int64) api.Packet {
	return api.Packet{Kind: 3, Hops: hops, Key: k, No: no}
}

// part sets one part of a packet, but its kind and its body, to a number.
type part struct {
	name string
	set  func(p *api.Packet, x int64)
}

var allParts = []part{
	{"Hops", func(p *api.Packet, x int64) { p.Hops = int(x) }},
	{"T", func(p *api.Packet, x int64) { p.Key.T = x }},
	{"From", func(p *api.Packet, x int64) { p.Key.From = int(x) }},
	{"Seq", func(p *api.Packet, x int64) { p.Key.Seq = uint32(x) }},
	{"No", func(p *api.Packet, x int64) { p.No = x }},
	{"To", func(p *api.Packet, x int64) { p.To = int(x) }},
	{"Index", func(p *api.Packet, x int64) { p.Index = int(x) }},
	{"Total", func(p *api.Packet, x int64) { p.Total = int(x) }},
	{"Stamp", func(p *api.Packet, x int64) { p.Stamp = x }},
	{"Value", func(p *api.Packet, x int64) { p.Value = x }},
}

// but are all parts without those of these names.
func but(names ...string) []part {
	return slices.DeleteFunc(slices.Clone(allParts), func(o part) bool { return slices.Contains(names, o.name) })
}

// notZero are numbers that are none even if but their lower 32 bits are asked, of Seq, too, and some of which that isn't so.
var notZero = []int64{1, -1, 2, 3, 5, 63, 64, 255, 256, 1 << 16, 1 << 31, math.MaxInt64, 1<<40 + 1}

// wideOnes are numbers whose lower bits are 0; they are not asked of Seq.
var wideOnes = []int64{1 << 32, 1 << 40, 1 << 60, math.MinInt64}

// slowHead is what P9.1 and P6.1 ask of the heads of these three kinds.
func slowHead(p api.Packet) bool {
	if p.Kind == 1 || p.Kind == 2 {
		return p.Hops == 0 && p.Key.T == 0 && p.Key.From == 0 && p.Key.Seq == 0
	}
	return p.Kind == 3 && p.Hops >= 1 && p.Hops <= 63 && p.Key.T >= 0 && p.Key.T <= 1<<60 && p.Key.From >= 0 && p.Key.From <= 63
}

// slowGood is P11.2, word by word.
func slowGood(p api.Packet) bool {
	if !slowHead(p) || p.To != 0 || p.Index != 0 || p.Total != 0 || len(p.Body) != 0 {
		return false
	}
	switch p.Kind {
	case 1:
		return p.No == 0 && p.Value == 0
	case 2:
		return p.No == 0
	}
	return p.Stamp == 0 && p.Value == 0 && p.No >= 0 && p.No <= 1<<60
}

// modulo is a number modulo 2^64.
func modulo(x int64) *big.Int {
	return new(big.Int).Mod(big.NewInt(x), new(big.Int).Lsh(big.NewInt(1), 64))
}

// eight are the eight bytes of a number modulo 2^64, the lowest first.
func eight(x int64) []byte {
	b := modulo(x).FillBytes(make([]byte, 8))
	slices.Reverse(b)
	return b
}

// sevens is a number modulo 2^64 in sevens of bits: in each byte but the last one 128 more.
func sevens(x int64) []byte {
	var b []byte
	left, low := modulo(x), new(big.Int)
	for left.Cmp(big.NewInt(127)) > 0 {
		left.DivMod(left, big.NewInt(128), low)
		b = append(b, byte(low.Int64())+128)
	}
	return append(b, byte(left.Int64()))
}

// slowPut is P11.3's Put, word by word.
func slowPut(p api.Packet) []byte {
	switch p.Kind {
	case 1:
		return eight(p.Stamp)
	case 2:
		return slices.Concat(eight(p.Stamp), eight(p.Value))
	case 3:
		return sevens(p.No)
	}
	return nil
}

// put is what Put writes.
func put(p api.Packet) []byte {
	w := buf.New(100)
	Put(w, p)
	b, e := w.Done()
	if e != api.OK {
		panic(e)
	}
	return b
}

func unhex(s string) []byte {
	b, err := hex.DecodeString(s)
	if err != nil {
		panic(err)
	}
	return b
}

// The chapter's example.
func TestExample(t *testing.T) {
	p := Probe(-1)
	w := buf.New(api.MaxFrame)
	head.Put(w, p)
	Put(w, p)
	if b, e := w.Done(); e != api.OK || hex.EncodeToString(b) != "01ffffffffffffffff" {
		t.Errorf("written %x, error %d", b, e)
	}
	q, ok := Echo(p, 5)
	if !ok || q.Stamp != -1 || q.Value != 5 {
		t.Errorf("Echo: %s, %v", text(q), ok)
	}
	if got := hex.EncodeToString(put(q)); got != "ffffffffffffffff0500000000000000" {
		t.Errorf("the echo is written %s", got)
	}
}

// P11.1

func TestProbe(t *testing.T) {
	for _, x := range numbers {
		p := Probe(x)
		samePacket(t, "Probe", p, api.Packet{Kind: api.KProbe, Stamp: x})
		if !Good(p) {
			t.Errorf("Probe(%d) is not good", x)
		}
	}
}

func TestEchoOfAProbe(t *testing.T) {
	for _, stamp := range numbers {
		for _, value := range numbers {
			for _, body := range [][]byte{nil, {}} {
				p := probe(stamp)
				p.Body = body
				q, ok := Echo(p, value)
				samePacket(t, "Echo", q, api.Packet{Kind: api.KEcho, Stamp: stamp, Value: value})
				if !ok || !Good(q) {
					t.Errorf("Echo of Probe(%d) with %d: %v, good %v", stamp, value, ok, Good(q))
				}
			}
		}
	}
}

// noEcho asks that a packet has no echo, whatever the value.
func noEcho(t *testing.T, name string, p api.Packet) {
	t.Helper()
	for _, value := range []int64{math.MinInt64, -1, 0, 5, math.MaxInt64} {
		q, ok := Echo(p, value)
		if ok {
			t.Errorf("%s has an echo", name)
		}
		samePacket(t, name, q, api.Packet{})
	}
}

func TestEchoOfNoGoodProbe(t *testing.T) {
	noEcho(t, "the zero packet", api.Packet{})
	for _, stamp := range []int64{-1, 0, 77} {
		for _, o := range but("Stamp") {
			for _, x := range notZero {
				p := probe(stamp)
				o.set(&p, x)
				noEcho(t, "a probe with "+o.name, p)
			}
		}
		for _, body := range bodies[2:] {
			p := probe(stamp)
			p.Body = body
			noEcho(t, "a probe with a body", p)
		}
		for _, value := range []int64{-1, 0, 5} {
			noEcho(t, "an echo", echo(stamp, value))
		}
		for _, kind := range otherKinds {
			noEcho(t, fmt.Sprint("kind ", kind), api.Packet{Kind: kind, Stamp: stamp})
		}
	}
	for _, no := range []int64{-1, 0, 1} {
		noEcho(t, "a beacon", beacon(1, api.Key{}, no))
		noEcho(t, "a beacon with a key", beacon(1, api.Key{T: 300, From: 2, Seq: 7}, no))
	}
	noEcho(t, "a beacon without hops", api.Packet{Kind: 3})
	for kind := -1; kind <= 8; kind++ {
		noEcho(t, fmt.Sprint("all of kind ", kind), full(kind))
	}
	if q, ok := Echo(Probe(9), 3); !ok || q.Kind != api.KEcho {
		t.Error("an echo is a packet of kind echo")
	} else {
		noEcho(t, "an echo of a probe", q)
	}
}

// Beacon asks nothing of a key nor of a number.
func TestBeacon(t *testing.T) {
	for _, k := range slices.Concat(goodKeys, badKeys) {
		for _, no := range slices.Concat(goodNos, badNos) {
			p := Beacon(k, no)
			samePacket(t, "Beacon", p, api.Packet{Kind: api.KBeacon, Hops: 1, Key: k, No: no})
			if want := slices.Contains(goodKeys, k) && slices.Contains(goodNos, no); Good(p) != want {
				t.Errorf("Good of Beacon(%v, %d) is %v", k, no, !want)
			}
		}
	}
}

// P11.2

func TestGoodOfKinds(t *testing.T) {
	for _, kind := range otherKinds {
		for _, p := range []api.Packet{{}, {Hops: 1}, {Stamp: 5}, {Stamp: 5, Value: 6}, {Hops: 1, No: 3}, {Hops: 1, Key: api.Key{T: 300, From: 2, Seq: 7}, No: 3}} {
			p.Kind = kind
			if Good(p) {
				t.Errorf("good: %s", text(p))
			}
		}
	}
	for kind := -20; kind <= 1100; kind++ {
		for hops := 0; hops <= 1; hops++ {
			p := api.Packet{Kind: kind, Hops: hops}
			if got, want := Good(p), hops == 0 && (kind == 1 || kind == 2) || hops == 1 && kind == 3; got != want {
				t.Errorf("Good of kind %d, %d hops is %v", kind, hops, got)
			}
		}
		if Good(full(kind)) {
			t.Errorf("all of kind %d is good", kind)
		}
	}
	if Good(api.Packet{}) {
		t.Error("the zero packet is good")
	}
}

func TestGoodOfStampsAndValues(t *testing.T) {
	for _, stamp := range numbers {
		for _, body := range bodies {
			p := probe(stamp)
			p.Body = body
			if got := Good(p); got != (len(body) == 0) {
				t.Errorf("Good of a probe of %d with %d bytes is %v", stamp, len(body), got)
			}
			for _, value := range numbers {
				q := echo(stamp, value)
				q.Body = body
				if got := Good(q); got != (len(body) == 0) {
					t.Errorf("Good of an echo of %d and %d with %d bytes is %v", stamp, value, len(body), got)
				}
			}
		}
	}
}

func TestGoodOfBeacons(t *testing.T) {
	manyHops := []int{math.MinInt, -63, -1, 0, 1, 2, 31, 62, 63, 64, 65, 127, 255, 256, 257, 1<<32 + 1, math.MaxInt}
	for _, hops := range manyHops {
		for _, k := range slices.Concat(goodKeys, badKeys) {
			for _, no := range slices.Concat(goodNos, badNos) {
				for _, body := range bodies[:4] {
					p := beacon(hops, k, no)
					p.Body = body
					want := hops >= 1 && hops <= 63 && slices.Contains(goodKeys, k) && slices.Contains(goodNos, no) && len(body) == 0
					if got := Good(p); got != want {
						t.Errorf("Good of %s is %v", text(p), got)
					}
				}
			}
		}
	}
}

// notGoodWith asks that a good packet is not good any more with each one of these parts, alone, and good without.
func notGoodWith(t *testing.T, p api.Packet, parts []part) {
	t.Helper()
	for _, o := range parts {
		many := slices.Clone(notZero)
		if o.name != "Seq" {
			many = append(many, wideOnes...)
		}
		for _, x := range many {
			q := p
			o.set(&q, x)
			if Good(q) {
				t.Errorf("with %s %d it is good: %s", o.name, x, text(q))
			}
		}
	}
	for _, body := range bodies {
		q := p
		q.Body = body
		if got := Good(q); got != (len(body) == 0) {
			t.Errorf("with a body of %d bytes: %v", len(body), got)
		}
	}
	if !Good(p) {
		t.Errorf("it is not good: %s", text(p))
	}
}

func TestGoodOfEachOtherPart(t *testing.T) {
	for _, x := range []int64{0, 1, -1, math.MinInt64, math.MaxInt64} {
		notGoodWith(t, probe(x), but("Stamp"))
		notGoodWith(t, echo(x, x), but("Stamp", "Value"))
		notGoodWith(t, echo(0, x), but("Stamp", "Value"))
		notGoodWith(t, echo(x, 0), but("Stamp", "Value"))
	}
	for _, no := range goodNos {
		for _, k := range goodKeys {
			for _, hops := range []int{1, 2, 63} {
				notGoodWith(t, beacon(hops, k, no), but("Hops", "T", "From", "Seq", "No"))
			}
		}
	}
}

// Two parts that would make one another out, were they added up.
func TestGoodOfTwoOtherParts(t *testing.T) {
	for _, p := range []api.Packet{probe(5), echo(5, 6), beacon(1, api.Key{}, 3), beacon(1, api.Key{}, 0)} {
		for i, o := range allParts {
			for _, u := range allParts[i+1:] {
				for _, y := range []int64{-1, 1} {
					q := p
					o.set(&q, 1)
					u.set(&q, y)
					if got := Good(q); got != slowGood(q) {
						t.Errorf("Good of %s is %v", text(q), got)
					}
				}
			}
		}
	}
}

// Packets of which each part is at its edge or near it, against the promise word by word.
func TestGoodOfAll(t *testing.T) {
	good := 0
	for _, kind := range []int{-1, 0, 1, 2, 3, 4, 5, 6, 7, 256 + 1, 256 + 3, 1<<32 + 2} {
		for _, hops := range []int{-1, 0, 1, 63, 64} {
			for _, k := range slices.Concat(goodKeys, badKeys) {
				for _, no := range []int64{-1, 0, 1, api.MaxTime, api.MaxTime + 1} {
					for _, s := range [][2]int64{{0, 0}, {1, 0}, {0, 1}, {-1, 1}, {math.MinInt64, math.MaxInt64}} {
						for _, n := range []int{0, 1} {
							p := api.Packet{Kind: kind, Hops: hops, Key: k, No: no, Stamp: s[0], Value: s[1], Body: make([]byte, n)}
							want := slowGood(p)
							if got := Good(p); got != want {
								t.Fatalf("Good of %s is %v", text(p), got)
							}
							if want {
								good++
							}
						}
					}
				}
			}
		}
	}
	// A probe with each of the two stamps that stand without a value, an echo with each pair, a beacon with each good key, two hops and three numbers.
	if want := 2 + 5 + len(goodKeys)*2*3; good != want {
		t.Errorf("%d of them are good, not %d", good, want)
	}
}

func TestGoodLeavesThePacket(t *testing.T) {
	body := []byte{1, 2, 3, 4, 5}
	for kind := 1; kind <= 3; kind++ {
		p := full(kind)
		p.Body = body[:2]
		Good(p)
		Echo(p, 3)
		Put(buf.New(100), p)
		if !bytes.Equal(body, []byte{1, 2, 3, 4, 5}) {
			t.Fatalf("kind %d: the body is changed", kind)
		}
	}
}

// P11.3

func TestPutBytes(t *testing.T) {
	for _, r := range []struct {
		p    api.Packet
		want string
	}{
		{probe(0), "0000000000000000"},
		{probe(1), "0100000000000000"},
		{probe(-1), "ffffffffffffffff"},
		{probe(-2), "feffffffffffffff"},
		{probe(258), "0201000000000000"},
		{probe(0x0807060504030201), "0102030405060708"},
		{probe(math.MinInt64), "0000000000000080"},
		{probe(math.MaxInt64), "ffffffffffffff7f"},
		{echo(0, 0), "00000000000000000000000000000000"},
		{echo(1, 0), "01000000000000000000000000000000"},
		{echo(0, 1), "00000000000000000100000000000000"},
		{echo(-1, 5), "ffffffffffffffff0500000000000000"},
		{echo(5, -1), "0500000000000000ffffffffffffffff"},
		{echo(math.MinInt64, math.MaxInt64), "0000000000000080ffffffffffffff7f"},
		{echo(math.MaxInt64, math.MinInt64), "ffffffffffffff7f0000000000000080"},
		{beacon(1, api.Key{}, 0), "00"},
		{beacon(1, api.Key{}, 1), "01"},
		{beacon(1, api.Key{}, 127), "7f"},
		{beacon(1, api.Key{}, 128), "8001"},
		{beacon(1, api.Key{}, 300), "ac02"},
		{beacon(1, api.Key{}, 1<<14-1), "ff7f"},
		{beacon(1, api.Key{}, 1<<14), "808001"},
		{beacon(1, api.Key{}, 1<<32+5), "8580808010"},
		{beacon(1, api.Key{}, api.MaxTime), "808080808080808010"},
		{beacon(1, api.Key{}, api.MaxTime+1), "818080808080808010"},
		{beacon(1, api.Key{}, math.MaxInt64), "ffffffffffffffff7f"},
		{beacon(1, api.Key{}, -1), "ffffffffffffffffff01"},
		{beacon(1, api.Key{}, math.MinInt64), "80808080808080808001"},
	} {
		if got := hex.EncodeToString(put(r.p)); got != r.want {
			t.Errorf("%s: %s, not %s", text(r.p), got, r.want)
		}
	}
}

func TestPutOfAllNumbers(t *testing.T) {
	for _, x := range slices.Concat(numbers, goodNos, badNos) {
		for _, p := range []api.Packet{probe(x), echo(x, 1), echo(1, x), echo(x, x), beacon(1, api.Key{}, x)} {
			if got := put(p); !bytes.Equal(got, slowPut(p)) {
				t.Errorf("%s: %x", text(p), got)
			}
		}
	}
}

// Put asks of the kind alone what it writes: not whether the packet is good.
func TestPutOfWhatIsNotGood(t *testing.T) {
	want := map[int]string{1: "0f00000000000000", 2: "0f000000000000001000000000000000", 3: "0b"}
	for kind := -300; kind <= 1200; kind++ {
		if got := hex.EncodeToString(put(full(kind))); got != want[kind] {
			t.Errorf("all of kind %d: %s", kind, got)
		}
	}
	for _, kind := range otherKinds {
		if got := put(full(kind)); len(got) != 0 {
			t.Errorf("all of kind %d: %x", kind, got)
		}
	}
}

func TestPutStandsBehindWhatWasWritten(t *testing.T) {
	w := buf.New(100)
	w.Byte(9)
	b := Beacon(api.Key{T: 300, From: 2, Seq: 7}, 128)
	head.Put(w, b)
	Put(w, b)
	Put(w, full(api.KData))
	Put(w, Probe(3))
	w.Byte(8)
	if b, e := w.Done(); e != api.OK || fmt.Sprintf("% x", b) != "09 03 01 ac 02 02 07 00 00 00 80 01 03 00 00 00 00 00 00 00 08" {
		t.Errorf("% x, error %d", b, e)
	}
}

func TestPutWhereNothingCanBeWritten(t *testing.T) {
	for _, p := range []api.Packet{probe(0), probe(-1), echo(0, 0), echo(5, -1), beacon(1, api.Key{}, 0), beacon(1, api.Key{}, 128), beacon(1, api.Key{}, api.MaxTime), full(4), full(7), {}} {
		Put(nil, p)
		whole := slowPut(p)
		for most := -1; most <= len(whole)+1; most++ {
			w := buf.New(most)
			Put(w, p)
			b, e := w.Done()
			if max(most, 0) < len(whole) && (e != api.ErrLong || len(b) != 0) {
				t.Errorf("%s in %d bytes: %x, error %d", text(p), most, b, e)
			}
			if max(most, 0) >= len(whole) && (e != api.OK || !bytes.Equal(b, whole)) {
				t.Errorf("%s in %d bytes: %x, error %d", text(p), most, b, e)
			}
		}
		w := buf.New(100)
		w.Fixed(0, 9)
		Put(w, p)
		if b, e := w.Done(); e != api.ErrArg || len(b) != 0 {
			t.Errorf("%s behind an error: %x, error %d", text(p), b, e)
		}
	}
	// Of another kind nothing is written into a writer that is full, and nothing is wrong.
	w := buf.New(1)
	w.Byte(9)
	Put(w, full(api.KAttend))
	if b, e := w.Done(); e != api.OK || !bytes.Equal(b, []byte{9}) {
		t.Errorf("another kind, a full writer: %x, error %d", b, e)
	}
}

// wants holds an answer of Get, and where the reader stands behind it, against what it should be.
func wants(t *testing.T, name string, r *buf.Reader, p, want api.Packet, e api.Errno, left int) {
	t.Helper()
	got, ge := Get(r, p)
	if g, w := text(got), text(want); g != w || ge != e || r.Left() != left {
		t.Errorf("%s: %s, error %d, %d left, not %s, error %d, %d left", name, g, ge, r.Left(), w, e, left)
	}
}

// with is a packet with what another one has behind its head.
func with(p, from api.Packet) api.Packet {
	switch p.Kind {
	case 1:
		p.Stamp = from.Stamp
	case 2:
		p.Stamp, p.Value = from.Stamp, from.Value
	case 3:
		p.No = from.No
	}
	return p
}

// given are packets of a kind that Get may be given; it asks nothing of them but their kind.
func given(kind int) []api.Packet {
	bad := full(kind)
	bad.Hops, bad.Key, bad.No, bad.Body = 64, api.Key{T: -1, From: 64}, -1, make([]byte, 2000)
	return []api.Packet{{Kind: kind}, full(kind), bad}
}

// Get tells the packet that it was given, with what was read and with nothing else changed.
func TestGetOfWhatPutWrote(t *testing.T) {
	var written []api.Packet
	for _, x := range numbers {
		written = append(written, probe(x), echo(x, 3), echo(-3, x), echo(x, x))
	}
	for _, no := range goodNos {
		written = append(written, beacon(1, api.Key{}, no))
	}
	for _, q := range written {
		for _, p := range given(q.Kind) {
			b := put(q)
			r := buf.Read(slices.Concat(b, []byte{0xAA, 2, 3}))
			wants(t, "with more behind "+text(q), r, p, with(p, q), api.OK, 3)
			if r.Byte() != 0xAA || r.Err() != api.OK {
				t.Errorf("%s: the reader doesn't stand behind it", text(q))
			}
			r = buf.Read(b)
			wants(t, text(q), r, p, with(p, q), api.OK, 0)
			if r.End() != api.OK {
				t.Errorf("%s: not all is read", text(q))
			}
		}
	}
}

func TestGetOneBehindAnother(t *testing.T) {
	all := []api.Packet{probe(-1), echo(5, -6), beacon(1, api.Key{}, api.MaxTime), beacon(1, api.Key{}, 0), probe(math.MinInt64), echo(0, math.MaxInt64)}
	var b []byte
	for _, q := range all {
		b = append(b, slowPut(q)...)
	}
	r, left := buf.Read(b), len(b)
	for _, q := range all {
		left -= len(slowPut(q))
		wants(t, text(q), r, full(q.Kind), with(full(q.Kind), q), api.OK, left)
	}
	for kind := 1; kind <= 3; kind++ {
		wants(t, "behind all", r, full(kind), api.Packet{}, api.ErrShort, 0)
	}
}

func TestGetOfBytesCutShort(t *testing.T) {
	for _, q := range []api.Packet{probe(0), probe(-1), echo(0, 0), echo(-1, -1), beacon(1, api.Key{}, 0), beacon(1, api.Key{}, 128), beacon(1, api.Key{}, api.MaxTime), beacon(1, api.Key{}, math.MaxInt64), beacon(1, api.Key{}, -1)} {
		whole := slowPut(q)
		for i := range whole {
			for _, p := range given(q.Kind) {
				wants(t, fmt.Sprintf("%d of %d, kind %d", i, len(whole), q.Kind), buf.Read(whole[:i]), p, api.Packet{}, api.ErrShort, 0)
			}
		}
	}
	for kind := 1; kind <= 3; kind++ {
		wants(t, "none", buf.Read(nil), full(kind), api.Packet{}, api.ErrShort, 0)
		wants(t, "empty", buf.Read([]byte{}), full(kind), api.Packet{}, api.ErrShort, 0)
	}
}

// A number of a round has one form alone; what is wrong in reading is told ahead of one that is too great.
func TestGetOfNumbersOfRounds(t *testing.T) {
	for _, r := range []struct {
		b string
		e api.Errno
	}{
		{"8000", api.ErrForm},
		{"ff00", api.ErrForm},
		{"828000", api.ErrForm},
		{"80808080808080808000", api.ErrForm},
		{"80808080808080808002", api.ErrForm},
		{"ffffffffffffffffff02", api.ErrForm},
		{"ffffffffffffffffff7f", api.ErrForm},
		{"80808080808080808080", api.ErrForm},
		{"ffffffffffffffffffff01", api.ErrForm},
		{"8080808080808080808000", api.ErrForm},
		{"80", api.ErrShort},
		{"ff", api.ErrShort},
		{"8080", api.ErrShort},
		{"818080808080808090", api.ErrShort},
		{"ffffffffffffffffff", api.ErrShort},
	} {
		wants(t, r.b, buf.Read(unhex(r.b)), full(3), api.Packet{}, r.e, 0)
		if r.e == api.ErrForm {
			wants(t, r.b+" and more", buf.Read(append(unhex(r.b), 1, 2, 3)), full(3), api.Packet{}, r.e, 0)
		}
	}
	for _, no := range badNos {
		b := slowPut(beacon(1, api.Key{}, no))
		for _, p := range given(3) {
			wants(t, fmt.Sprint("No ", no), buf.Read(b), p, api.Packet{}, api.ErrRange, 0)
			r := buf.Read(slices.Concat(b, []byte{7, 8}))
			wants(t, fmt.Sprint("No ", no, " with more behind it"), r, p, api.Packet{}, api.ErrRange, 2)
			// The number was read as it stands: the reader has nothing against it.
			if r.Byte() != 7 || r.Err() != api.OK {
				t.Errorf("No %d: then the reader tells %d", no, r.Err())
			}
		}
	}
}

// A number that a probe or an echo has, and that a beacon might not have, is none of Get's business.
func TestGetLeavesTheNumberOfOthers(t *testing.T) {
	for _, no := range slices.Concat(goodNos, badNos) {
		for _, q := range []api.Packet{probe(-1), echo(5, -1)} {
			p := api.Packet{Kind: q.Kind, No: no}
			want := with(p, q)
			wants(t, fmt.Sprint("No ", no), buf.Read(slowPut(q)), p, want, api.OK, 0)
		}
	}
}

// Of another kind nothing is read, whatever may be wrong with the reader.
func TestGetOfOtherKinds(t *testing.T) {
	kinds := slices.Clone(otherKinds)
	for kind := 4; kind <= 1100; kind++ {
		kinds = append(kinds, kind)
	}
	for _, kind := range kinds {
		for _, p := range given(kind) {
			name := fmt.Sprint("kind ", kind)
			for _, b := range [][]byte{nil, {0}, make([]byte, 16), {0x80, 0}, {1, 2, 3, 4, 5, 6, 7, 8, 9}} {
				r := buf.Read(b)
				wants(t, name, r, p, api.Packet{}, api.ErrKind, len(b))
				if r.Err() != api.OK {
					t.Errorf("%s: the reader tells %d", name, r.Err())
				}
			}
			wants(t, name+" and nil", nil, p, api.Packet{}, api.ErrKind, 0)
			r := buf.Read(nil)
			r.Fixed(9)
			wants(t, name+" and a reader that failed", r, p, api.Packet{}, api.ErrKind, 0)
			if r.Err() != api.ErrArg {
				t.Errorf("%s: the reader tells %d", name, r.Err())
			}
		}
	}
}

// What was wrong in reading ahead of it is told, and nothing is read.
func TestGetOfReadersThatFailed(t *testing.T) {
	for kind := 1; kind <= 3; kind++ {
		for _, p := range given(kind) {
			got, e := Get(nil, p)
			samePacket(t, "of nil", got, api.Packet{})
			if e != api.ErrArg {
				t.Errorf("of nil, kind %d: error %d", kind, e)
			}
			wants(t, "of a zero reader", new(buf.Reader), p, api.Packet{}, api.ErrShort, 0)
			for _, r := range []struct {
				name string
				fail func(*buf.Reader)
				e    api.Errno
			}{
				{"behind ErrArg", func(r *buf.Reader) { r.Fixed(9) }, api.ErrArg},
				{"behind ErrShort", func(r *buf.Reader) { r.Bytes(100) }, api.ErrShort},
				{"behind ErrLong", func(r *buf.Reader) { r.Bytes(1) }, api.ErrLong},
				{"behind ErrForm", func(r *buf.Reader) { r.Byte(); r.Num() }, api.ErrForm},
			} {
				rd := buf.Read(append([]byte{99, 0x80, 0}, make([]byte, 40)...))
				r.fail(rd)
				wants(t, r.name, rd, p, api.Packet{}, r.e, 0)
				wants(t, r.name+", once more", rd, p, api.Packet{}, r.e, 0)
				if rd.Err() != r.e {
					t.Errorf("%s: then the reader tells %d", r.name, rd.Err())
				}
			}
		}
	}
}

// What Get finds wrong in reading stays wrong with the reader.
func TestGetLeavesTheReaderFailed(t *testing.T) {
	for _, r := range []struct {
		kind int
		b    string
		e    api.Errno
	}{
		{1, "01020304050607", api.ErrShort},
		{2, "0102030405060708010203040506", api.ErrShort},
		{3, "8080", api.ErrShort},
		{3, "8000010203", api.ErrForm},
	} {
		rd := buf.Read(unhex(r.b))
		wants(t, "first", rd, full(r.kind), api.Packet{}, r.e, 0)
		wants(t, "second", rd, full(r.kind), api.Packet{}, r.e, 0)
		if rd.Err() != r.e || rd.End() != r.e || rd.Byte() != 0 {
			t.Errorf("the reader tells %d, not %d", rd.Err(), r.e)
		}
	}
}

// The body that a packet came with goes with it, but not its memory.
func TestGetHasABodyOfItsOwn(t *testing.T) {
	for kind := 1; kind <= 3; kind++ {
		for _, n := range []int{0, 1, 3, 1024, 5000} {
			all := bytes.Repeat([]byte{5}, n+50)
			p := full(kind)
			p.Body = all[:n]
			got, e := Get(buf.Read(make([]byte, 16)), p)
			if e != api.OK || !bytes.Equal(got.Body, all[:n]) {
				t.Fatalf("kind %d, %d bytes: error %d, or another body", kind, n, e)
			}
			was := bytes.Clone(got.Body)
			for i := range all {
				all[i] = 6
			}
			if !bytes.Equal(got.Body, was) {
				t.Errorf("kind %d, %d bytes: what came in later is seen in what was told", kind, n)
			}
			for i := range got.Body {
				got.Body[i] = 7
			}
			_ = append(got.Body, 8, 8, 8)
			for _, x := range all {
				if x != 6 {
					t.Errorf("kind %d, %d bytes: what was told is seen in what came in", kind, n)
					break
				}
			}
		}
	}
}

func TestGetLeavesTheBytes(t *testing.T) {
	for kind := 1; kind <= 3; kind++ {
		for _, b := range [][]byte{make([]byte, 20), {3, 1}, {0x80, 0}, unhex("ffffffffffffffff7f")} {
			was := bytes.Clone(b)
			p := full(kind)
			Get(buf.Read(b), p)
			if !bytes.Equal(b, was) || !bytes.Equal(p.Body, []byte{17, 18, 19}) {
				t.Errorf("kind %d, %x", kind, b)
			}
		}
	}
}

// slowNumber is the number of eight bytes, the lowest first, from -2^63 on.
func slowNumber(b []byte) int64 {
	x := new(big.Int)
	for i := range 8 {
		x.Add(x, new(big.Int).Lsh(big.NewInt(int64(b[i])), uint(8*i)))
	}
	if x.Bit(63) == 1 {
		x.Sub(x, new(big.Int).Lsh(big.NewInt(1), 64))
	}
	return x.Int64()
}

// slowNo is a number of a round, word by word, and how many bytes it takes; what is wrong in reading asks those alone.
func slowNo(b []byte) (int64, int, api.Errno) {
	x := new(big.Int)
	for i := 0; ; i++ {
		switch {
		case i == 10:
			return 0, len(b), api.ErrForm
		case i == len(b):
			return 0, len(b), api.ErrShort
		}
		x.Add(x, new(big.Int).Lsh(big.NewInt(int64(b[i]%128)), uint(7*i)))
		switch {
		case b[i] >= 128:
			continue
		case b[i] == 0 && i > 0, x.BitLen() > 64:
			return 0, len(b), api.ErrForm
		case x.Cmp(big.NewInt(1<<60)) > 0:
			return 0, i + 1, api.ErrRange
		}
		return x.Int64(), i + 1, api.OK
	}
}

// slowGet is P11.3's Get, word by word, with how many bytes it takes.
func slowGet(b []byte, p api.Packet) (api.Packet, int, api.Errno) {
	switch {
	case p.Kind < 1 || p.Kind > 3:
		return api.Packet{}, 0, api.ErrKind
	case p.Kind == 3:
		no, n, e := slowNo(b)
		if e != api.OK {
			return api.Packet{}, n, e
		}
		p.No = no
		return p, n, api.OK
	case len(b) < 8*p.Kind:
		return api.Packet{}, len(b), api.ErrShort
	}
	p.Stamp = slowNumber(b)
	if p.Kind == 2 {
		p.Value = slowNumber(b[8:])
	}
	return p, 8 * p.Kind, api.OK
}

func TestGetOfBytesByChance(t *testing.T) {
	next := chance(77)
	told := map[api.Errno]int{}
	for range 200000 {
		kind := int(next()>>20%3) + 1
		if next()%16 == 0 {
			kind = int(next()>>20%12) - 2
		}
		b := make([]byte, next()%20)
		high := next() % 3
		for i := range b {
			b[i] = byte(next() >> 24)
			if kind == 3 && i < int(next()%12) && high > 0 {
				b[i] |= 128
			}
			if kind == 3 && next()%8 == 0 {
				b[i] %= 2
			}
		}
		p := full(kind)
		want, taken, e := slowGet(b, p)
		told[e]++
		r := buf.Read(b)
		got, ge := Get(r, p)
		if text(got) != text(want) || ge != e || r.Left() != len(b)-taken {
			t.Fatalf("%x, kind %d: %s, error %d, %d left, not %s, error %d, %d left", b, kind, text(got), ge, r.Left(), text(want), e, len(b)-taken)
		}
	}
	for _, e := range []api.Errno{api.OK, api.ErrRange, api.ErrShort, api.ErrForm, api.ErrKind} {
		if told[e] < 100 {
			t.Errorf("error %d came but %d times", e, told[e])
		}
	}
}

// P11.4

// drawn is a good packet, with each part at its edge now and then.
func drawn(next func() uint64) api.Packet {
	pick := func(most uint64) uint64 {
		switch next() % 8 {
		case 0:
			return 0
		case 1:
			return most
		case 2:
			return next() % min(most, 200)
		}
		return next() >> (next() % 40) % (most + 1)
	}
	number := func() int64 {
		if next()%4 == 0 {
			return numbers[next()%uint64(len(numbers))]
		}
		return int64(next()) >> (next() % 63)
	}
	switch next() % 3 {
	case 0:
		return probe(number())
	case 1:
		return echo(number(), number())
	}
	k := api.Key{T: int64(pick(1 << 60)), From: int(pick(63)), Seq: uint32(pick(math.MaxUint32))}
	return beacon(1+int(pick(62)), k, int64(pick(1<<60)))
}

// headOf is a packet with its head alone.
func headOf(p api.Packet) api.Packet {
	return api.Packet{Kind: p.Kind, Hops: p.Hops, Key: p.Key}
}

func TestWhatWasPutIsGot(t *testing.T) {
	next := chance(1001)
	kinds := map[int]int{}
	for range 50000 {
		p := drawn(next)
		kinds[p.Kind]++
		if !Good(p) {
			t.Fatalf("%s is not good", text(p))
		}
		b := put(p)
		if !bytes.Equal(b, slowPut(p)) {
			t.Fatalf("%s is written %x", text(p), b)
		}
		wants(t, "by chance", buf.Read(b), headOf(p), p, api.OK, 0)
		wants(t, "by chance, with more behind it", buf.Read(append(b, 7, 8)), headOf(p), p, api.OK, 2)
		if t.Failed() {
			t.FailNow()
		}
	}
	for kind := 1; kind <= 3; kind++ {
		if kinds[kind] < 1000 {
			t.Errorf("kind %d was drawn but %d times", kind, kinds[kind])
		}
	}
}

// A whole packet: its head by head, what stands behind it by pulse.
func TestWhatWasPutBehindItsHeadIsGot(t *testing.T) {
	next := chance(2002)
	for range 20000 {
		p := drawn(next)
		w := buf.New(api.MaxFrame)
		head.Put(w, p)
		Put(w, p)
		b, e := w.Done()
		if e != api.OK {
			t.Fatalf("%s: error %d", text(p), e)
		}
		r := buf.Read(b)
		h, e := head.Get(r)
		if e != api.OK {
			t.Fatalf("%s: its head: error %d", text(p), e)
		}
		got, e := Get(r, h)
		if e != api.OK || text(got) != text(p) || r.End() != api.OK || !Good(got) {
			t.Fatalf("%s: got %s, error %d, good %v", text(p), text(got), e, Good(got))
		}
	}
}

func TestEchoHasTheStampOfItsProbe(t *testing.T) {
	next := chance(3003)
	probes := 0
	for range 30000 {
		p, value := drawn(next), int64(next())
		q, ok := Echo(p, value)
		if ok != (p.Kind == 1) {
			t.Fatalf("Echo of %s: %v", text(p), ok)
		}
		if !ok {
			samePacket(t, "no echo", q, api.Packet{})
			continue
		}
		probes++
		samePacket(t, "by chance", q, echo(p.Stamp, value))
		got, e := Get(buf.Read(put(q)), api.Packet{Kind: q.Kind})
		if !Good(q) || e != api.OK || got.Stamp != p.Stamp || got.Value != value {
			t.Fatalf("the echo of %s with %d: %s, error %d", text(p), value, text(got), e)
		}
	}
	if probes < 1000 {
		t.Errorf("but %d probes were drawn", probes)
	}
}
