package seal

import (
	"bytes"
	"encoding/hex"
	"fmt"
	"hash/crc32"
	"math"
	"math/big"
	"slices"
	"strings"
	"testing"

	"angelus/api"
	"angelus/attend"
	"angelus/chunk"
	"angelus/data"
	"angelus/pulse"
)

// chance answers numbers of no rule, the same ones each time.
func chance(x uint64) func() uint64 {
	return func() uint64 {
		x ^= x << 13
		x ^= x >> 7
		x ^= x << 17
		return x
	}
}

// some are n bytes of no rule; none of them is 0, so that one that is missing is seen.
func some(n int) []byte {
	next := chance(uint64(n) + 9)
	b := make([]byte, n)
	for i := range b {
		b[i] = byte(next()>>20) | 1
	}
	return b
}

// roomy is a body with room behind it, where there are bytes of its own.
func roomy(n int) []byte { return some(n + 50)[:n] }

// kinds are all that there are.
var kinds = []int{1, 2, 3, 4, 5, 6}

// otherKinds are none, of which some are one if but their lower bits are asked.
var otherKinds = []int{
	math.MinInt, -1<<32 + 4, -256 + 1, -256 + 6, -6, -4, -1, 0, 7, 8, 9, 14, 16 + 4, 32 + 5, 64 + 6, 128, 128 + 3, 255,
	256, 256 + 1, 256 + 2, 256 + 3, 256 + 4, 256 + 5, 256 + 6, 1<<16 + 4, 1<<32 + 1, 1<<32 + 6, math.MaxInt,
}

// notZero are numbers that are none, of which some are 0 if but their lower bits are asked.
var notZero = []int64{1, -1, 2, 6, 63, 64, 255, 256, 1 << 16, 1 << 31, 1 << 32, 1<<40 + 1, 1 << 60, math.MinInt64, math.MaxInt64}

// times are numbers at their edges and about them: of a time, of a round.
var times = []int64{
	math.MinInt64, math.MinInt64 + 1, -api.MaxTime - 1, -api.MaxTime, -1 << 32, -128, -2, -1,
	0, 1, 2, 63, 64, 127, 128, 129, 255, 256, 300, 1<<14 - 1, 1 << 14, 1<<32 - 1, 1 << 32, 1<<56 - 1, 1 << 56, api.MaxTime - 1,
	api.MaxTime, api.MaxTime + 1, api.MaxTime + 2, 1 << 61, 1 << 62, math.MaxInt64 - 1, math.MaxInt64,
}

// smalls are numbers of hops, of nodes and of chunks, at their edges and about them.
var smalls = []int{
	math.MinInt, -1<<32 + 1, -256 + 1, -64, -1, 0, 1, 2, 3, 31, 62, 63, 64, 65, 127, 128, 253, 254, 255, 256, 256 + 1, 256 + 63, 1 << 32, 1<<32 + 1, math.MaxInt,
}

// lengths are those of bodies, at their edges and about them.
var lengths = []int{0, 1, 2, 63, 64, 65, 66, 127, 128, 129, 255, 256, 256 + 64, 1023, 1024, 1025, 1026, 1100, 1 << 14, 1<<16 + 5}

// text is a packet's each part: it asks nothing of the package, nor of those below it.
func text(p api.Packet) string {
	return fmt.Sprintf("kind %d key %d.%d.%d hops %d no %d to %d index %d total %d stamp %d value %d body %x",
		p.Kind, p.Key.T, p.Key.From, p.Key.Seq, p.Hops, p.No, p.To, p.Index, p.Total, p.Stamp, p.Value, p.Body)
}

// brief is a text that can be read in a message.
func brief(s string) string {
	if len(s) > 400 {
		return s[:400] + ".."
	}
	return s
}

// unhex reads bytes told by their digits; blanks are for the eye.
func unhex(s string) []byte {
	b, err := hex.DecodeString(strings.ReplaceAll(s, " ", ""))
	if err != nil {
		panic(err)
	}
	return b
}

// bare is a good packet of a kind, in which all is 0 that may be.
func bare(kind int) api.Packet {
	p := api.Packet{Kind: kind}
	if kind >= 3 && kind <= 6 {
		p.Hops = 1
	}
	if kind == 6 {
		p.Total = 1
	}
	return p
}

// plain is a good packet of a kind, in which nothing is 0 that may be another number.
func plain(kind int) api.Packet {
	p := bare(kind)
	if kind >= 3 && kind <= 6 {
		p.Hops, p.Key = 3, api.Key{T: 300, From: 2, Seq: 7}
	}
	switch kind {
	case 1:
		p.Stamp = 15
	case 2:
		p.Stamp, p.Value = 15, 16
	case 3, 5:
		p.No = 11
	case 4:
		p.Body = []byte("ring the bell")
	case 6:
		p.No, p.To, p.Index, p.Total, p.Body = 11, 12, 13, 14, []byte("state")
	}
	return p
}

// greatest is a good packet of a kind whose frame is as long as one can be.
func greatest(kind int) api.Packet {
	p := bare(kind)
	if kind >= 3 && kind <= 6 {
		p.Hops, p.Key = 63, api.Key{T: 1 << 60, From: 63, Seq: math.MaxUint32}
	}
	switch kind {
	case 1:
		p.Stamp = math.MinInt64
	case 2:
		p.Stamp, p.Value = math.MaxInt64, -1
	case 3, 5:
		p.No = 1 << 60
	case 4:
		p.Body = some(1024)
	case 6:
		p.No, p.To, p.Index, p.Total, p.Body = 1<<60, 63, 254, 255, some(64)
	}
	return p
}

// full is a packet in which nothing is 0.
func full(kind int) api.Packet {
	return api.Packet{
		Kind: kind, Hops: 10, Key: api.Key{T: 300, From: 2, Seq: 7},
		No: 11, To: 12, Index: 13, Total: 14, Stamp: 15, Value: 16, Body: []byte{17, 18, 19},
	}
}

// goods are good packets of each kind.
func goods() []api.Packet {
	var l []api.Packet
	for _, kind := range kinds {
		l = append(l, bare(kind), plain(kind), greatest(kind))
	}
	return l
}

// within is whether x is one of lo to hi.
func within(x, lo, hi int64) bool { return lo <= x && x <= hi }

// slowHead is whether a head may be: 9 and 6, word by word.
func slowHead(p api.Packet) bool {
	if within(int64(p.Kind), 3, 6) {
		return within(int64(p.Hops), 1, 63) && within(p.Key.T, 0, 1<<60) && within(int64(p.Key.From), 0, 63)
	}
	return p.Hops == 0 && p.Key.T == 0 && p.Key.From == 0 && p.Key.Seq == 0
}

// slowGood is P14.1, with what 10 to 13 ask of each kind, word by word.
func slowGood(p api.Packet) bool {
	if !within(int64(p.Kind), 1, 6) || !slowHead(p) {
		return false
	}
	noPlace := p.To == 0 && p.Index == 0 && p.Total == 0
	noPulse := p.Stamp == 0 && p.Value == 0
	switch p.Kind {
	case 1:
		return p.No == 0 && noPlace && p.Value == 0 && len(p.Body) == 0
	case 2:
		return p.No == 0 && noPlace && len(p.Body) == 0
	case 3, 5:
		return within(p.No, 0, 1<<60) && noPlace && noPulse && len(p.Body) == 0
	case 4:
		return p.No == 0 && noPlace && noPulse && len(p.Body) <= 1024
	}
	return within(p.No, 0, 1<<60) && within(int64(p.To), 0, 63) && within(int64(p.Total), 1, 255) &&
		p.Index >= 0 && p.Index < p.Total && noPulse && len(p.Body) <= 64
}

// fixed are the n lowest bytes of a number modulo 2^64, the lowest first.
func fixed(x int64, n int) []byte {
	left, low := big.NewInt(x), new(big.Int)
	left.Mod(left, new(big.Int).Lsh(big.NewInt(1), 64))
	b := make([]byte, n)
	for i := range b {
		left.DivMod(left, big.NewInt(256), low)
		b[i] = byte(low.Int64())
	}
	return b
}

// sevens is a number in sevens of bits, in each byte but the last one 128 more.
func sevens(x int64) []byte {
	left, low := big.NewInt(x), new(big.Int)
	var b []byte
	for left.Cmp(big.NewInt(127)) > 0 {
		left.DivMod(left, big.NewInt(128), low)
		b = append(b, byte(low.Int64())+128)
	}
	return append(b, byte(left.Int64()))
}

// sealed are bytes with their sum behind them, the lowest byte first.
func sealed(b []byte) []byte {
	return slices.Concat(b, fixed(int64(crc32.ChecksumIEEE(b)), 4))
}

// slowInner is what stands ahead of the sum in a good packet's frame, word by word.
func slowInner(p api.Packet) []byte {
	b := []byte{byte(p.Kind)}
	if p.Kind >= 3 {
		b = slices.Concat(b, []byte{byte(p.Hops)}, sevens(p.Key.T), []byte{byte(p.Key.From)}, fixed(int64(p.Key.Seq), 4))
	}
	body := slices.Concat(sevens(int64(len(p.Body))), p.Body)
	switch p.Kind {
	case 1:
		return append(b, fixed(p.Stamp, 8)...)
	case 2:
		return slices.Concat(b, fixed(p.Stamp, 8), fixed(p.Value, 8))
	case 3, 5:
		return append(b, sevens(p.No)...)
	case 4:
		return append(b, body...)
	}
	return slices.Concat(b, sevens(p.No), []byte{byte(p.To), byte(p.Index), byte(p.Total)}, body)
}

// slowFrame is a good packet's frame, word by word.
func slowFrame(p api.Packet) []byte { return sealed(slowInner(p)) }

// slowReader reads as 5 tells, word by word.
type slowReader struct {
	left []byte
	err  api.Errno
}

// refuse keeps what was wrong first.
func (s *slowReader) refuse(wrong bool, e api.Errno) {
	if wrong && s.err == api.OK {
		s.err = e
	}
}

func (s *slowReader) bytes(n int) []byte {
	s.refuse(n > len(s.left), api.ErrShort)
	if s.err != api.OK {
		return make([]byte, max(n, 8))
	}
	b := s.left[:n]
	s.left = s.left[n:]
	return b
}

// fixed is a number of eight bytes, or of less, with a sign if it is one of eight.
func (s *slowReader) fixed(n int) int64 {
	x := new(big.Int)
	for i, b := range s.bytes(n)[:n] {
		x.Add(x, new(big.Int).Lsh(big.NewInt(int64(b)), uint(8*i)))
	}
	if x.BitLen() == 64 {
		x.Sub(x, new(big.Int).Lsh(big.NewInt(1), 64))
	}
	return x.Int64()
}

func (s *slowReader) num() *big.Int {
	x := new(big.Int)
	for i := 0; s.err == api.OK; i++ {
		s.refuse(i == 10, api.ErrForm)
		s.refuse(i == len(s.left), api.ErrShort)
		if s.err != api.OK {
			break
		}
		b := s.left[i]
		x.Add(x, new(big.Int).Lsh(big.NewInt(int64(b%128)), uint(7*i)))
		if b < 128 {
			s.refuse(b == 0 && i > 0 || x.BitLen() > 64, api.ErrForm)
			s.left = s.left[i+1:]
			break
		}
	}
	return x
}

// time is a number that is refused above 2^60.
func (s *slowReader) time() int64 {
	x := s.num()
	s.refuse(x.Cmp(big.NewInt(1<<60)) > 0, api.ErrRange)
	if s.err != api.OK {
		return 0
	}
	return x.Int64()
}

// byte is a number of one byte that is refused, if it is not one of lo to hi.
func (s *slowReader) byte(lo, hi int64, e api.Errno) int {
	x := s.fixed(1)
	s.refuse(!within(x, lo, hi), e)
	return int(x)
}

func (s *slowReader) body(most int64) []byte {
	n := s.num()
	s.refuse(n.Cmp(big.NewInt(most)) > 0, api.ErrLong)
	if s.err != api.OK {
		return nil
	}
	return s.bytes(int(n.Int64()))
}

// slowDecode is P14.3, with what 9 to 13 read and refuse, word by word.
func slowDecode(b []byte) (api.Packet, api.Errno) {
	switch {
	case len(b) > 1100:
		return api.Packet{}, api.ErrLong
	case len(b) < 5:
		return api.Packet{}, api.ErrShort
	case !bytes.Equal(sealed(b[:len(b)-4]), b):
		return api.Packet{}, api.ErrSum
	}
	s := &slowReader{left: b[:len(b)-4]}
	p := api.Packet{Kind: s.byte(1, 6, api.ErrKind)}
	if p.Kind >= 3 {
		p.Hops = s.byte(1, 63, api.ErrHops)
		p.Key.T = s.time()
		p.Key.From = s.byte(0, 63, api.ErrNode)
		p.Key.Seq = uint32(s.fixed(4))
	}
	switch p.Kind {
	case 1:
		p.Stamp = s.fixed(8)
	case 2:
		p.Stamp = s.fixed(8)
		p.Value = s.fixed(8)
	case 3, 5:
		p.No = s.time()
	case 4:
		p.Body = s.body(1024)
	case 6:
		p.No = s.time()
		p.To = s.byte(0, 63, api.ErrNode)
		p.Index = s.byte(0, 255, api.OK)
		p.Total = s.byte(0, 255, api.OK)
		s.refuse(p.Index >= p.Total, api.ErrForm) // A Total of 0 is among these.
		p.Body = s.body(64)
	}
	s.refuse(len(s.left) > 0, api.ErrForm)
	if s.err != api.OK {
		return api.Packet{}, s.err
	}
	return p, api.OK
}

// encodes holds Good, Encode and Size of a packet against its frame, which is none of a packet that is not good.
func encodes(t *testing.T, p api.Packet, good bool, frame []byte) {
	t.Helper()
	was := text(p)
	wants := api.ErrArg
	if good {
		wants = api.OK
	}
	if got := Good(p); got != good {
		t.Errorf("%s: Good is %v", brief(was), got)
	}
	b, e := Encode(p)
	if e != wants || !bytes.Equal(b, frame) {
		t.Errorf("%s: Encode tells %s and %d, not %s and %d", brief(was), brief(hex.EncodeToString(b)), e, brief(hex.EncodeToString(frame)), wants)
	}
	if got := Size(p); got != len(frame) {
		t.Errorf("%s: Size is %d, not %d", brief(was), got, len(frame))
	}
	if text(p) != was {
		t.Errorf("%s became %s", brief(was), brief(text(p)))
	}
}

// decodes holds Decode of bytes against what they are to be, and what was decoded against the bytes.
func decodes(t *testing.T, b []byte, want api.Packet, e api.Errno) {
	t.Helper()
	was := bytes.Clone(b)
	got, ge := Decode(b)
	if ge != e || text(got) != text(want) {
		t.Errorf("%s: Decode tells %s and %d, not %s and %d", brief(hex.EncodeToString(was)), brief(text(got)), ge, brief(text(want)), e)
	}
	if !bytes.Equal(b, was) {
		t.Errorf("%s became %s", brief(hex.EncodeToString(was)), brief(hex.EncodeToString(b)))
	}
	if ge == api.OK {
		encodes(t, got, true, was)
	}
}

// agrees holds all calls of a packet against the slow ones; it tells whether it is good.
func agrees(t *testing.T, p api.Packet) bool {
	t.Helper()
	if !slowGood(p) {
		encodes(t, p, false, nil)
		return false
	}
	frame := slowFrame(p)
	if len(frame) > 1100 {
		t.Errorf("%s: %d bytes", brief(text(p)), len(frame))
	}
	encodes(t, p, true, frame)
	decodes(t, frame, p, api.OK)
	return true
}

// reads holds Decode of bytes against the slow one; it tells what is wrong with them.
func reads(t *testing.T, b []byte) api.Errno {
	t.Helper()
	want, e := slowDecode(b)
	decodes(t, b, want, e)
	return e
}

// refused asks that bytes are refused with this error, and that nothing else is told.
func refused(t *testing.T, name string, b []byte, e api.Errno) {
	t.Helper()
	was := bytes.Clone(b)
	p, got := Decode(b)
	if got != e || text(p) != text(api.Packet{}) {
		t.Errorf("%s: %s: error %d, not %d, and %s", name, brief(hex.EncodeToString(b)), got, e, brief(text(p)))
	}
	if !bytes.Equal(b, was) {
		t.Errorf("%s: %s became %s", name, brief(hex.EncodeToString(was)), brief(hex.EncodeToString(b)))
	}
}

// The sums of these tests are those of 4, reckoned bit by bit.
func TestSumsBitByBit(t *testing.T) {
	for n := range 80 {
		b := some(n)
		sum := uint32(math.MaxUint32)
		for i := range 8 * n {
			turned := (sum^uint32(b[i/8])>>(i%8))&1 == 1
			sum /= 2
			if turned {
				sum ^= 0xEDB88320
			}
		}
		sum ^= math.MaxUint32
		if want := append(b, byte(sum), byte(sum>>8), byte(sum>>16), byte(sum>>24)); !bytes.Equal(sealed(some(n)), want) {
			t.Fatalf("%d bytes: %x, not %x", n, sealed(some(n)), want)
		}
	}
}

// frames are packets and their frames, written out by hand, their sums reckoned elsewhere. The first one is the chapter's example.
var frames = []struct {
	p    api.Packet
	want string
}{
	{api.Packet{Kind: 1}, "01 00 00 00 00 00 00 00 00 ed 00 72 f1"},
	{api.Packet{Kind: 1, Stamp: -1}, "01 ff ff ff ff ff ff ff ff 98 00 14 b5"},
	{api.Packet{Kind: 2, Stamp: -1, Value: 5}, "02 ff ff ff ff ff ff ff ff 05 00 00 00 00 00 00 00 24 e2 5d c2"},
	{api.Packet{Kind: 3, Hops: 1, Key: api.Key{T: 300, From: 2, Seq: 7}, No: 11}, "03 01 ac 02 02 07 00 00 00 0b 4f 80 81 1d"},
	{api.Packet{Kind: 4, Hops: 1, Key: api.Key{T: 5, From: 1, Seq: 2}, Body: []byte("hi")}, "04 01 05 01 02 00 00 00 02 68 69 95 11 f0 bf"},
	{api.Packet{Kind: 5, Hops: 1, Key: api.Key{T: 30, From: 2, Seq: 4}, No: 3}, "05 01 1e 02 04 00 00 00 03 9d e0 94 76"},
	{api.Packet{Kind: 6, Hops: 1, Key: api.Key{T: 9, From: 1}, No: 2, To: 3, Total: 1, Body: []byte("ab")}, "06 01 09 01 00 00 00 00 02 03 00 01 02 61 62 fa fa 7f 01"},
}

func TestExample(t *testing.T) {
	p := pulse.Probe(0)
	b, e := Encode(p)
	if e != api.OK || len(b) != 13 || Size(p) != 13 || b[0] != 1 || !bytes.Equal(b[1:9], make([]byte, 8)) {
		t.Errorf("% x, error %d, size %d", b, e, Size(p))
	}
	if got, e := Decode(b); e != api.OK || text(got) != text(p) {
		t.Errorf("%s, error %d", text(got), e)
	}
}

func TestFramesByHand(t *testing.T) {
	for _, r := range frames {
		encodes(t, r.p, true, unhex(r.want))
		decodes(t, unhex(r.want), r.p, api.OK)
	}
}

// P14.1, P14.2

// of is a packet with one part set.
func of(p api.Packet, set func(p *api.Packet)) api.Packet {
	set(&p)
	return p
}

func TestKinds(t *testing.T) {
	l := slices.Clone(otherKinds)
	for kind := -300; kind <= 1100; kind++ {
		l = append(l, kind)
	}
	for _, kind := range l {
		for _, p := range append(goods(), full(0), api.Packet{}, api.Packet{Hops: 1}, api.Packet{Total: 1}) {
			p.Kind = kind
			if good := agrees(t, p); good && !slices.Contains(kinds, kind) {
				t.Errorf("a packet of kind %d is good", kind)
			}
		}
		if slices.Contains(kinds, kind) {
			encodes(t, plain(kind), true, slowFrame(plain(kind)))
			encodes(t, bare(kind), true, slowFrame(bare(kind)))
		}
	}
	for _, p := range goods() {
		for _, kind := range otherKinds {
			encodes(t, of(p, func(p *api.Packet) { p.Kind = kind }), false, nil)
		}
	}
}

// A packet with all that its kind has and one thing more is not good.
func TestWhatAKindHasNot(t *testing.T) {
	has := func(kind int, of ...int) bool { return slices.Contains(of, kind) }
	for _, q := range goods() {
		alone := func(isPart bool, set func(p *api.Packet)) {
			t.Helper()
			if !isPart {
				encodes(t, of(q, set), false, nil)
			}
		}
		for _, x := range notZero {
			alone(has(q.Kind, 1, 2), func(p *api.Packet) { p.Stamp = x })
			alone(has(q.Kind, 2), func(p *api.Packet) { p.Value = x })
			alone(has(q.Kind, 3, 5, 6), func(p *api.Packet) { p.No = x })
			alone(has(q.Kind, 6), func(p *api.Packet) { p.To = int(x) })
			alone(has(q.Kind, 6), func(p *api.Packet) { p.Index = int(x) })
			alone(has(q.Kind, 6), func(p *api.Packet) { p.Total = int(x) })
			alone(has(q.Kind, 3, 4, 5, 6), func(p *api.Packet) { p.Hops = int(x) })
			alone(has(q.Kind, 3, 4, 5, 6), func(p *api.Packet) { p.Key.T = x })
			alone(has(q.Kind, 3, 4, 5, 6), func(p *api.Packet) { p.Key.From = int(x) })
			alone(has(q.Kind, 3, 4, 5, 6) || uint32(x) == 0, func(p *api.Packet) { p.Key.Seq = uint32(x) })
		}
		for _, n := range lengths {
			alone(has(q.Kind, 4, 6) || n == 0, func(p *api.Packet) { p.Body = make([]byte, n) })
		}
	}
}

// What is wrong alone, of what its kind has: each of these is refused.
func TestWhatIsWrongAlone(t *testing.T) {
	for _, q := range goods() {
		wrong := func(set func(p *api.Packet)) {
			t.Helper()
			encodes(t, of(q, set), false, nil)
		}
		if q.Kind < 3 {
			continue
		}
		for _, x := range []int{math.MinInt, -256 + 1, -1, 0, 64, 65, 255, 256 + 1, 1<<32 + 1, math.MaxInt} {
			wrong(func(p *api.Packet) { p.Hops = x })
		}
		for _, x := range []int64{math.MinInt64, -1, api.MaxTime + 1, math.MaxInt64} {
			wrong(func(p *api.Packet) { p.Key.T = x })
			wrong(func(p *api.Packet) { p.No = x })
		}
		for _, x := range []int{math.MinInt, -1, 64, 255, 256, 1 << 32, math.MaxInt} {
			wrong(func(p *api.Packet) { p.Key.From = x })
			wrong(func(p *api.Packet) { p.To = x })
			wrong(func(p *api.Packet) { p.Index, p.Total = x, x })
		}
		wrong(func(p *api.Packet) { p.Index, p.Total = 0, 256 })
		wrong(func(p *api.Packet) { p.Index, p.Total = -1, 255 })
		wrong(func(p *api.Packet) { p.Index, p.Total = 255, 255 })
		wrong(func(p *api.Packet) { p.Body = some(1025) })
		if q.Kind != 4 {
			wrong(func(p *api.Packet) { p.Body = some(65) })
		}
	}
}

// Each part by itself, of each kind, at its edges and about them.
func TestEachPart(t *testing.T) {
	good, bad := 0, 0
	for _, q := range append(goods(), full(1), full(4), full(6)) {
		try := func(set func(p *api.Packet)) {
			t.Helper()
			if agrees(t, of(q, set)) {
				good++
			} else {
				bad++
			}
		}
		for _, x := range times {
			try(func(p *api.Packet) { p.Key.T = x })
			try(func(p *api.Packet) { p.No = x })
			try(func(p *api.Packet) { p.Stamp = x })
			try(func(p *api.Packet) { p.Value = x })
			try(func(p *api.Packet) { p.Key.Seq = uint32(x) })
		}
		for _, x := range smalls {
			try(func(p *api.Packet) { p.Hops = x })
			try(func(p *api.Packet) { p.Key.From = x })
			try(func(p *api.Packet) { p.To = x })
			try(func(p *api.Packet) { p.Index = x })
			try(func(p *api.Packet) { p.Total = x })
		}
		for _, n := range lengths {
			try(func(p *api.Packet) { p.Body = some(n) })
		}
	}
	if good < 500 || bad < 500 {
		t.Errorf("%d are good, %d are not", good, bad)
	}
}

// Parts that are each at an edge, all with all.
func TestAllParts(t *testing.T) {
	good := 0
	for kind := range 8 {
		for _, hops := range []int{0, 1, 63, 64} {
			for _, k := range []api.Key{{}, {Seq: 1}, {T: 1 << 60, From: 63, Seq: 9}, {T: 1<<60 + 1}, {From: -1}} {
				for _, no := range []int64{-1, 0, 1 << 60, 1<<60 + 1} {
					for _, to := range []int{-1, 0, 63} {
						for _, at := range [][2]int{{0, 0}, {-1, 1}, {0, 1}, {1, 1}, {254, 255}} {
							for _, n := range []int{0, 1, 64, 65} {
								for _, x := range []int64{0, 1, 2, 3} {
									p := api.Packet{Kind: kind, Hops: hops, Key: k, No: no, To: to, Index: at[0], Total: at[1], Body: some(n), Stamp: x % 2, Value: x / 2}
									if got := Good(p); got != slowGood(p) {
										t.Fatalf("%s: Good is %v", text(p), got)
									}
									if Good(p) {
										good++
									}
								}
							}
						}
					}
				}
			}
		}
	}
	// Of a probe and an echo Stamp and Value; of a beacon and an attend hops, key, No; of data hops, key, body; of a chunk hops, key, No, To, place, body.
	if want := 2 + 4 + 2*(2*3*2) + 2*3*4 + 2*3*2*2*2*3; good != want {
		t.Errorf("%d of them are good, not %d", good, want)
	}
}

// Bodies of all lengths about the edges, of the two kinds that have one; an empty one is as none.
func TestBodies(t *testing.T) {
	for _, kind := range []int{4, 6} {
		for _, q := range []api.Packet{bare(kind), plain(kind), greatest(kind)} {
			most := 1024
			if kind == 6 {
				most = 64
			}
			for n := range 1200 {
				p := q
				p.Body = some(n)
				if agrees(t, p) != (n <= most) {
					t.Errorf("kind %d, %d bytes", kind, n)
				}
			}
			p, none := q, q
			p.Body, none.Body = []byte{}, nil
			encodes(t, p, true, slowFrame(none))
			encodes(t, none, true, slowFrame(p))
			p.Body = some(5000)[:0]
			encodes(t, p, true, slowFrame(none))
		}
	}
	for _, kind := range []int{1, 2, 3, 5} {
		p := plain(kind)
		p.Body = []byte{}
		encodes(t, p, true, slowFrame(plain(kind)))
	}
}

// The longest frames of each kind; none is longer than a frame may be.
func TestGreatest(t *testing.T) {
	want := []int{0, 1 + 8 + 4, 1 + 16 + 4, 16 + 9 + 4, 16 + 2 + 1024 + 4, 16 + 9 + 4, 16 + 9 + 3 + 1 + 64 + 4}
	for _, kind := range kinds {
		p := greatest(kind)
		b, e := Encode(p)
		if e != api.OK || len(b) != want[kind] || Size(p) != want[kind] || len(b) > api.MaxFrame {
			t.Errorf("kind %d: %d bytes, error %d, size %d", kind, len(b), e, Size(p))
		}
		agrees(t, p)
	}
	next := chance(5)
	for range 20000 {
		p := drawn(next)
		if n := Size(p); n < 5 || n > want[p.Kind] {
			t.Fatalf("%s: size %d", brief(text(p)), n)
		}
	}
}

// apart tells what is wrong, if the one list is seen in the other one, or in the memory behind it. Both are changed.
func apart(in, out []byte) string {
	was := bytes.Clone(out)
	all := in[:cap(in)]
	for i := range all {
		all[i] ^= 0xFF
	}
	if !bytes.Equal(out, was) {
		return "what came in later is seen in what was told"
	}
	before := bytes.Clone(all)
	for i := range out[:cap(out)] {
		out[:cap(out)][i] = 0xAB
	}
	_ = append(out, 0xCD, 0xCD, 0xCD)
	if !bytes.Equal(all, before) {
		return "what was told is seen in what came in"
	}
	return ""
}

func TestFramesAreCopies(t *testing.T) {
	for _, kind := range []int{4, 6} {
		for _, n := range []int{0, 1, 2, 63, 64, 65, 1024} {
			for _, body := range [][]byte{some(n), roomy(n)} {
				p := plain(kind)
				p.Body = body
				if !slowGood(p) {
					continue
				}
				was := bytes.Clone(body[:cap(body)])
				a, _ := Encode(p)
				b, _ := Encode(p)
				frame := slowFrame(p)
				if !bytes.Equal(a, frame) || !bytes.Equal(b, frame) || !bytes.Equal(body[:cap(body)], was) {
					t.Fatalf("kind %d, %d bytes: another frame, or the body changed", kind, n)
				}
				if wrong := apart(body, a); wrong != "" {
					t.Errorf("kind %d, %d bytes of %d: %s", kind, n, cap(body), wrong)
				}
				if !bytes.Equal(b, frame) {
					t.Errorf("kind %d, %d bytes of %d: two frames share", kind, n, cap(body))
				}
			}
		}
	}
}

// P14.3

// At lengths alone: what they tell is asked only of those that a frame may have.
func TestDecodeOfLengths(t *testing.T) {
	for n := range 1300 {
		want := api.ErrSum
		if n < 5 {
			want = api.ErrShort
		}
		if n > 1100 {
			want = api.ErrLong
		}
		ones := some(n)
		for i := range ones {
			ones[i] = 1
		}
		refused(t, "of no rule", some(n), want)
		refused(t, "of ones", ones, want)
		reads(t, make([]byte, n))
		reads(t, bytes.Repeat([]byte{255}, n))
	}
	refused(t, "none", nil, api.ErrShort)
	refused(t, "none, with room", some(100)[:0], api.ErrShort)
	refused(t, "many", make([]byte, 1<<20), api.ErrLong)
	refused(t, "1100 noughts", make([]byte, 1100), api.ErrSum)
	refused(t, "1101 noughts", make([]byte, 1101), api.ErrLong)
}

// Under their own sum: four bytes are none's sum, and a frame longer than one may be is not read.
func TestDecodeOfLengthsUnderTheirSum(t *testing.T) {
	refused(t, "the sum of none", make([]byte, 4), api.ErrShort)
	for n := range 1300 {
		for _, b := range [][]byte{make([]byte, n), some(n), bytes.Repeat([]byte{255}, n)} {
			want := api.ErrKind
			switch {
			case n == 0:
				want = api.ErrShort
			case n+4 > 1100:
				want = api.ErrLong
			}
			if n > 0 {
				b[0] = []byte{0, 7, 255}[n%3]
			}
			refused(t, "no kind", sealed(b), want)
		}
		for _, p := range goods() {
			b := make([]byte, n)
			want := api.ErrForm
			if k := copy(b, slowInner(p)); k == n {
				continue
			}
			if n+4 > 1100 {
				want = api.ErrLong
			}
			refused(t, "bytes left", sealed(b), want)
		}
	}
}

// What is wrong with the length is told first, then what is wrong with the sum.
func TestDecodeOfTwoWrongs(t *testing.T) {
	for _, p := range goods() {
		frame := slowFrame(p)
		long := append(bytes.Clone(frame), make([]byte, 1101-len(frame))...)
		refused(t, "long, and not its sum", long, api.ErrLong)
		refused(t, "long, and bytes left", sealed(long[:1097]), api.ErrLong)
		short := bytes.Clone(frame[:4])
		refused(t, "short, and not its sum", short, api.ErrShort)
		for i := range frame {
			if i >= 5 {
				refused(t, "cut, and not its sum", bytes.Clone(frame[:i]), api.ErrSum)
			}
			for _, x := range []byte{1, 128, 255} {
				turned := bytes.Clone(frame)
				turned[i] ^= x
				refused(t, "one byte is another one", turned, api.ErrSum)
			}
		}
		refused(t, "one byte more", append(bytes.Clone(frame), 0), api.ErrSum)
		refused(t, "one byte ahead", append([]byte{0}, frame...), api.ErrSum)
	}
	for _, r := range wrongs {
		b := sealed(unhex(r.b))
		for _, i := range []int{1, 2, 3, 4} {
			turned := bytes.Clone(b)
			turned[len(b)-i] ^= 16
			refused(t, r.b+", and not its sum", turned, api.ErrSum)
		}
		upside := bytes.Clone(b)
		slices.Reverse(upside[len(b)-4:])
		refused(t, r.b+", its sum the highest byte first", upside, api.ErrSum)
	}
	for _, r := range frames {
		upside := unhex(r.want)
		slices.Reverse(upside[len(upside)-4:])
		refused(t, r.want+", its sum the highest byte first", upside, api.ErrSum)
	}
}

// wrongs are bytes which, under their own sum, are none of a frame.
var wrongs = []struct {
	b string
	e api.Errno
}{
	// Of no kind, whatever stands behind it.
	{"00", api.ErrKind}, {"07", api.ErrKind}, {"08", api.ErrKind}, {"40", api.ErrKind}, {"80", api.ErrKind}, {"83", api.ErrKind}, {"ff", api.ErrKind},
	{"00 00 00 00 00 00 00 00 00", api.ErrKind}, {"07 01 05 02 07 00 00 00 03", api.ErrKind}, {"00 00 80 00 40", api.ErrKind},
	// Probes and echoes.
	{"01", api.ErrShort}, {"01 00 00 00 00 00 00 00", api.ErrShort}, {"01 00 00 00 00 00 00 00 00 00", api.ErrForm}, {"01 00 00 00 00 00 00 00 00 00 00 00 00 00 00 00 00", api.ErrForm},
	{"02", api.ErrShort}, {"02 00 00 00 00 00 00 00 00", api.ErrShort}, {"02 00 00 00 00 00 00 00 00 00 00 00 00 00 00 00", api.ErrShort},
	{"02 00 00 00 00 00 00 00 00 00 00 00 00 00 00 00 00 00", api.ErrForm},
	// Heads of what is flooded.
	{"03", api.ErrShort}, {"04", api.ErrShort}, {"05", api.ErrShort}, {"06", api.ErrShort},
	{"03 00", api.ErrHops}, {"04 00", api.ErrHops}, {"05 00", api.ErrHops}, {"06 00", api.ErrHops}, {"03 40", api.ErrHops}, {"04 40", api.ErrHops}, {"05 41", api.ErrHops}, {"06 ff", api.ErrHops},
	{"03 01", api.ErrShort}, {"03 3f 80", api.ErrShort}, {"03 01 80 00", api.ErrForm}, {"03 01 80 80 80 80 80 80 80 80 80 80", api.ErrForm}, {"03 01 ff ff ff ff ff ff ff ff ff 02", api.ErrForm},
	{"03 01 81 80 80 80 80 80 80 80 10", api.ErrRange}, {"04 01 81 80 80 80 80 80 80 80 10", api.ErrRange}, {"05 01 ff ff ff ff ff ff ff ff ff 01", api.ErrRange}, {"06 01 ff ff ff ff ff ff ff ff 7f", api.ErrRange},
	{"03 01 80 80 80 80 80 80 80 80 10", api.ErrShort}, {"03 01 05", api.ErrShort}, {"03 01 05 40", api.ErrNode}, {"04 01 05 40", api.ErrNode}, {"05 01 05 ff", api.ErrNode}, {"06 01 05 80", api.ErrNode},
	{"03 01 05 3f", api.ErrShort}, {"03 01 05 02 07 00 00", api.ErrShort},
	// Beacons and attends.
	{"03 01 05 02 07 00 00 00", api.ErrShort}, {"05 01 05 02 07 00 00 00", api.ErrShort}, {"03 01 05 02 07 00 00 00 80", api.ErrShort}, {"05 01 05 02 07 00 00 00 80", api.ErrShort},
	{"03 01 05 02 07 00 00 00 80 00", api.ErrForm}, {"05 01 05 02 07 00 00 00 80 00", api.ErrForm},
	{"03 01 05 02 07 00 00 00 81 80 80 80 80 80 80 80 10", api.ErrRange}, {"05 01 05 02 07 00 00 00 81 80 80 80 80 80 80 80 10", api.ErrRange},
	{"03 01 05 02 07 00 00 00 ff ff ff ff ff ff ff ff ff 01", api.ErrRange}, {"05 01 05 02 07 00 00 00 ff ff ff ff ff ff ff ff ff 01", api.ErrRange},
	{"03 01 05 02 07 00 00 00 0b 00", api.ErrForm}, {"05 01 05 02 07 00 00 00 0b 00", api.ErrForm}, {"05 01 05 02 07 00 00 00 00 61", api.ErrForm},
	// Data.
	{"04 01 05 02 07 00 00 00", api.ErrShort}, {"04 01 05 02 07 00 00 00 80", api.ErrShort}, {"04 01 05 02 07 00 00 00 80 00", api.ErrForm}, {"04 01 05 02 07 00 00 00 02 68", api.ErrShort},
	{"04 01 05 02 07 00 00 00 80 08", api.ErrShort}, {"04 01 05 02 07 00 00 00 81 08", api.ErrLong}, {"04 01 05 02 07 00 00 00 ff ff ff ff ff ff ff ff ff 01", api.ErrLong},
	{"04 01 05 02 07 00 00 00 02 68 69 6a", api.ErrForm}, {"04 01 05 02 07 00 00 00 00 00", api.ErrForm},
	// Chunks.
	{"06 01 05 02 07 00 00 00", api.ErrShort}, {"06 01 05 02 07 00 00 00 81 80 80 80 80 80 80 80 10", api.ErrRange}, {"06 01 05 02 07 00 00 00 80 00", api.ErrForm},
	{"06 01 05 02 07 00 00 00 02", api.ErrShort}, {"06 01 05 02 07 00 00 00 02 40", api.ErrNode}, {"06 01 05 02 07 00 00 00 02 ff", api.ErrNode}, {"06 01 05 02 07 00 00 00 02 3f", api.ErrShort},
	{"06 01 05 02 07 00 00 00 02 03 00", api.ErrShort}, {"06 01 05 02 07 00 00 00 02 03 00 00", api.ErrForm}, {"06 01 05 02 07 00 00 00 02 03 01 01", api.ErrForm}, {"06 01 05 02 07 00 00 00 02 03 ff ff", api.ErrForm},
	{"06 01 05 02 07 00 00 00 02 03 00 01", api.ErrShort}, {"06 01 05 02 07 00 00 00 02 03 00 01 40", api.ErrShort}, {"06 01 05 02 07 00 00 00 02 03 00 01 41", api.ErrLong},
	{"06 01 05 02 07 00 00 00 02 03 00 01 82 00", api.ErrForm}, {"06 01 05 02 07 00 00 00 02 03 00 01 02 61 62 63", api.ErrForm},
	// Two at once: what is met first is told.
	{"03 00 80 00", api.ErrHops}, {"04 40 81 80 80 80 80 80 80 80 10", api.ErrHops}, {"04 00 05 40 07 00 00 00 81 08", api.ErrHops},
	{"03 01 80 00 40", api.ErrForm}, {"05 01 81 80 80 80 80 80 80 80 10 40", api.ErrRange}, {"04 01 05 40 07 00", api.ErrNode}, {"03 01 05 40 07 00 00 00 81 80 80 80 80 80 80 80 10", api.ErrNode},
	{"03 01 05 02 07 00 00 00 81 80 80 80 80 80 80 80 10 00", api.ErrRange}, {"05 01 05 02 07 00 00 00 80 00 00", api.ErrForm},
	{"06 01 05 02 07 00 00 00 81 80 80 80 80 80 80 80 10 40", api.ErrRange}, {"06 01 05 02 07 00 00 00 02 40 00 00", api.ErrNode}, {"06 01 05 02 07 00 00 00 02 03 01 01 41", api.ErrForm},
	{"04 01 05 02 07 00 00 00 81 08 00", api.ErrLong}, {"06 01 05 02 07 00 00 00 02 03 00 01 41 00", api.ErrLong}, {"06 01 05 02 07 00 00 00 02 40", api.ErrNode},
}

func TestDecodeOfWrongs(t *testing.T) {
	for _, r := range wrongs {
		b := sealed(unhex(r.b))
		refused(t, r.b, b, r.e)
		if e := reads(t, b); e != r.e {
			t.Errorf("%s: by the slow one error %d, not %d", r.b, e, r.e)
		}
	}
}

// Each kind under its own sum, cut short everywhere: there is always something that can't be read to its end.
func TestDecodeOfWhatIsCutShort(t *testing.T) {
	for _, p := range goods() {
		b := slowInner(p)
		for i := range b {
			refused(t, "cut short", sealed(b[:i]), api.ErrShort)
		}
	}
}

func TestDecodeOfBytesLeft(t *testing.T) {
	for _, p := range goods() {
		b := slowInner(p)
		for n := 1; len(b)+n+4 <= 1100; n++ {
			refused(t, "noughts left", sealed(append(bytes.Clone(b), make([]byte, n)...)), api.ErrForm)
			refused(t, "bytes left", sealed(append(bytes.Clone(b), some(n)...)), api.ErrForm)
		}
		frame := slowFrame(p)
		if len(frame) <= 500 {
			refused(t, "a frame behind a frame", sealed(append(bytes.Clone(frame), frame...)), api.ErrForm)
			refused(t, "a packet behind a packet", sealed(append(bytes.Clone(b), b...)), api.ErrForm)
		}
		if len(frame) < 1096 {
			refused(t, "a frame in a frame", sealed(frame), api.ErrForm)
		}
	}
}

// toldAll asks that each error that Decode may tell of bytes under their own sum came.
func toldAll(t *testing.T, told map[api.Errno]int) {
	t.Helper()
	all := []api.Errno{api.OK, api.ErrRange, api.ErrShort, api.ErrLong, api.ErrForm, api.ErrKind, api.ErrNode, api.ErrHops}
	for _, e := range all {
		if told[e] < 50 {
			t.Errorf("error %d came but %d times", e, told[e])
		}
	}
	if len(told) != len(all) {
		t.Errorf("other errors: %v", told)
	}
}

// Parts in all their ways of being right and wrong, all with all, of each kind.
func TestDecodeOfAllParts(t *testing.T) {
	nums := []string{"04", "80 01", "80 80 80 80 80 80 80 80 10", "81 80 80 80 80 80 80 80 10", "80 00", "ff ff ff ff ff ff ff ff ff 02"}
	var rests []string
	for _, no := range nums {
		rests = append(rests, no)
		for _, to := range []string{"3f", "40"} {
			for _, at := range []string{"00 01", "01 01", "00 00", "fe ff"} {
				for _, body := range []string{"00", "03 61 62 63", "40", "41", "80 00"} {
					rests = append(rests, no+to+at+body)
				}
			}
		}
	}
	rests = append(rests, "", "00", "81 08", "80 08", "02 68 69", "00 00 00 00 00 00 00 00", "05 00 00 00 00 00 00 80 06 00 00 00 00 00 00 80")
	told := map[api.Errno]int{}
	for _, kind := range []string{"00", "01", "02", "03", "04", "05", "06", "07"} {
		for _, hops := range []string{"", "00", "01", "3f", "40"} {
			for _, at := range []string{"", "05 3f 07 00 00 00", "05 40 07 00 00 00", "80 80 80 80 80 80 80 80 10 00 ff ff ff ff", "81 80 80 80 80 80 80 80 10 40", "80 00 40"} {
				for _, rest := range rests {
					b := unhex(kind + hops + at + rest)
					told[reads(t, sealed(b))]++
					told[reads(t, sealed(append(b, some(64)...)))]++
				}
			}
		}
	}
	toldAll(t, told)
}

func TestWhatIsDecodedIsItsOwn(t *testing.T) {
	for _, kind := range []int{4, 6} {
		for _, n := range []int{0, 1, 2, 63, 64, 65, 1024} {
			p := plain(kind)
			p.Body = some(n)
			if !slowGood(p) {
				continue
			}
			frame := slowFrame(p)
			for _, b := range [][]byte{frame, slices.Concat(frame, some(50))[:len(frame)]} {
				one, e := Decode(b)
				two, f := Decode(b)
				if e != api.OK || f != api.OK || text(one) != text(p) || text(two) != text(p) {
					t.Fatalf("kind %d, %d bytes: errors %d and %d", kind, n, e, f)
				}
				if wrong := apart(b, one.Body); wrong != "" {
					t.Errorf("kind %d, %d bytes: %s", kind, n, wrong)
				}
				if text(two) != text(p) {
					t.Errorf("kind %d, %d bytes: two packets share", kind, n)
				}
			}
		}
	}
}

// P14.4

// drawn is a good packet of some kind, with each part at its edge now and then.
func drawn(next func() uint64) api.Packet {
	pick := func(most uint64) uint64 {
		switch next() % 8 {
		case 0:
			return 0
		case 1:
			return most
		case 2:
			return next() % min(most+1, 200)
		}
		return next() >> (next() % 40) % (most + 1)
	}
	body := func(most uint64) []byte {
		b := make([]byte, pick(most))
		for i := range b {
			b[i] = byte(next() >> 16)
		}
		return b
	}
	k := api.Key{T: int64(pick(1 << 60)), From: int(pick(63)), Seq: uint32(pick(math.MaxUint32))}
	hops, no := 1+int(pick(62)), int64(pick(1<<60))
	stamp, value := int64(next()>>pick(63))-int64(pick(2)), int64(next()>>pick(63))-int64(pick(2))
	switch next() % 6 {
	case 0:
		return api.Packet{Kind: 1, Stamp: stamp}
	case 1:
		return api.Packet{Kind: 2, Stamp: stamp, Value: value}
	case 2:
		return api.Packet{Kind: 3, Hops: hops, Key: k, No: no}
	case 3:
		return api.Packet{Kind: 4, Hops: hops, Key: k, Body: body(1024)}
	case 4:
		return api.Packet{Kind: 5, Hops: hops, Key: k, No: no}
	}
	total := 1 + pick(254)
	return api.Packet{
		Kind: 6, Hops: hops, Key: k,
		No: no, To: int(pick(63)), Index: int(pick(total - 1)), Total: int(total), Body: body(64),
	}
}

func TestGoodPacketsAreDecoded(t *testing.T) {
	next := chance(1001)
	of := map[int]int{}
	for range 20000 {
		p := drawn(next)
		if !agrees(t, p) {
			t.Fatalf("%s is not good", brief(text(p)))
		}
		of[p.Kind]++
		if t.Failed() {
			t.FailNow()
		}
	}
	for _, kind := range kinds {
		if of[kind] < 1000 {
			t.Errorf("but %d of kind %d", of[kind], kind)
		}
	}
}

// What the layers of each kind make is decoded as they made it.
func TestWhatWasMadeIsDecoded(t *testing.T) {
	next := chance(2002)
	for range 5000 {
		d := drawn(next)
		k := api.Key{T: int64(next() >> 4), From: int(next() % 64), Seq: uint32(next())}
		probe := pulse.Probe(int64(next()))
		echo, ok := pulse.Echo(probe, int64(next()))
		if !ok {
			t.Fatal("no echo")
		}
		l := []api.Packet{probe, echo, pulse.Beacon(k, d.No), data.New(k, d.Body), attend.New(k, d.No), chunk.New(k, d.No, d.To, 0, 1, d.Body[:min(len(d.Body), 64)])}
		for i, p := range l {
			if p.Kind != i+1 || !agrees(t, p) {
				t.Fatalf("%s is not good", brief(text(p)))
			}
		}
		if t.Failed() {
			t.FailNow()
		}
	}
}

// Packets of no rule: most are not good; what is good has a frame that is decoded.
func TestPacketsByChance(t *testing.T) {
	next := chance(3003)
	good := 0
	for range 40000 {
		p := drawn(next)
		q := full(p.Kind)
		switch next() % 12 {
		case 0:
			p.Kind = int(next()%9) - 1
		case 1:
			p.Hops += int(next()%3) - 1
		case 2:
			p.Key.T = int64(next() >> (next() % 6))
		case 3:
			p.Key.From += int(next()%3) - 1
		case 4:
			p.No += int64(next()%3) - 1
		case 5:
			p.To = q.To
		case 6:
			p.Index += int(next()%3) - 1
		case 7:
			p.Total += int(next()%3) - 1
		case 8:
			p.Body = some(int(next() % 80))
		case 9:
			p.Stamp, p.Value = q.Stamp, int64(next()%2)
		}
		if agrees(t, p) {
			good++
		}
		if t.Failed() {
			t.FailNow()
		}
	}
	if good < 10000 || good > 35000 {
		t.Errorf("%d are good", good)
	}
}

// Bytes of no rule under their own sum: what is decoded is good and has just that frame.
func TestBytesByChance(t *testing.T) {
	next := chance(77)
	told := map[api.Errno]int{}
	for range 100000 {
		b := make([]byte, 1+next()%30)
		if next()%8 == 0 {
			b = make([]byte, 1+next()%90)
		}
		// A number that begins here goes on for so many bytes, now and then.
		from, high := 2+int(next()%8), int(next()%24)-12
		for i := range b {
			b[i] = byte(next() >> 24)
			if i >= from && i < from+high {
				b[i] |= 128
				continue
			}
			switch next() % 5 {
			case 0:
				b[i] %= 70
			case 1:
				b[i] %= 4
			case 2:
				b[i] |= 128
			case 3:
				b[i] = 0
			}
		}
		if next()%8 != 0 {
			b[0] = byte(1 + next()%6)
		}
		if len(b) > 1 && next()%2 == 0 {
			b[1] = byte(1 + next()%63)
		}
		told[reads(t, sealed(b))]++
		if t.Failed() {
			t.FailNow()
		}
	}
	toldAll(t, told)
}

// Frames of good packets of which one byte is changed, is missing or is one too many, under the new sum.
func TestBytesNearlyGood(t *testing.T) {
	next := chance(78)
	told := map[api.Errno]int{}
	for range 50000 {
		b := slowInner(drawn(next))
		i := int(next() % uint64(min(len(b), 30)))
		switch next() % 4 {
		case 0:
			b[i] = byte(next() >> 16)
		case 1:
			b[i] += byte(next()%3) - 1
		case 2:
			b = slices.Delete(b, i, i+1)
		case 3:
			b = slices.Insert(b, i, byte(next()>>16))
		}
		told[reads(t, sealed(b))]++
		if t.Failed() {
			t.FailNow()
		}
	}
	toldAll(t, told)
}

// turn turns those bits of bytes from the first one on, each whose bit of pattern is 1; it tells whether one was turned.
func turn(b []byte, first int, pattern uint32) bool {
	turned := false
	for i := range 32 {
		at := first + i
		if pattern>>i&1 == 1 && at < 8*len(b) {
			b[at/8] ^= 1 << (at % 8)
			turned = true
		}
	}
	return turned
}

// bursts turns a frame's bits from each place on, by patterns that a function tells, and asks that it is refused.
func bursts(t *testing.T, frame []byte, patterns func(first int) []uint32) {
	t.Helper()
	b := bytes.Clone(frame)
	for first := range 8 * len(frame) {
		for _, pattern := range patterns(first) {
			if !turn(b, first, pattern) {
				continue
			}
			if p, e := Decode(b); e != api.ErrSum || text(p) != text(api.Packet{}) {
				t.Fatalf("%s, %x from bit %d on: error %d, %s", brief(hex.EncodeToString(frame)), pattern, first, e, brief(text(p)))
			}
			turn(b, first, pattern)
		}
	}
	if !bytes.Equal(b, frame) {
		t.Errorf("%s became %s", brief(hex.EncodeToString(frame)), brief(hex.EncodeToString(b)))
	}
}

// At each place of the frames, the sum's own bytes among them, all widths, the outermost bits of each turned: these alone, all between, and some.
func TestBurstsOfAllWidths(t *testing.T) {
	next := chance(404)
	for _, p := range goods() {
		frame := slowFrame(p)
		if len(frame) > 100 {
			continue
		}
		bursts(t, frame, func(int) []uint32 {
			l := []uint32{1}
			for wide := 2; wide <= 32; wide++ {
				ends := uint32(1) | 1<<(wide-1)
				all := uint32(1<<wide - 1)
				l = append(l, ends, all, ends|uint32(next()>>8)&all)
			}
			return l
		})
	}
}

// All patterns of up to ten bits, at each place of short frames.
func TestBurstsOfAllPatterns(t *testing.T) {
	var all []uint32
	for pattern := uint32(1); pattern < 1<<10; pattern += 2 {
		all = append(all, pattern)
	}
	for _, p := range []api.Packet{bare(1), plain(4), plain(5)} {
		bursts(t, slowFrame(p), func(int) []uint32 { return all })
	}
}

// The longest frames, and packets by chance, at each place.
func TestBurstsOfLongFrames(t *testing.T) {
	next := chance(505)
	bursts(t, slowFrame(greatest(4)), func(first int) []uint32 {
		wide := 1 + first%32
		ends := uint32(1) | 1<<(wide-1)
		return []uint32{ends, ends | uint32(next()>>8)&uint32(1<<wide-1), math.MaxUint32}
	})
	for range 300 {
		p := drawn(next)
		frame := slowFrame(p)
		bursts(t, frame, func(int) []uint32 {
			if len(frame) > 100 && next()%16 != 0 {
				return nil
			}
			return []uint32{uint32(next()>>8) | 1, uint32(next()>>8) | 1<<31, 1}
		})
	}
}
