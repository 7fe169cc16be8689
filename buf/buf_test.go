package buf

import (
	"bytes"
	"encoding/hex"
	"fmt"
	"math"
	"math/big"
	"slices"
	"strings"
	"testing"

	"angelus/api"
)

// chance answers numbers of no rule, the same ones each time.
func chance(x uint64) func() uint64 {
	return func() uint64 {
		x ^= x << 13
		x ^= x >> 7
		x ^= x << 17
		return x
	}
}

// some are n bytes of no rule.
func some(n int) []byte {
	next := chance(0x0123456789abcdef + uint64(n)<<20)
	b := make([]byte, n)
	for i := range b {
		b[i] = byte(next() >> 24)
	}
	return b
}

// numbers are small ones, those on both sides of each power of 2, the ends, and some of no rule, of all widths.
func numbers() []uint64 {
	var l []uint64
	for x := uint64(0); x < 300; x++ {
		l = append(l, x)
	}
	for i := 8; i < 64; i++ {
		p := uint64(1) << i
		l = append(l, p-2, p-1, p, p+1)
	}
	l = append(l, math.MaxUint64-1, math.MaxUint64)
	next := chance(5)
	for i := 0; i < 3000; i++ {
		l = append(l, next()>>(next()%64))
	}
	return l
}

// signed are numbers with their sign: small ones, both sides of each power of 2, the ends, and some of no rule.
func signed() []int64 {
	l := []int64{math.MinInt64, math.MinInt64 + 1, math.MaxInt64 - 1, math.MaxInt64}
	for _, u := range numbers() {
		l = append(l, int64(u), -int64(u), int64(u/2), -int64(u/2), ^int64(u/2))
	}
	return l
}

// inSevens is x as P5.1 tells Num, word by word: sevens of bits, each with 128 more but the last one.
func inSevens(x *big.Int) []byte {
	var l []byte
	x = new(big.Int).Set(x)
	for base := big.NewInt(128); ; {
		seven := new(big.Int)
		x.DivMod(x, base, seven)
		if x.Sign() == 0 {
			return append(l, byte(seven.Int64()))
		}
		l = append(l, byte(seven.Int64())+128)
	}
}

func slowNum(x uint64) []byte { return inSevens(new(big.Int).SetUint64(x)) }

// slowInt is P2.3's Zig (2 x from 0 on, -2 x - 1 of others) in sevens.
func slowInt(x int64) []byte {
	z := new(big.Int).Mul(big.NewInt(2), big.NewInt(x))
	if x < 0 {
		z.Neg(z)
		z.Sub(z, big.NewInt(1))
	}
	return inSevens(z)
}

func slowFixed(x uint64, n int) []byte {
	var l []byte
	for i := 0; i < n; i++ {
		l = append(l, byte(x%256))
		x /= 256
	}
	return l
}

func slowBytes(b []byte) []byte { return slices.Concat(slowNum(uint64(len(b))), b) }

// unhex reads bytes told by their digits; blanks are for the eye.
func unhex(s string) []byte {
	b, err := hex.DecodeString(strings.ReplaceAll(s, " ", ""))
	if err != nil {
		panic(err)
	}
	return b
}

// write is one call of a Writer, and what it should write.
type write struct {
	name string
	call func(w *Writer)
	want []byte
	err  api.Errno
}

func byteCall(b ...byte) write {
	return write{fmt.Sprintf("Byte(%.20x)", b), func(w *Writer) { w.Byte(b...) }, b, api.OK}
}

func fixedCall(x uint64, n int) write {
	c := write{fmt.Sprintf("Fixed(%d, %d)", x, n), func(w *Writer) { w.Fixed(x, n) }, nil, api.OK}
	if n < 1 || n > 8 {
		c.err = api.ErrArg
	} else {
		c.want = slowFixed(x, n)
	}
	return c
}

func numCall(x uint64) write {
	return write{fmt.Sprintf("Num(%d)", x), func(w *Writer) { w.Num(x) }, slowNum(x), api.OK}
}

func intCall(x int64) write {
	return write{fmt.Sprintf("Int(%d)", x), func(w *Writer) { w.Int(x) }, slowInt(x), api.OK}
}

func bytesCall(b []byte) write {
	return write{fmt.Sprintf("Bytes(%d, %.20x)", len(b), b), func(w *Writer) { w.Bytes(b) }, slowBytes(b), api.OK}
}

// writes are calls of all kinds that write something.
func writes() []write {
	return []write{
		byteCall(0), byteCall(255), byteCall(1, 2), byteCall(some(9)...), byteCall(some(300)...),
		fixedCall(0, 1), fixedCall(258, 1), fixedCall(258, 2), fixedCall(math.MaxUint64, 7), fixedCall(math.MaxUint64, 8),
		numCall(0), numCall(127), numCall(128), numCall(300), numCall(1 << 63), numCall(math.MaxUint64),
		intCall(0), intCall(-1), intCall(-65), intCall(math.MinInt64), intCall(math.MaxInt64),
		bytesCall(nil), bytesCall([]byte("bell")), bytesCall(some(127)), bytesCall(some(128)),
	}
}

// room is a most that is enough for each test.
const room = 1 << 20

// written is what a Writer with enough room has behind some calls.
func written(t *testing.T, calls ...write) []byte {
	t.Helper()
	w := New(room)
	for _, c := range calls {
		c.call(w)
	}
	b, err := w.Done()
	if err != api.OK {
		t.Fatalf("Done: error %d", err)
	}
	return b
}

// wants checks what a Writer has.
func wants(t *testing.T, what string, w *Writer, want []byte, err api.Errno) {
	t.Helper()
	b, e := w.Done()
	if !bytes.Equal(b, want) || e != err {
		t.Errorf("%s: Done: %.60x, error %d; wanted %.60x, error %d", what, b, e, want, err)
	}
}

// P5.1

func TestWriterNum(t *testing.T) {
	for _, r := range []struct {
		x    uint64
		want string
	}{
		{300, "AC 02"}, // the chapter's example
		{0, "00"},
		{1, "01"},
		{127, "7F"},
		{128, "80 01"},
		{129, "81 01"},
		{255, "FF 01"},
		{256, "80 02"},
		{1<<14 - 1, "FF 7F"},
		{1 << 14, "80 80 01"},
		{1<<21 - 1, "FF FF 7F"},
		{1 << 21, "80 80 80 01"},
		{1<<28 - 1, "FF FF FF 7F"},
		{1 << 28, "80 80 80 80 01"},
		{1<<35 - 1, "FF FF FF FF 7F"},
		{1 << 35, "80 80 80 80 80 01"},
		{1<<42 - 1, "FF FF FF FF FF 7F"},
		{1 << 42, "80 80 80 80 80 80 01"},
		{1<<49 - 1, "FF FF FF FF FF FF 7F"},
		{1 << 49, "80 80 80 80 80 80 80 01"},
		{1<<56 - 1, "FF FF FF FF FF FF FF 7F"},
		{1 << 56, "80 80 80 80 80 80 80 80 01"},
		{1<<63 - 1, "FF FF FF FF FF FF FF FF 7F"},
		{1 << 63, "80 80 80 80 80 80 80 80 80 01"},
		{1<<63 + 1, "81 80 80 80 80 80 80 80 80 01"},
		{math.MaxUint64, "FF FF FF FF FF FF FF FF FF 01"},
	} {
		if got := written(t, numCall(r.x)); !bytes.Equal(got, unhex(r.want)) {
			t.Errorf("Num(%d): %X; wanted %s", r.x, got, r.want)
		}
	}
	for _, x := range numbers() {
		if got, want := written(t, numCall(x)), slowNum(x); !bytes.Equal(got, want) {
			t.Errorf("Num(%d): %X; wanted %X", x, got, want)
		}
	}
}

func TestWriterInt(t *testing.T) {
	for _, r := range []struct {
		x    int64
		want string
	}{
		{-1, "01"}, // the chapter's example
		{0, "00"},
		{1, "02"},
		{-2, "03"},
		{63, "7E"},
		{-64, "7F"},
		{64, "80 01"},
		{-65, "81 01"},
		{-150, "AB 02"},
		{1<<62 - 1, "FE FF FF FF FF FF FF FF 7F"},
		{-1 << 62, "FF FF FF FF FF FF FF FF 7F"},
		{1 << 62, "80 80 80 80 80 80 80 80 80 01"},
		{math.MaxInt64, "FE FF FF FF FF FF FF FF FF 01"},
		{math.MinInt64, "FF FF FF FF FF FF FF FF FF 01"},
	} {
		if got := written(t, intCall(r.x)); !bytes.Equal(got, unhex(r.want)) {
			t.Errorf("Int(%d): %X; wanted %s", r.x, got, r.want)
		}
	}
	for _, x := range signed() {
		if got, want := written(t, intCall(x)), slowInt(x); !bytes.Equal(got, want) {
			t.Errorf("Int(%d): %X; wanted %X", x, got, want)
		}
	}
}

func TestWriterFixed(t *testing.T) {
	for _, r := range []struct {
		x    uint64
		n    int
		want string
	}{
		{258, 2, "02 01"}, // the chapter's example
		{258, 1, "02"},    // what is above falls away
		{258, 3, "02 01 00"},
		{258, 8, "02 01 00 00 00 00 00 00"},
		{0, 1, "00"},
		{0, 8, "00 00 00 00 00 00 00 00"},
		{0x0807060504030201, 1, "01"},
		{0x0807060504030201, 4, "01 02 03 04"},
		{0x0807060504030201, 7, "01 02 03 04 05 06 07"},
		{0x0807060504030201, 8, "01 02 03 04 05 06 07 08"},
		{math.MaxUint64, 1, "FF"},
		{math.MaxUint64, 8, "FF FF FF FF FF FF FF FF"},
		{1 << 63, 7, "00 00 00 00 00 00 00"},
		{1 << 63, 8, "00 00 00 00 00 00 00 80"},
	} {
		if got := written(t, fixedCall(r.x, r.n)); !bytes.Equal(got, unhex(r.want)) {
			t.Errorf("Fixed(%d, %d): %X; wanted %s", r.x, r.n, got, r.want)
		}
	}
	for _, x := range numbers() {
		for n := 1; n <= 8; n++ {
			if got, want := written(t, fixedCall(x, n)), slowFixed(x, n); !bytes.Equal(got, want) {
				t.Errorf("Fixed(%d, %d): %X; wanted %X", x, n, got, want)
			}
		}
	}
}

// noWidths are what is no width of a number.
var noWidths = []int{0, 9, 10, 16, 64, 256, 257, 1<<32 + 1, math.MaxInt, -1, -2, -8, -1 << 32, math.MinInt}

func TestWriterFixedOfNoWidth(t *testing.T) {
	for _, n := range noWidths {
		for _, most := range []int{0, 1, room} {
			for _, x := range []uint64{0, 258, math.MaxUint64} {
				w := New(most)
				w.Fixed(x, n)
				wants(t, fmt.Sprintf("New(%d), Fixed(%d, %d)", most, x, n), w, nil, api.ErrArg)
			}
		}
	}
}

func TestWriterByte(t *testing.T) {
	for _, b := range [][]byte{nil, {}, {0}, {1}, {127}, {128}, {255}, {7, 8}, {0, 0, 0}, some(10), some(256), some(5000)} {
		if got := written(t, byteCall(b...)); !bytes.Equal(got, b) {
			t.Errorf("Byte(%.40x): %.40x", b, got)
		}
	}
	w := New(4)
	w.Byte()
	w.Byte(5)
	w.Byte()
	w.Byte(6, 7, 8)
	wants(t, "Byte, again and again", w, []byte{5, 6, 7, 8}, api.OK)
}

func TestWriterBytes(t *testing.T) {
	for _, r := range []struct {
		b    []byte
		want string
	}{
		{nil, "00"},
		{[]byte{}, "00"},
		{[]byte{0}, "01 00"},
		{[]byte{255}, "01 FF"},
		{[]byte("bell"), "04 62 65 6C 6C"},
	} {
		if got := written(t, bytesCall(r.b)); !bytes.Equal(got, unhex(r.want)) {
			t.Errorf("Bytes(%x): %X; wanted %s", r.b, got, r.want)
		}
	}
	for _, n := range []int{0, 1, 126, 127, 128, 129, 255, 256, 1024, 1100, 1<<14 - 1, 1 << 14, 100000} {
		b := some(n)
		if got := written(t, bytesCall(b)); !bytes.Equal(got, slowBytes(b)) {
			t.Errorf("Bytes of %d: %.20x..", n, got)
		}
	}
}

// A Writer takes as many bytes as there may be; with one more there are none.
func TestWriterMost(t *testing.T) {
	for _, c := range writes() {
		for _, ahead := range []int{0, 1, 5, 200} {
			n := ahead + len(c.want)
			for _, most := range []int{n, n + 1, n + 1000, math.MaxInt} {
				w := New(most)
				w.Byte(some(ahead)...)
				c.call(w)
				wants(t, fmt.Sprintf("New(%d), %d bytes, %s", most, ahead, c.name), w, slices.Concat(some(ahead), c.want), api.OK)
			}
			for most := ahead; most < n; most++ {
				w := New(most)
				w.Byte(some(ahead)...)
				c.call(w)
				wants(t, fmt.Sprintf("New(%d), %d bytes, %s", most, ahead, c.name), w, nil, api.ErrLong)
			}
		}
	}
}

// A most below 0 is one of 0: nothing may be written but no bytes.
func TestWriterMostOfNone(t *testing.T) {
	for _, most := range []int{0, -1, -2, -1100, -1 << 32, math.MinInt + 1, math.MinInt} {
		wants(t, fmt.Sprintf("New(%d)", most), New(most), nil, api.OK)
		w := New(most)
		w.Byte()
		w.Byte([]byte{}...)
		wants(t, fmt.Sprintf("New(%d), Byte of none", most), w, nil, api.OK)
		for _, c := range writes() {
			w := New(most)
			c.call(w)
			wants(t, fmt.Sprintf("New(%d), %s", most, c.name), w, nil, api.ErrLong)
		}
	}
}

// A Writer that is full takes no bytes still; Bytes of none is one byte, its length.
func TestWriterFull(t *testing.T) {
	w := New(3)
	w.Byte(1, 2, 3)
	w.Byte()
	w.Byte([]byte{}...)
	wants(t, "Byte of none of a full Writer", w, []byte{1, 2, 3}, api.OK)
	w.Bytes(nil)
	wants(t, "Bytes of none of a full Writer", w, nil, api.ErrLong)
}

// Once something is wrong nothing more is written, though there were room; what was wrong first stays.
func TestWriterFirst(t *testing.T) {
	long := func(w *Writer) { w.Byte(make([]byte, 101)...) }
	noWidth := func(w *Writer) { w.Fixed(1, 9) }
	for _, r := range []struct {
		name  string
		calls []func(w *Writer)
		want  api.Errno
	}{
		{"long", []func(w *Writer){long}, api.ErrLong},
		{"no width", []func(w *Writer){noWidth}, api.ErrArg},
		{"long, no width", []func(w *Writer){long, noWidth}, api.ErrLong},
		{"no width, long", []func(w *Writer){noWidth, long}, api.ErrArg},
		{"long, no width, long", []func(w *Writer){long, noWidth, long}, api.ErrLong},
		{"no width, long, no width", []func(w *Writer){noWidth, long, noWidth}, api.ErrArg},
	} {
		for _, ahead := range []int{0, 4, 100} { // with 100 the Writer is full: a width that is none is wrong ahead of that
			w := New(100)
			w.Byte(some(ahead)...)
			for _, call := range r.calls {
				call(w)
				wants(t, fmt.Sprintf("%s behind %d", r.name, ahead), w, nil, r.want)
			}
			w.Byte()
			wants(t, r.name+", no bytes", w, nil, r.want)
			for _, c := range writes() {
				c.call(w)
				wants(t, r.name+", "+c.name, w, nil, r.want)
			}
			if len(w.written) != ahead {
				t.Errorf("%s behind %d: %d bytes were written", r.name, ahead, len(w.written))
			}
		}
	}
}

// Calls of no rule, one behind another, with a most of all sizes: each against what was written so far.
func TestWriterManyCalls(t *testing.T) {
	all := append(writes(), byteCall(), bytesCall([]byte{}), byteCall(9), numCall(7), intCall(-7), fixedCall(7, 1))
	for _, n := range noWidths {
		all = append(all, fixedCall(7, n))
	}
	next := chance(11)
	for i := 0; i < 4000; i++ {
		most := int(next() % 300)
		w, first := New(most), api.OK
		var have []byte
		for k := uint64(0); k < next()%20; k++ {
			c := all[next()%uint64(len(all))]
			c.call(w)
			if first == api.OK {
				if c.err != api.OK {
					first = c.err
				} else if len(have)+len(c.want) > most {
					first = api.ErrLong
				} else {
					have = slices.Concat(have, c.want)
				}
			}
			if first != api.OK {
				have = nil
			}
			wants(t, fmt.Sprintf("run %d, call %d, %s", i, k, c.name), w, have, first)
		}
	}
}

// Done may be asked again, and more be written behind it; what it answered stays as it was, and shares nothing.
func TestDoneSharesNothing(t *testing.T) {
	for _, n := range []int{1, 2, 3, 7, 8, 9, 31, 32, 33, 100, 1000} {
		w := New(2 * n)
		w.Byte(some(n)...)
		one, _ := w.Done()
		two, _ := w.Done()
		for i := range one {
			one[i] ^= 0xFF
		}
		_ = append(one, 0xEE, 0xEE, 0xEE)
		if !bytes.Equal(two, some(n)) {
			t.Errorf("%d bytes: two answers of Done share", n)
		}
		for range n {
			w.Byte(77)
		}
		wants(t, fmt.Sprintf("%d bytes, changed from without, and %d more", n, n), w, append(some(n), bytes.Repeat([]byte{77}, n)...), api.OK)
		if !bytes.Equal(two, some(n)) {
			t.Errorf("%d bytes: what Done answered was changed by writing more", n)
		}
	}
}

// What is handed in is not changed, nor what lies behind it, and it is not kept.
func TestWriterHandedInStay(t *testing.T) {
	for _, n := range []int{0, 1, 4, 64, 127, 128, 1000} {
		for name, call := range map[string]func(w *Writer, b []byte){
			"Byte":  func(w *Writer, b []byte) { w.Byte(b...) },
			"Bytes": func(w *Writer, b []byte) { w.Bytes(b) },
		} {
			in := append(some(n), "behind it"...)
			part := in[:n]
			w := New(room)
			call(w, part)
			w.Byte(1, 2, 3)
			before, _ := w.Done()
			before = slices.Clone(before)
			if !bytes.Equal(part, some(n)) || string(in[n:]) != "behind it" {
				t.Errorf("%s of %d bytes changed what was handed in", name, n)
			}
			for i := range in {
				in[i] ^= 0xFF
			}
			wants(t, fmt.Sprintf("%s of %d bytes that were changed since", name, n), w, before, api.OK)
		}
	}
}

// Two Writers have nothing to do with each other.
func TestWritersApart(t *testing.T) {
	one, two := New(4), New(2)
	one.Byte(1)
	two.Byte(2)
	two.Fixed(1, 0)
	one.Byte(3)
	wants(t, "one", one, []byte{1, 3}, api.OK)
	wants(t, "two", two, nil, api.ErrArg)
}

func TestWriterOfNil(t *testing.T) {
	var w *Writer
	for _, c := range append(writes(), byteCall(), fixedCall(1, 0), fixedCall(1, 9)) {
		c.call(w)
		wants(t, "nil, "+c.name, w, nil, api.ErrArg)
	}
	b := []byte("bell")
	w.Bytes(b)
	w.Byte(b...)
	if string(b) != "bell" {
		t.Error("a nil Writer changed what was handed in")
	}
}

// P5.2

// slowReader reads as P5.2 tells, word by word.
type slowReader struct {
	left []byte
	err  api.Errno
}

func (s *slowReader) fail(err api.Errno) {
	s.left, s.err = nil, err
}

func (s *slowReader) fixed(n int) uint64 {
	if s.err != api.OK {
		return 0
	}
	if n < 1 || n > 8 {
		s.fail(api.ErrArg)
		return 0
	}
	if len(s.left) < n {
		s.fail(api.ErrShort)
		return 0
	}
	x := uint64(0)
	for i := n - 1; i >= 0; i-- {
		x = x*256 + uint64(s.left[i])
	}
	s.left = s.left[n:]
	return x
}

func (s *slowReader) num() uint64 {
	if s.err != api.OK {
		return 0
	}
	n := 0 // bytes that are 128 or more
	for n < len(s.left) && s.left[n] >= 128 {
		n++
	}
	if n >= 10 {
		s.fail(api.ErrForm)
		return 0
	}
	if n == len(s.left) {
		s.fail(api.ErrShort)
		return 0
	}
	x := new(big.Int)
	for i := n; i >= 0; i-- {
		x.Mul(x, big.NewInt(128))
		x.Add(x, big.NewInt(int64(s.left[i]%128)))
	}
	if n > 0 && s.left[n] == 0 || x.BitLen() > 64 {
		s.fail(api.ErrForm)
		return 0
	}
	s.left = s.left[n+1:]
	return x.Uint64()
}

func (s *slowReader) int() int64 {
	z := new(big.Int).SetUint64(s.num())
	x, odd := new(big.Int).DivMod(z, big.NewInt(2), new(big.Int))
	if odd.Sign() != 0 { // -2 x - 1 of an x below 0
		x.Neg(x)
		x.Sub(x, big.NewInt(1))
	}
	return x.Int64()
}

func (s *slowReader) bytes(most int) []byte {
	n := s.num()
	if s.err != api.OK {
		return nil
	}
	if new(big.Int).SetUint64(n).Cmp(big.NewInt(int64(most))) > 0 {
		s.fail(api.ErrLong)
		return nil
	}
	if n > uint64(len(s.left)) {
		s.fail(api.ErrShort)
		return nil
	}
	b := slices.Clone(s.left[:n])
	s.left = s.left[n:]
	return b
}

// read is one call of a Reader, and the same of the slow one; what they answer is told as text.
type read struct {
	name string
	call func(r *Reader) string
	slow func(s *slowReader) string
}

func readByte() read {
	return read{"Byte", func(r *Reader) string { return fmt.Sprint(r.Byte()) }, func(s *slowReader) string { return fmt.Sprint(s.fixed(1)) }}
}

func readFixed(n int) read {
	return read{fmt.Sprintf("Fixed(%d)", n), func(r *Reader) string { return fmt.Sprint(r.Fixed(n)) }, func(s *slowReader) string { return fmt.Sprint(s.fixed(n)) }}
}

func readNum() read {
	return read{"Num", func(r *Reader) string { return fmt.Sprint(r.Num()) }, func(s *slowReader) string { return fmt.Sprint(s.num()) }}
}

func readInt() read {
	return read{"Int", func(r *Reader) string { return fmt.Sprint(r.Int()) }, func(s *slowReader) string { return fmt.Sprint(s.int()) }}
}

func readBytes(most int) read {
	return read{fmt.Sprintf("Bytes(%d)", most), func(r *Reader) string { return fmt.Sprintf("%x", r.Bytes(most)) }, func(s *slowReader) string { return fmt.Sprintf("%x", s.bytes(most)) }}
}

// reads are calls of all kinds.
func reads() []read {
	l := []read{readByte(), readNum(), readInt()}
	for n := 1; n <= 8; n++ {
		l = append(l, readFixed(n))
	}
	for _, n := range noWidths {
		l = append(l, readFixed(n))
	}
	for _, most := range []int{0, 1, 2, 3, 4, 5, 100, 127, 128, math.MaxInt, -1, math.MinInt} {
		l = append(l, readBytes(most))
	}
	return l
}

// state holds a Reader's Left, Err and End against the slow one's.
func state(t *testing.T, what string, r *Reader, s *slowReader) {
	t.Helper()
	end := s.err
	if end == api.OK && len(s.left) > 0 {
		end = api.ErrForm
	}
	if r.Left() != len(s.left) || r.Err() != s.err || r.End() != end {
		t.Errorf("%s: Left %d, Err %d, End %d; wanted %d, %d, %d", what, r.Left(), r.Err(), r.End(), len(s.left), s.err, end)
	}
}

// both does one call of both, and holds all against each other.
func both(t *testing.T, what string, c read, r *Reader, s *slowReader) {
	t.Helper()
	what += ", " + c.name
	if got, want := c.call(r), c.slow(s); got != want {
		t.Errorf("%s: %s; wanted %s", what, got, want)
	}
	state(t, what, r, s)
}

func TestReaderNum(t *testing.T) {
	for _, c := range []struct {
		b    string
		want uint64
		left int
		err  api.Errno
	}{
		{"AC 02", 300, 0, api.OK}, // the chapter's example
		{"AC 02 AC", 300, 1, api.OK},
		{"00", 0, 0, api.OK},
		{"00 00", 0, 1, api.OK},
		{"01", 1, 0, api.OK},
		{"7F", 127, 0, api.OK},
		{"80 01", 128, 0, api.OK},
		{"FF 7F", 1<<14 - 1, 0, api.OK},
		{"80 80 01", 1 << 14, 0, api.OK},
		{"FF FF FF FF FF FF FF FF 7F", 1<<63 - 1, 0, api.OK},
		{"80 80 80 80 80 80 80 80 80 01", 1 << 63, 0, api.OK},
		{"FF FF FF FF FF FF FF FF FF 01", math.MaxUint64, 0, api.OK},
		{"FF FF FF FF FF FF FF FF FF 01 80 00", math.MaxUint64, 2, api.OK},
		{"", 0, 0, api.ErrShort},
		{"80", 0, 0, api.ErrShort},
		{"FF", 0, 0, api.ErrShort},
		{"FF FF", 0, 0, api.ErrShort},
		{"80 80 80 80 80 80 80 80 80", 0, 0, api.ErrShort}, // nine, and no end
		{"FF FF FF FF FF FF FF FF FF", 0, 0, api.ErrShort},
		{"80 80 80 80 80 80 80 80 80 80", 0, 0, api.ErrForm}, // ten of 128 or more, ahead of the end
		{"FF FF FF FF FF FF FF FF FF FF", 0, 0, api.ErrForm},
		{"FF FF FF FF FF FF FF FF FF FF 01", 0, 0, api.ErrForm},
		{"80 80 80 80 80 80 80 80 80 80 00", 0, 0, api.ErrForm},
		{"80 00", 0, 0, api.ErrForm}, // a last byte of 0
		{"FF 00", 0, 0, api.ErrForm},
		{"80 80 00", 0, 0, api.ErrForm},
		{"FF FF FF FF FF FF FF FF 00", 0, 0, api.ErrForm},
		{"FF FF FF FF FF FF FF FF FF 00", 0, 0, api.ErrForm},
		{"80 80 80 80 80 80 80 80 80 02", 0, 0, api.ErrForm}, // more than 64 bits
		{"FF FF FF FF FF FF FF FF FF 02", 0, 0, api.ErrForm},
		{"FF FF FF FF FF FF FF FF FF 03", 0, 0, api.ErrForm},
		{"80 80 80 80 80 80 80 80 80 40", 0, 0, api.ErrForm},
		{"FF FF FF FF FF FF FF FF FF 7F", 0, 0, api.ErrForm},
	} {
		r := Read(unhex(c.b))
		if got := r.Num(); got != c.want || r.Left() != c.left || r.Err() != c.err {
			t.Errorf("Num of %s: %d, Left %d, Err %d; wanted %d, %d, %d", c.b, got, r.Left(), r.Err(), c.want, c.left, c.err)
		}
	}
}

func TestReaderInt(t *testing.T) {
	for _, c := range []struct {
		b    string
		want int64
		err  api.Errno
	}{
		{"01", -1, api.OK}, // the chapter's example
		{"00", 0, api.OK},
		{"02", 1, api.OK},
		{"03", -2, api.OK},
		{"7F", -64, api.OK},
		{"80 01", 64, api.OK},
		{"FE FF FF FF FF FF FF FF FF 01", math.MaxInt64, api.OK},
		{"FF FF FF FF FF FF FF FF FF 01", math.MinInt64, api.OK},
		{"", 0, api.ErrShort},
		{"81", 0, api.ErrShort},
		{"81 00", 0, api.ErrForm},
		{"FF FF FF FF FF FF FF FF FF 03", 0, api.ErrForm},
	} {
		r := Read(unhex(c.b))
		if got := r.Int(); got != c.want || r.Err() != c.err || r.End() != c.err {
			t.Errorf("Int of %s: %d, Err %d, End %d; wanted %d, %d", c.b, got, r.Err(), r.End(), c.want, c.err)
		}
	}
}

func TestReaderFixed(t *testing.T) {
	for _, c := range []struct {
		b    string
		n    int
		want uint64
		left int
		err  api.Errno
	}{
		{"02 01", 2, 258, 0, api.OK}, // the chapter's example
		{"02 01", 1, 2, 1, api.OK},
		{"01 02 03 04 05 06 07 08 09", 7, 0x07060504030201, 2, api.OK},
		{"01 02 03 04 05 06 07 08 09", 8, 0x0807060504030201, 1, api.OK},
		{"FF FF FF FF FF FF FF FF", 8, math.MaxUint64, 0, api.OK},
		{"00", 1, 0, 0, api.OK},
		{"", 1, 0, 0, api.ErrShort},
		{"", 8, 0, 0, api.ErrShort},
		{"05", 2, 0, 0, api.ErrShort},
		{"01 02 03 04 05 06 07", 8, 0, 0, api.ErrShort},
	} {
		r := Read(unhex(c.b))
		if got := r.Fixed(c.n); got != c.want || r.Left() != c.left || r.Err() != c.err {
			t.Errorf("Fixed(%d) of %s: %d, Left %d, Err %d; wanted %d, %d, %d", c.n, c.b, got, r.Left(), r.Err(), c.want, c.left, c.err)
		}
	}
}

// A width that is none is wrong ahead of what is too short.
func TestReaderFixedOfNoWidth(t *testing.T) {
	for _, n := range noWidths {
		for _, b := range [][]byte{nil, {}, {5}, some(7), some(100)} {
			r := Read(b)
			if got := r.Fixed(n); got != 0 || r.Left() != 0 || r.Err() != api.ErrArg || r.End() != api.ErrArg {
				t.Errorf("Fixed(%d) of %d bytes: %d, Left %d, Err %d, End %d", n, len(b), got, r.Left(), r.Err(), r.End())
			}
		}
	}
}

func TestReaderByte(t *testing.T) {
	b := append(some(300), 0, 1, 127, 128, 255)
	r := Read(b)
	for i, x := range b {
		if r.Left() != len(b)-i || r.End() != api.ErrForm {
			t.Errorf("ahead of byte %d of %d: Left %d, End %d", i, len(b), r.Left(), r.End())
		}
		if got := r.Byte(); got != x || r.Err() != api.OK {
			t.Errorf("byte %d: %d, Err %d; wanted %d", i, got, r.Err(), x)
		}
	}
	if r.Left() != 0 || r.End() != api.OK {
		t.Errorf("behind all: Left %d, End %d", r.Left(), r.End())
	}
	if got := r.Byte(); got != 0 || r.Left() != 0 || r.Err() != api.ErrShort || r.End() != api.ErrShort {
		t.Errorf("beyond all: %d, Left %d, Err %d, End %d", got, r.Left(), r.Err(), r.End())
	}
}

func TestReaderBytes(t *testing.T) {
	for _, c := range []struct {
		b    string
		most int
		want string
		left int
		err  api.Errno
	}{
		{"04 62 65 6C 6C", 4, "bell", 0, api.OK}, // just most
		{"04 62 65 6C 6C", 5, "bell", 0, api.OK},
		{"04 62 65 6C 6C", math.MaxInt, "bell", 0, api.OK},
		{"04 62 65 6C 6C 6C", 4, "bell", 1, api.OK},
		{"04 62 65 6C 6C", 3, "", 0, api.ErrLong}, // one more than most
		{"04 62 65 6C 6C", 0, "", 0, api.ErrLong},
		{"04 62 65 6C 6C", -1, "", 0, api.ErrLong},
		{"04 62 65 6C 6C", math.MinInt, "", 0, api.ErrLong},
		{"00", 0, "", 0, api.OK},
		{"00 05", 0, "", 1, api.OK},
		{"00", 9, "", 0, api.OK},
		{"00", -1, "", 0, api.ErrLong}, // 0 is more than -1
		{"00", math.MinInt, "", 0, api.ErrLong},
		{"01", 1, "", 0, api.ErrShort},
		{"01", 0, "", 0, api.ErrLong}, // ahead of what is too short
		{"04 62 65 6C", 4, "", 0, api.ErrShort},
		{"04 62 65 6C", 3, "", 0, api.ErrLong},
		{"", 4, "", 0, api.ErrShort},
		{"", 0, "", 0, api.ErrShort},
		{"", -1, "", 0, api.ErrShort},
		{"84", 4, "", 0, api.ErrShort},
		{"84", -1, "", 0, api.ErrShort},
		{"84 00 62 65 6C 6C", 4, "", 0, api.ErrForm},
		{"84 00 62 65 6C 6C", -1, "", 0, api.ErrForm},
		{"80 80 80 80 80 80 80 80 80 80 01", 4, "", 0, api.ErrForm},
		{"FF FF FF FF FF FF FF FF 7F", math.MaxInt, "", 0, api.ErrShort},
		{"80 80 80 80 80 80 80 80 80 01", math.MaxInt, "", 0, api.ErrLong}, // no int, and more than any most
		{"80 80 80 80 80 80 80 80 80 01", -1, "", 0, api.ErrLong},
		{"FF FF FF FF FF FF FF FF FF 01", math.MaxInt, "", 0, api.ErrLong},
		{"FF FF FF FF FF FF FF FF FF 01", -1, "", 0, api.ErrLong},
	} {
		r := Read(unhex(c.b))
		if got := r.Bytes(c.most); string(got) != c.want || r.Left() != c.left || r.Err() != c.err {
			t.Errorf("Bytes(%d) of %s: %q, Left %d, Err %d; wanted %q, %d, %d", c.most, c.b, got, r.Left(), r.Err(), c.want, c.left, c.err)
		}
	}
}

// Lengths of one byte, of two and of three, just most and one more, whole and one byte short.
func TestReaderBytesMost(t *testing.T) {
	for _, n := range []int{1, 2, 126, 127, 128, 129, 1024, 1<<14 - 1, 1 << 14, 100000} {
		whole := slowBytes(some(n))
		for _, most := range []int{n - 1, n, n + 1} {
			for _, b := range [][]byte{whole, append(slices.Clone(whole), 7), whole[:len(whole)-1]} {
				both(t, fmt.Sprintf("%d of %d bytes", len(b), len(whole)), readBytes(most), Read(b), &slowReader{left: b})
			}
		}
	}
}

// All bytes up to three of them, read by each call that reads a number, and by a second one behind it.
func TestReaderOfAllShort(t *testing.T) {
	calls := []read{readByte(), readNum(), readInt(), readFixed(1), readFixed(2), readFixed(3), readBytes(0), readBytes(1), readBytes(2)}
	try := func(b []byte) {
		for i, c := range calls {
			r, s := Read(b), &slowReader{left: b}
			if got, want := c.call(r), c.slow(s); got != want || r.Left() != len(s.left) || r.Err() != s.err {
				t.Fatalf("%s of %x: %s, Left %d, Err %d; wanted %s, %d, %d", c.name, b, got, r.Left(), r.Err(), want, len(s.left), s.err)
			}
			c = calls[(i+1)%len(calls)]
			if got, want := c.call(r), c.slow(s); got != want || r.Left() != len(s.left) || r.Err() != s.err {
				t.Fatalf("%s, second, of %x: %s, Left %d, Err %d; wanted %s, %d, %d", c.name, b, got, r.Left(), r.Err(), want, len(s.left), s.err)
			}
		}
	}
	try(nil)
	for x := 0; x < 256; x++ {
		try([]byte{byte(x)})
		for y := 0; y < 256; y++ {
			try([]byte{byte(x), byte(y)})
			for _, z := range []byte{0, 1, 127, 128, 255} {
				try([]byte{byte(x), byte(y), z})
			}
		}
	}
}

// Numbers in sevens of all lengths, their ends of all kinds, whole and short.
func TestReaderOfAllLengths(t *testing.T) {
	next := chance(3)
	for n := 0; n <= 12; n++ {
		for last := 0; last < 256; last++ {
			for i := 0; i < 8; i++ {
				b := make([]byte, n, n+3)
				for k := range b {
					b[k] = byte(next()>>20) | 128
					if i == 0 {
						b[k] = 128
					} else if i == 1 {
						b[k] = 255
					}
				}
				b = append(b, byte(last))
				b = append(b, some(i%3)...)
				what := fmt.Sprintf("%X", b)
				both(t, what, readNum(), Read(b), &slowReader{left: b})
				both(t, what, readInt(), Read(b), &slowReader{left: b})
				both(t, what, readBytes(int(next()>>(next()%64))), Read(b), &slowReader{left: b})
			}
		}
	}
}

// Calls of no rule, one behind another, of bytes of no rule: all against the slow Reader.
func TestReaderManyCalls(t *testing.T) {
	good := []read{readByte(), readNum(), readInt(), readFixed(2), readFixed(8), readBytes(40), readBytes(300)}
	all := reads()
	next := chance(23)
	for i := 0; i < 4000; i++ {
		b := some(int(next() % 60))
		for k := range b {
			if next()%3 != 0 { // small bytes are numbers and lengths that may be
				b[k] %= 12
			}
		}
		r, s := Read(b), &slowReader{left: b}
		state(t, fmt.Sprintf("run %d", i), r, s)
		for k := 0; k < 12; k++ {
			c := good[next()%uint64(len(good))]
			if next()%16 == 0 {
				c = all[next()%uint64(len(all))]
			}
			both(t, fmt.Sprintf("run %d, call %d of %x", i, k, b), c, r, s)
		}
	}
}

// Once something is wrong each call answers 0 or none, nothing is read, and what was wrong first stays.
func TestReaderFirst(t *testing.T) {
	for _, c := range []struct {
		b    string
		call read
		want api.Errno
	}{
		{"01 02 03", readFixed(4), api.ErrShort},
		{"01 02 03", readFixed(9), api.ErrArg},
		{"01 02 03", readFixed(0), api.ErrArg},
		{"80 00 03 03 03 03 03 03 03 03 03", readNum(), api.ErrForm},
		{"80 80", readNum(), api.ErrShort},
		{"80 80 80 80 80 80 80 80 80 80 01 01 01 01", readInt(), api.ErrForm},
		{"01 02 03", readBytes(0), api.ErrLong},
		{"04 02 03", readBytes(9), api.ErrShort},
	} {
		for _, then := range reads() {
			r, s := Read(unhex(c.b)), &slowReader{left: unhex(c.b)}
			both(t, c.b, c.call, r, s)
			if r.Err() != c.want || r.End() != c.want || r.Left() != 0 {
				t.Errorf("%s of %s: Err %d, End %d, Left %d; wanted %d", c.call.name, c.b, r.Err(), r.End(), r.Left(), c.want)
			}
			both(t, c.b+", "+c.call.name, then, r, s)
			if got := then.call(r); got != "0" && got != "" || r.Err() != c.want {
				t.Errorf("%s behind what is wrong: %s, Err %d; wanted %d", then.name, got, r.Err(), c.want)
			}
		}
	}
}

// End asks: with bytes left it is ErrForm, which is not what was wrong, and the bytes may still be read.
func TestReaderEnd(t *testing.T) {
	r := Read([]byte{5, 6})
	if r.End() != api.ErrForm || r.End() != api.ErrForm || r.Err() != api.OK || r.Left() != 2 {
		t.Errorf("two bytes left: End %d, Err %d, Left %d", r.End(), r.Err(), r.Left())
	}
	if a, b := r.Byte(), r.Num(); a != 5 || b != 6 || r.End() != api.OK || r.Err() != api.OK {
		t.Errorf("read then: %d, %d, End %d, Err %d", a, b, r.End(), r.Err())
	}
	for _, b := range [][]byte{nil, {}} {
		if r := Read(b); r.End() != api.OK || r.Err() != api.OK || r.Left() != 0 {
			t.Errorf("no bytes: End %d, Err %d, Left %d", r.End(), r.Err(), r.Left())
		}
	}
}

// What is handed in is not changed, nor what lies behind it, and it is not kept; what Bytes answers is its own.
func TestReaderSharesNothing(t *testing.T) {
	in := append(slices.Concat(slowBytes(some(20)), slowBytes(some(30)), []byte{9}), "behind it"...)
	keep := slices.Clone(in)
	part := in[:len(in)-len("behind it")]
	r := Read(part)
	one := r.Bytes(20)
	for i := range one {
		one[i] ^= 0xFF
	}
	_ = append(one, 0xEE, 0xEE, 0xEE)
	if !bytes.Equal(in, keep) {
		t.Error("what Bytes answered shares with what was handed in")
	}
	for i := range in {
		in[i] ^= 0xFF
	}
	two := r.Bytes(30)
	if !bytes.Equal(two, some(30)) {
		t.Errorf("Bytes behind a change from without: %x; wanted %x", two, some(30))
	}
	if x := r.Byte(); x != 9 || r.End() != api.OK {
		t.Errorf("Byte behind a change from without: %d, End %d", x, r.End())
	}
	again := Read(keep)
	again.Bytes(20)
	again.Bytes(30)
	again.Num()
	if !bytes.Equal(two, some(30)) {
		t.Error("what one Reader answered was changed by another")
	}
}

func TestReaderHandedInStay(t *testing.T) {
	for _, n := range []int{0, 1, 9, 100} {
		in := append(some(n), "behind it"...)
		keep := slices.Clone(in)
		for _, c := range reads() {
			r := Read(in[:n])
			c.call(r)
			c.call(r)
			if !bytes.Equal(in, keep) {
				t.Fatalf("%s of %d bytes changed what was handed in", c.name, n)
			}
		}
	}
}

// Two Readers of the same bytes have nothing to do with each other.
func TestReadersApart(t *testing.T) {
	b := []byte{1, 2, 3}
	one, two := Read(b), Read(b)
	one.Byte()
	two.Fixed(9)
	if one.Left() != 2 || one.Err() != api.OK || one.Byte() != 2 || two.Left() != 0 || two.Err() != api.ErrArg {
		t.Errorf("one: Left %d, Err %d; two: Left %d, Err %d", one.Left(), one.Err(), two.Left(), two.Err())
	}
}

func TestReaderOfNil(t *testing.T) {
	var r *Reader
	for _, c := range reads() {
		if got := c.call(r); got != "0" && got != "" {
			t.Errorf("nil, %s: %s", c.name, got)
		}
		if r.Left() != 0 || r.Err() != api.ErrArg || r.End() != api.ErrArg {
			t.Errorf("nil: Left %d, Err %d, End %d", r.Left(), r.Err(), r.End())
		}
	}
}

// P5.3

// What was written is read: each call's by the call of the same name, all of them one behind another.
func TestWrittenIsRead(t *testing.T) {
	w := New(room)
	for _, x := range numbers() {
		w.Num(x)
		w.Byte(byte(x))
		w.Fixed(x, 8)
		w.Fixed(x, 1+int(x%8))
	}
	for _, x := range signed() {
		w.Int(x)
	}
	for n := 0; n < 300; n++ {
		w.Bytes(some(n))
	}
	b, err := w.Done()
	if err != api.OK {
		t.Fatalf("Done: error %d", err)
	}
	r := Read(b)
	for _, x := range numbers() {
		n := 1 + int(x%8)
		if a, b, c, d := r.Num(), r.Byte(), r.Fixed(8), r.Fixed(n); a != x || b != byte(x) || c != x || d != x<<(64-8*n)>>(64-8*n) {
			t.Fatalf("of %d: Num %d, Byte %d, Fixed(8) %d, Fixed(%d) %d", x, a, b, c, n, d)
		}
	}
	for _, x := range signed() {
		if got := r.Int(); got != x {
			t.Fatalf("Int of %d: %d", x, got)
		}
	}
	for n := 0; n < 300; n++ {
		if got := r.Bytes(n); !bytes.Equal(got, some(n)) {
			t.Fatalf("Bytes of %d: %x", n, got)
		}
	}
	if r.Left() != 0 || r.Err() != api.OK || r.End() != api.OK {
		t.Errorf("behind all: Left %d, Err %d, End %d", r.Left(), r.Err(), r.End())
	}
}

// What is read as numbers is written so: a number has one form alone, whichever call reads and writes it.
func TestReadIsWritten(t *testing.T) {
	next := chance(41)
	read := 0
	for i := 0; i < 200000; i++ {
		b := make([]byte, 1+next()%12)
		full := next()%12 + 1
		for k := range b {
			b[k] = byte(next() >> 30)
			if uint64(k) < full {
				b[k] |= 128
			} else if next()%2 == 0 {
				b[k] %= 3
			}
		}
		r := Read(b)
		x := r.Num()
		if r.Err() != api.OK {
			continue
		}
		read++
		if got := written(t, numCall(x)); !bytes.Equal(got, b[:len(b)-r.Left()]) {
			t.Fatalf("Num of %X is %d, which is written %X", b, x, got)
		}
		r = Read(b)
		z := r.Int()
		if got := written(t, intCall(z)); !bytes.Equal(got, b[:len(b)-r.Left()]) {
			t.Fatalf("Int of %X is %d, which is written %X", b, z, got)
		}
		r = Read(b)
		n := min(len(b), 8)
		if got := written(t, fixedCall(r.Fixed(n), n)); !bytes.Equal(got, b[:n]) {
			t.Fatalf("Fixed(%d) of %X is written %X", n, b, got)
		}
		r = Read(b)
		if body := r.Bytes(len(b)); r.Err() == api.OK {
			if got := written(t, bytesCall(body)); !bytes.Equal(got, b[:len(b)-r.Left()]) {
				t.Fatalf("Bytes of %X is %X, which is written %X", b, body, got)
			}
		}
	}
	if read < 20000 {
		t.Fatalf("%d numbers alone were read", read)
	}
}
