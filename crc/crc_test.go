package crc

import (
	"bytes"
	"encoding/binary"
	"fmt"
	"hash/crc32"
	"math"
	"slices"
	"testing"
)

// slow is what P4.1 says, word by word: one bit after another, and all bits turned at both ends.
func slow(b []byte) uint32 {
	sum := uint32(1<<32 - 1)
	for _, x := range b {
		for i := 0; i < 8; i++ {
			unlike := sum%2 != uint32(x>>i)%2
			sum /= 2
			if unlike {
				sum ^= 0xEDB88320
			}
		}
	}
	return 1<<32 - 1 - sum
}

// chance answers numbers of no rule, the same ones each time.
func chance(x uint64) func() uint64 {
	return func() uint64 {
		x ^= x << 13
		x ^= x >> 7
		x ^= x << 17
		return x
	}
}

// some are n bytes of no rule.
func some(n int) []byte {
	next := chance(0x0123456789abcdef + uint64(n)<<20)
	b := make([]byte, n)
	for i := range b {
		b[i] = byte(next() >> 24)
	}
	return b
}

// texts are no bytes, each byte alone, bytes of all lengths up to 70 and of some beyond, noughts, and bytes of ones alone.
func texts() [][]byte {
	l := [][]byte{nil, {}, []byte("123456789"), []byte("bell"), []byte("angelus")}
	for x := 0; x < 256; x++ {
		l = append(l, []byte{byte(x)})
	}
	for n := 1; n <= 70; n++ {
		l = append(l, some(n), make([]byte, n), bytes.Repeat([]byte{255}, n))
	}
	for _, n := range []int{255, 256, 257, 1023, 1024, 1096, 1100, 4096, 70000} {
		l = append(l, some(n))
	}
	return l
}

// sums are numbers that may stand where a sum is wanted, those of bytes among them.
func sums() []uint32 {
	l := []uint32{0, 1, 2, 5, 1 << 16, 0x7FFFFFFF, 0x80000000, 0xEDB88320, 0xCBF43926, 0xFFFFFFFE, 0xFFFFFFFF}
	next := chance(7)
	for i := 0; i < 20; i++ {
		l = append(l, uint32(next()))
	}
	return l
}

// P4.1

func TestSum(t *testing.T) {
	for _, r := range []struct {
		text string
		want uint32
	}{
		{"", 0},
		{"123456789", 0xCBF43926}, // the chapter's example
		{"a", 0xE8B7BE43},
		{"abc", 0x352441C2},
		{"\x00", 0xD202EF8D},
		{"\x01", 0xA505DF1B},
		{"\x80", 0x3FBA6CAD},
		{"\xff", 0xFF000000},
		{"\x00\x00\x00\x00", 0x2144DF1C},
		{"\xff\xff\xff\xff", 0xFFFFFFFF},
		{"The quick brown fox jumps over the lazy dog", 0x414FA339},
	} {
		if got := Sum([]byte(r.text)); got != r.want {
			t.Errorf("Sum(%q): %08X; wanted %08X", r.text, got, r.want)
		}
	}
	for _, b := range texts() {
		if got, want := Sum(b), slow(b); got != want || want != crc32.ChecksumIEEE(b) {
			t.Errorf("Sum of %d bytes, %.40x: %08X; wanted %08X", len(b), b, got, want)
		}
	}
}

func TestSumOfParts(t *testing.T) {
	digits := []byte("123456789")
	for _, r := range []struct {
		parts [][]byte
		want  uint32
	}{
		{nil, 0},
		{[][]byte{}, 0},
		{[][]byte{nil}, 0},
		{[][]byte{{}}, 0},
		{[][]byte{nil, {}, nil}, 0},
		{[][]byte{digits}, 0xCBF43926},
		{[][]byte{digits[:5], digits[5:]}, 0xCBF43926},
		{[][]byte{digits[:5], nil, digits[5:]}, 0xCBF43926},
		{[][]byte{nil, digits[:1], {}, {}, digits[1:8], nil, digits[8:], {}}, 0xCBF43926},
		{[][]byte{digits[5:], digits[:5]}, slow([]byte("678912345"))}, // another order is another sum
		{[][]byte{digits, digits}, slow([]byte("123456789123456789"))},
	} {
		if got := Sum(r.parts...); got != r.want {
			t.Errorf("Sum(%q): %08X; wanted %08X", r.parts, got, r.want)
		}
	}
	if got := Sum(); got != 0 {
		t.Errorf("Sum(): %08X", got)
	}
	b := some(40)
	for i := 0; i <= len(b); i++ {
		for k := i; k <= len(b); k++ {
			if got := Sum(b[:i], b[i:k], b[k:]); got != slow(b) {
				t.Errorf("Sum of 40 bytes in parts to %d, to %d: %08X; wanted %08X", i, k, got, slow(b))
			}
		}
	}
	var each [][]byte
	for i := range b {
		each = append(each, b[i:i+1])
	}
	if got := Sum(each...); got != slow(b) {
		t.Errorf("Sum of 40 parts: %08X; wanted %08X", got, slow(b))
	}
}

func TestMore(t *testing.T) {
	for _, r := range []struct {
		sum  uint32
		text string
		want uint32
	}{
		{0, "", 0},
		{0, "123456789", 0xCBF43926},
		{slow([]byte("12345")), "6789", 0xCBF43926},
		{slow([]byte("12345678")), "9", 0xCBF43926},
		{0xCBF43926, "", 0xCBF43926},
		{5, "", 5}, // some other number: it is a sum, too
		{0xFFFFFFFF, "", 0xFFFFFFFF},
		{0xFFFFFFFF, "\x00\x00\x00\x00", 0xFFFFFFFF}, // noughts meet noughts alone
	} {
		if got := More(r.sum, []byte(r.text)); got != r.want {
			t.Errorf("More(%08X, %q): %08X; wanted %08X", r.sum, r.text, got, r.want)
		}
	}
	for _, sum := range sums() {
		if More(sum, nil) != sum || More(sum, []byte{}) != sum {
			t.Errorf("More(%08X, no bytes): %08X, %08X", sum, More(sum, nil), More(sum, []byte{}))
		}
		for _, b := range texts() {
			if got, want := More(sum, b), crc32.Update(sum, crc32.IEEETable, b); got != want {
				t.Errorf("More(%08X, %d bytes, %.40x): %08X; wanted %08X", sum, len(b), b, got, want)
			}
		}
	}
	b := some(300)
	for i := range b {
		if got := More(slow(b[:i]), b[i:]); got != slow(b) {
			t.Errorf("More of the sum of %d bytes, and %d: %08X; wanted %08X", i, len(b)-i, got, slow(b))
		}
	}
}

// What is handed in is not changed: neither the bytes, nor what lies behind them, nor which parts there are.
func TestCrcHandedInStay(t *testing.T) {
	for _, b := range texts() {
		room := append(slices.Clone(b), "behind it"...)
		part := room[:len(b)]
		parts := [][]byte{part, nil, part}
		Sum(parts...)
		More(5, part)
		Seal(part)
		Good(part)
		Good(room)
		if !bytes.Equal(part, b) || string(room[len(b):]) != "behind it" {
			t.Errorf("%d bytes, %.40x, were changed", len(b), b)
		}
		if len(parts) != 3 || !bytes.Equal(parts[0], b) || parts[1] != nil || !bytes.Equal(parts[2], b) {
			t.Errorf("the parts of %d bytes, %.40x, were changed", len(b), b)
		}
	}
}

// P4.2

// past is a sum moved past n bytes of noughts another way than Join's: a sum is a polynomial, its highest power first,
// and a byte multiplies it by x^8, modulo the one of 33 bits that EDB88320 and x^32 make.
func past(sum uint32, n uint64) uint32 {
	power := uint32(1) << (31 - 8) // x^8
	for ; n > 0; n /= 2 {
		if n%2 == 1 {
			sum = product(sum, power)
		}
		power = product(power, power)
	}
	return sum
}

// product is that of two polynomials, modulo the one of 33 bits.
func product(a, b uint32) uint32 {
	var p uint32
	for i := 31; i >= 0; i-- { // a times x^(31-i), at each step
		if b>>i&1 == 1 {
			p ^= a
		}
		if a&1 == 1 {
			a = a>>1 ^ 0xEDB88320
		} else {
			a >>= 1
		}
	}
	return p
}

func TestJoin(t *testing.T) {
	for _, r := range []struct {
		a, b string
	}{
		{"", ""},
		{"", "a"},
		{"a", ""},
		{"12345", "6789"},
		{"1", "23456789"},
		{"12345678", "9"},
		{"123456789", ""},
		{"", "123456789"},
		{"a", "\x00"},
		{"\x00", "a"},
		{"bell", "bell"},
	} {
		a, b := []byte(r.a), []byte(r.b)
		want := slow(append(slices.Clone(a), b...))
		if got := Join(slow(a), slow(b), len(b)); got != want {
			t.Errorf("Join of %q and %q: %08X; wanted %08X", a, b, got, want)
		}
	}
	heads := [][]byte{nil, some(1), some(33), make([]byte, 5), some(1100)}
	for _, a := range heads {
		for _, b := range texts() {
			want := crc32.ChecksumIEEE(slices.Concat(a, b))
			if got := Join(slow(a), slow(b), len(b)); got != want {
				t.Errorf("Join of %d bytes and %d, %.40x: %08X; wanted %08X", len(a), len(b), b, got, want)
			}
		}
	}
}

// An n of 0, and one below it: no bytes are behind, and the sum of none is 0.
func TestJoinOfNone(t *testing.T) {
	for _, a := range sums() {
		for _, n := range []int{0, -1, -2, -4, -8, -1000, -1 << 31, -1 << 32, -1 << 62, math.MinInt + 1, math.MinInt} {
			if got := Join(a, 0, n); got != a {
				t.Errorf("Join(%08X, 0, %d): %08X", a, n, got)
			}
			for _, b := range sums() { // no bytes have such a sum: below 0 is as 0, all the same
				if got, want := Join(a, b, n), Join(a, b, 0); got != want {
					t.Errorf("Join(%08X, %08X, %d): %08X; with 0 it is %08X", a, b, n, got, want)
				}
			}
		}
	}
}

// Any two numbers are sums of some bytes, of four at least: Join's answer holds for these.
func TestJoinOfAnySums(t *testing.T) {
	for _, a := range sums() {
		for _, b := range sums() {
			behind := having(b)
			if slow(behind) != b {
				t.Fatalf("%x has not the sum %08X", behind, b)
			}
			if got, want := Join(a, b, 4), crc32.Update(a, crc32.IEEETable, behind); got != want {
				t.Errorf("Join(%08X, %08X, 4): %08X; wanted %08X", a, b, got, want)
			}
		}
	}
}

// having are the four bytes that have a sum: all is gone back, bit by bit.
func having(sum uint32) []byte {
	sum = ^sum
	for i := 0; i < 32; i++ {
		if sum>>31 == 1 { // it was turned
			sum = (sum^0xEDB88320)<<1 | 1
		} else {
			sum <<= 1
		}
	}
	return binary.LittleEndian.AppendUint32(nil, ^sum)
}

// Many bytes, up to more than may be at hand: noughts that are gone through, and another way of reckoning.
func TestJoinFar(t *testing.T) {
	noughts := make([]byte, 1<<20)
	for _, n := range []int{1000, 1<<16 - 1, 1 << 16, 1<<16 + 1, 1<<20 - 1, 1 << 20} {
		b := noughts[:n]
		for _, a := range sums() {
			want := crc32.Update(a, crc32.IEEETable, b)
			if got := Join(a, crc32.ChecksumIEEE(b), n); got != want {
				t.Errorf("Join(%08X, .., %d): %08X; wanted %08X", a, n, got, want)
			}
			if got := past(a, uint64(n)) ^ crc32.ChecksumIEEE(b); got != want {
				t.Fatalf("past(%08X, %d): %08X; wanted %08X", a, n, got, want)
			}
		}
	}
	for _, n := range []int{
		1<<31 - 1, 1 << 31, 1<<32 - 2, 1<<32 - 1, 1 << 32, 1<<32 + 4, 1<<60 - 1, 1 << 60, 1<<61 - 1, 1 << 61, 1<<61 + 1,
		1 << 62, 1<<62 + 9, math.MaxInt - 1, math.MaxInt, 0x0123456789abcdef,
	} {
		for _, a := range sums() {
			for _, b := range sums() {
				if got, want := Join(a, b, n), past(a, uint64(n))^b; got != want {
					t.Errorf("Join(%08X, %08X, %d): %08X; wanted %08X", a, b, n, got, want)
				}
			}
		}
	}
}

// Of three parts it is the same, whichever two are joined first.
func TestJoinOfThree(t *testing.T) {
	for _, n := range []int{0, 1, 4, 1100, 1 << 40} {
		for _, m := range []int{0, 3, 77, 1 << 50} {
			a, b, c := uint32(0x352441C2), uint32(0xE8B7BE43), uint32(0xCBF43926)
			if x, y := Join(Join(a, b, n), c, m), Join(a, Join(b, c, m), n+m); x != y {
				t.Errorf("Join with %d and %d bytes behind: %08X, %08X", n, m, x, y)
			}
		}
	}
}

// P4.3

func TestSeal(t *testing.T) {
	for _, r := range []struct{ text, want string }{
		{"", "\x00\x00\x00\x00"},
		{"123456789", "123456789\x26\x39\xf4\xcb"},
		{"a", "a\x43\xbe\xb7\xe8"},
		{"\xff", "\xff\x00\x00\x00\xff"},
		{"\xff\xff\xff\xff", "\xff\xff\xff\xff\xff\xff\xff\xff"},
	} {
		if got := Seal([]byte(r.text)); string(got) != r.want {
			t.Errorf("Seal(%q): %q; wanted %q", r.text, got, r.want)
		}
	}
	for _, b := range texts() {
		want := binary.LittleEndian.AppendUint32(slices.Clone(b), slow(b))
		if got := Seal(b); !bytes.Equal(got, want) {
			t.Errorf("Seal of %d bytes, %.40x: %.40x; wanted %.40x", len(b), b, got, want)
		}
	}
}

// What Seal answers shares nothing with what was handed in, however much room lies behind that, nor with another answer.
func TestSealSharesNothing(t *testing.T) {
	for _, b := range texts() {
		for _, room := range []int{0, 1, 3, 4, 5, 100} {
			in := append(make([]byte, 0, len(b)+room), b...)
			behind := in[len(in):cap(in)]
			for i := range behind {
				behind[i] = 0x5A
			}
			one, two := Seal(in), Seal(in)
			want := slices.Clone(one)
			for i := range one {
				one[i] ^= 0xFF
			}
			if !bytes.Equal(in, b) || bytes.ContainsFunc(behind, func(r rune) bool { return r != 0x5A }) {
				t.Errorf("Seal of %d bytes with room for %d: it writes where these lie", len(b), room)
			}
			for i := range in {
				in[i] ^= 0xFF
			}
			if !bytes.Equal(two, want) {
				t.Errorf("Seal of %d bytes with room for %d: what it answered was changed from without", len(b), room)
			}
		}
	}
}

func TestGood(t *testing.T) {
	for _, r := range []struct {
		text string
		want bool
	}{
		{"", false}, // fewer than four
		{"\x00", false},
		{"\x00\x00", false},
		{"\x00\x00\x00", false},
		{"\xff\xff\xff", false},
		{"abc", false},
		{"\x00\x00\x00\x00", true}, // no bytes, and their sum
		{"\x01\x00\x00\x00", false},
		{"\x00\x00\x00\x01", false},
		{"\xff\xff\xff\xff", false},
		{"a\x43\xbe\xb7\xe8", true},
		{"a\xe8\xb7\xbe\x43", false},               // the highest first
		{"a\x43\xbe\xb7", false},                   // cut off
		{"a\x43\xbe\xb7\xe8\x00", false},           // longer by one
		{"\x43\xbe\xb7\xe8a", false},               // the sum ahead
		{"a\xbc\x41\x48\x17", false},               // all bits of the sum turned
		{"b\x43\xbe\xb7\xe8", false},               // another's sum
		{"a\x00\x00\x00\x00", false},               // none's
		{"123456789\x26\x39\xf4\xcb", true},        // the chapter's example, sealed
		{"123456798\x26\x39\xf4\xcb", false},       // two bytes changed round
		{"123456789", false},                       // not sealed
		{"\x00\x00\x00\x00\x1c\xdf\x44\x21", true}, // four noughts and their sum
		{"\x00\x00\x00\x00\x00\x00\x00\x00", false},
	} {
		if got := Good([]byte(r.text)); got != r.want {
			t.Errorf("Good(%q): %v", r.text, got)
		}
	}
	if Good(nil) {
		t.Error("Good(nil)")
	}
	for _, b := range texts() {
		want := len(b) >= 4 && binary.LittleEndian.Uint32(b[len(b)-4:]) == slow(b[:len(b)-4])
		if got := Good(b); got != want {
			t.Errorf("Good of %d bytes, %.40x: %v", len(b), b, got)
		}
	}
}

// Behind given bytes one sum alone is good: of all others that differ in one byte none is.
func TestGoodOfOtherSums(t *testing.T) {
	for _, n := range []int{0, 1, 9, 40} {
		s := Seal(some(n))
		for i := n; i < len(s); i++ {
			was := s[i]
			for x := 0; x < 256; x++ {
				s[i] = byte(x)
				if Good(s) != (s[i] == was) {
					t.Errorf("Good of %d bytes, byte %d of the sum being %#x for %#x: %v", n, i-n, x, was, Good(s))
				}
			}
			s[i] = was
		}
	}
}

// P4.4

func TestSealedIsGood(t *testing.T) {
	for _, b := range texts() {
		s := Seal(b)
		if !Good(s) {
			t.Errorf("%d bytes, %.40x, sealed: not good", len(b), b)
		}
		if again := Seal(s); !Good(again) {
			t.Errorf("%d bytes, %.40x, sealed twice: not good", len(b), b)
		}
	}
}

// bend turns the bits of a pattern, its lowest at bit at, where each byte's lowest bit comes first.
func bend(b []byte, at int, pattern uint32) {
	for i := 0; i < 32; i++ {
		if pattern>>i&1 == 1 {
			b[(at+i)/8] ^= 1 << ((at + i) % 8)
		}
	}
}

// noticed tells of a pattern that bends sealed bytes at a place and leaves them good; bent twice they are as they were.
func noticed(t *testing.T, name string, s []byte, at int, pattern uint32) {
	t.Helper()
	bend(s, at, pattern)
	if Good(s) {
		t.Errorf("%s: %d bytes bent at bit %d by %#x are good", name, len(s), at, pattern)
	}
	bend(s, at, pattern)
}

// patterns are some that are so wide, both ends turned: these alone, all between, every other bit, and of no rule.
func patterns(wide int) []uint32 {
	ends := uint32(1) | 1<<(wide-1)
	all := uint32(1<<wide - 1)
	next := chance(uint64(wide) * 0x9E3779B97F4A7C15)
	l := []uint32{ends, all, ends | 0x55555555&all, ends | 0xAAAAAAAA&all, ends | 0xEDB88320&all, ends | 0xDB710641&all}
	for i := 0; i < 10; i++ {
		l = append(l, ends|uint32(next()>>16)&all)
	}
	return l
}

func TestBentAnywhere(t *testing.T) {
	for _, n := range []int{0, 1, 2, 3, 4, 5, 17, 40} {
		for _, b := range [][]byte{some(n), make([]byte, n), bytes.Repeat([]byte{255}, n)} {
			s := Seal(b)
			for wide := 1; wide <= 32; wide++ {
				for _, p := range patterns(wide) {
					for at := 0; at+wide <= 8*len(s); at++ {
						noticed(t, fmt.Sprintf("width %d", wide), s, at, p)
					}
				}
			}
			if !Good(s) {
				t.Fatal("bent twice they are not as they were")
			}
		}
	}
}

// All patterns that are at most 12 bits wide, at all places of a few bytes.
func TestBentByAllNarrow(t *testing.T) {
	s := Seal([]byte("bells"))
	for p := uint32(1); p < 1<<12; p += 2 { // the lowest bit is turned: others are these at another place
		for at := 0; at+32 <= 8*len(s); at++ {
			noticed(t, "narrow", s, at, p)
		}
	}
}

// Of long bytes each bit alone, and wider patterns at their beginning, up to their sum, across its beginning, in it, and at the end.
func TestBentLong(t *testing.T) {
	for _, n := range []int{1096, 1100, 5000} {
		s := Seal(some(n))
		bits, seam := 8*len(s), 8*n
		for at := 0; at < bits; at++ {
			noticed(t, "one bit", s, at, 1)
		}
		for wide := 2; wide <= 32; wide++ {
			for _, p := range patterns(wide)[:6] {
				noticed(t, "beginning", s, 0, p)
				noticed(t, "across the seam", s, seam-wide/2, p)
				noticed(t, "up to the seam", s, seam-wide, p)
				noticed(t, "the sum's beginning", s, seam, p)
				noticed(t, "the end", s, bits-wide, p)
			}
		}
		if !Good(s) {
			t.Fatal("bent twice they are not as they were")
		}
	}
}
