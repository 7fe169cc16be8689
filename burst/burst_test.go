package burst

import (
	"bytes"
	"encoding/hex"
	"math"
	"math/big"
	"slices"
	"strings"
	"testing"
)

// chance answers numbers of no rule, the same ones each time.
func chance(x uint64) func() uint64 {
	return func() uint64 {
		x ^= x << 13
		x ^= x >> 7
		x ^= x << 17
		return x
	}
}

// some are n bytes of no rule.
func some(n int) []byte {
	next := chance(uint64(n) + 15)
	b := make([]byte, n)
	for i := range b {
		b[i] = byte(next() >> 20)
	}
	return b
}

// fills are n bytes each: of no rule, of noughts, of ones alone, and of both by turns.
func fills(n int) [][]byte {
	return [][]byte{some(n), make([]byte, n), bytes.Repeat([]byte{0xFF}, n), bytes.Repeat([]byte{0xA5}, n)}
}

// unhex reads bytes told by their digits; blanks are for the eye.
func unhex(s string) []byte {
	b, err := hex.DecodeString(strings.ReplaceAll(s, " ", ""))
	if err != nil {
		panic(err)
	}
	return b
}

// brief is a text that can be read in a message.
func brief(b []byte) string {
	if len(b) > 60 {
		return hex.EncodeToString(b[:60]) + ".."
	}
	return hex.EncodeToString(b)
}

// bitsOf are bytes bit by bit, as the chapter numbers them.
func bitsOf(b []byte) []bool {
	l := make([]bool, 8*len(b))
	for i := range l {
		x := int(b[i/8])
		for k := 0; k < i%8; k++ {
			x /= 2
		}
		l[i] = x%2 == 1
	}
	return l
}

// bytesOf are the bytes that have those bits.
func bytesOf(l []bool) []byte {
	b := make([]byte, len(l)/8)
	worth := 1
	for i, is := range l {
		if i%8 == 0 {
			worth = 1
		}
		if is {
			b[i/8] += byte(worth)
		}
		worth *= 2
	}
	return b
}

// slowTurn is P15.1, bit by bit.
func slowTurn(b []byte, pos, turned uint32) []byte {
	l := bitsOf(b)
	if len(l) == 0 {
		return nil
	}
	p := new(big.Int).Mod(big.NewInt(int64(pos)), big.NewInt(int64(len(l)))).Int64()
	for i := int64(0); i < 32; i++ {
		if turned%2 == 1 && p+i < int64(len(l)) {
			l[p+i] = !l[p+i]
		}
		turned /= 2
	}
	return bytesOf(l)
}

// slowDiffer is P15.2's Differ, bit by bit.
func slowDiffer(a, b []byte) (first, width int, ok bool) {
	if len(a) != len(b) {
		return 0, 0, false
	}
	var unlike []int
	m := bitsOf(b)
	for i, is := range bitsOf(a) {
		if is != m[i] {
			unlike = append(unlike, i)
		}
	}
	if len(unlike) == 0 {
		return 0, 0, true
	}
	first, last := unlike[0], unlike[len(unlike)-1]
	return first, last - first + 1, true
}

// slowIs is P15.2's Is, bit by bit.
func slowIs(a, b []byte) bool {
	_, width, ok := slowDiffer(a, b)
	return ok && width != 0 && width <= 32
}

// slowWidth is P15.2's Width, bit by bit.
func slowWidth(x uint32) int {
	lowest, highest := -1, -1
	for i := 0; i < 32; i++ {
		if x%2 == 1 {
			if lowest < 0 {
				lowest = i
			}
			highest = i
		}
		x /= 2
	}
	if lowest < 0 {
		return 0
	}
	return highest - lowest + 1
}

// patterns are bits to be turned: none, each alone, each with the lowest and with the highest one, all up to
// each and from each on, and some with noughts between.
func patterns() []uint32 {
	l := []uint32{0, math.MaxUint32, 1<<31 | 1, 0x55555555, 0xAAAAAAAA, 0x80000101, 0x00FF00FF, 0x12345678, 10, 5}
	for i := 0; i < 32; i++ {
		x := uint32(1) << i
		l = append(l, x, x|1, x|1<<31, x-1, ^(x - 1))
	}
	return l
}

// places are where turning may begin of n bits: each bit, as many again and again, and the greatest numbers.
func places(n int) []uint32 {
	var l []uint32
	for i := 0; i <= 2*n+1; i++ {
		l = append(l, uint32(i))
	}
	for _, x := range []uint32{1 << 8, 1 << 16, 1 << 24, 1 << 31, math.MaxInt32, math.MaxUint32} {
		l = append(l, x-1, x)
	}
	return append(l, math.MaxUint32-uint32(n), math.MaxUint32/uint32(n)*uint32(n))
}

// flip turns one bit.
func flip(b []byte, i int) { b[i/8] ^= 1 << (i % 8) }

// with are bytes as others are, but for some bits.
func with(b []byte, turned ...int) []byte {
	c := append([]byte{}, b...)
	for _, i := range turned {
		flip(c, i)
	}
	return c
}

// turns asks of one call that it is as the chapter says, bit by bit.
func turns(t *testing.T, b []byte, pos, turned uint32) {
	t.Helper()
	was := bytes.Clone(b)
	got, want := Turn(b, pos, turned), slowTurn(b, pos, turned)
	if !bytes.Equal(got, want) {
		t.Errorf("Turn(%s, %d, %#x): %s; wanted %s", brief(was), pos, turned, brief(got), brief(want))
	}
	if !bytes.Equal(b, was) {
		t.Fatalf("Turn(%s, %d, %#x) changed what was handed in: %s", brief(was), pos, turned, brief(b))
	}
}

// differs asks of bytes, both ways round, whether and where they differ.
func differs(t *testing.T, a, b []byte, first, width int, ok bool) {
	t.Helper()
	wasA, wasB := bytes.Clone(a), bytes.Clone(b)
	for _, pair := range [][2][]byte{{a, b}, {b, a}} {
		f, w, is := Differ(pair[0], pair[1])
		if f != first || w != width || is != ok {
			t.Errorf("Differ(%s, %s): %d, %d, %v; wanted %d, %d, %v", brief(pair[0]), brief(pair[1]), f, w, is, first, width, ok)
		}
		if got, want := Is(pair[0], pair[1]), ok && width >= 1 && width <= 32; got != want {
			t.Errorf("Is(%s, %s): %v; wanted %v", brief(pair[0]), brief(pair[1]), got, want)
		}
	}
	if !bytes.Equal(a, wasA) || !bytes.Equal(b, wasB) {
		t.Fatalf("Differ or Is of %s and %s changed what was handed in", brief(wasA), brief(wasB))
	}
}

// P15.1

func TestTurn(t *testing.T) {
	for _, r := range []struct {
		b           string
		pos, turned uint32
		want        string
	}{
		{"00 00", 7, 3, "80 01"}, // the chapter's example
		{"00", 0, 0, "00"},
		{"a5", 3, 0, "a5"},
		{"00", 0, 1, "01"},
		{"01", 0, 1, "00"},
		{"00", 7, 1, "80"},
		{"ff", 7, 1, "7f"},
		{"00", 1, 5, "0a"},
		{"00", 8, 1, "01"},  // as many as there are bits
		{"00", 15, 1, "80"}, // more than that
		{"00", 16, 1, "01"},
		{"00", math.MaxUint32, 1, "80"},
		{"00 00 00", math.MaxUint32, 1, "00 80 00"}, // 2^32 - 1 is 15 modulo 24
		{"00 00 00", 24, 3, "03 00 00"},
		{"00", 0, math.MaxUint32, "ff"},
		{"00", 7, math.MaxUint32, "80"},
		{"00", 0, 0xFFFFFF00, "00"},
		{"00 00 00 00", 0, math.MaxUint32, "ff ff ff ff"},
		{"00 00 00 00 00", 0, math.MaxUint32, "ff ff ff ff 00"},
		{"00 00 00 00 00", 4, math.MaxUint32, "f0 ff ff ff 0f"},
		{"00 00 00 00 00", 8, math.MaxUint32, "00 ff ff ff ff"},
		{"00 00 00 00 00", 9, math.MaxUint32, "00 fe ff ff ff"},
		{"00 00 00 00 00", 7, 1<<31 | 1, "80 00 00 00 40"},
		{"00 00 00 00 00", 8, 1<<31 | 1, "00 01 00 00 80"},
		{"00 00 00 00 00", 9, 1<<31 | 1, "00 02 00 00 00"},
		{"00 00 00 00 00", 39, 1<<31 | 1, "00 00 00 00 80"},
		{"00 00 00 00 00", 38, 7, "00 00 00 00 c0"},
		{"01 02 03 04 05 06", 8, 0x06050403, "01 01 07 01 03 06"},
	} {
		if got := Turn(unhex(r.b), r.pos, r.turned); !bytes.Equal(got, unhex(r.want)) {
			t.Errorf("Turn(%s, %d, %#x): % x; wanted %s", r.b, r.pos, r.turned, got, r.want)
		}
	}
}

func TestTurnOfNone(t *testing.T) {
	for _, b := range [][]byte{nil, {}, some(9)[:0], some(9)[9:]} {
		for _, pos := range []uint32{0, 1, 7, 8, 1 << 31, math.MaxUint32} {
			for _, turned := range patterns() {
				if got := Turn(b, pos, turned); len(got) != 0 {
					t.Fatalf("Turn of no bytes from %d on, %#x: % x", pos, turned, got)
				}
			}
		}
	}
}

func TestTurnAtEachPlace(t *testing.T) {
	for n := 1; n <= 10; n++ {
		for _, b := range fills(n) {
			for _, pos := range places(8 * n) {
				for _, turned := range patterns() {
					turns(t, b, pos, turned)
				}
			}
		}
	}
}

func TestTurnEachBit(t *testing.T) {
	for _, n := range []int{1, 2, 5, 13, 1100} {
		b := some(n)
		for i := 0; i < 8*n; i++ {
			if got := Turn(b, uint32(i), 1); !bytes.Equal(got, with(b, i)) {
				t.Fatalf("Turn of %d bytes, bit %d: %s", n, i, brief(got))
			}
			for k := 0; k < 32; k++ {
				want := b
				if i+k < 8*n {
					want = with(b, i+k)
				}
				if got := Turn(b, uint32(i), 1<<k); !bytes.Equal(got, want) {
					t.Fatalf("Turn of %d bytes from bit %d on, the one %d behind it: %s", n, i, k, brief(got))
				}
			}
		}
	}
}

func TestTurnCountsPlacesModulo(t *testing.T) {
	for _, n := range []int{1, 2, 3, 4, 5, 7, 11, 64, 1099, 1100, 4096, 70000} {
		b := some(n)
		size := uint64(8 * n)
		for _, times := range []uint64{1, 2, 3, 1000, (math.MaxUint32 - size) / size} {
			for _, p := range []uint64{0, 1, 7, size / 2, size - 8, size - 1} {
				for _, turned := range []uint32{1, 3, 1<<31 | 1, math.MaxUint32} {
					want := Turn(b, uint32(p), turned)
					if got := Turn(b, uint32(p+times*size), turned); !bytes.Equal(got, want) {
						t.Errorf("Turn of %d bytes from %d and %d times all bits on, %#x, is another one", n, p, times, turned)
					}
				}
			}
		}
		turns(t, b, math.MaxUint32, math.MaxUint32)
		turns(t, b, math.MaxUint32-1, 7)
	}
}

func TestTurnLetsBeWhatIsBehindTheEnd(t *testing.T) {
	for _, n := range []int{1, 2, 3, 4, 5, 9, 40, 1100} {
		for _, b := range fills(n) {
			for k := 1; k <= 32 && k <= 8*n; k++ { // k bits are left from there on
				from := 8*n - k
				var last []int
				for i := from; i < 8*n; i++ {
					last = append(last, i)
				}
				if got := Turn(b, uint32(from), math.MaxUint32); !bytes.Equal(got, with(b, last...)) {
					t.Errorf("Turn(%s, %d, all): %s", brief(b), from, brief(got))
				}
				if got := Turn(b, uint32(from), 1<<31|1); k < 32 && !bytes.Equal(got, with(b, from)) {
					t.Errorf("Turn(%s, %d, both ends): %s", brief(b), from, brief(got))
				}
				if behind := uint32(uint64(math.MaxUint32) << k); !bytes.Equal(Turn(b, uint32(from), behind), b) {
					t.Errorf("Turn(%s, %d, %#x) turned something, though all of it is behind the end", brief(b), from, behind)
				}
			}
		}
	}
}

// What comes back is new, whatever is done with it or with what was handed in, and what stood behind the bytes stays.
func TestTurnIsACopy(t *testing.T) {
	for _, n := range []int{1, 2, 5, 8, 1100} {
		for _, turned := range []uint32{0, 1, 1<<31 | 1, math.MaxUint32} {
			for _, pos := range []uint32{0, uint32(8*n) - 1, uint32(8 * n)} {
				whole := some(n + 50)
				was := append([]byte{}, whole...)
				b := whole[3 : n+3]
				want := slowTurn(b, pos, turned)
				got := Turn(b, pos, turned)
				if !bytes.Equal(whole, was) {
					t.Fatalf("Turn of %d bytes, %d, %#x, changed what was handed in, or what is about it", n, pos, turned)
				}
				for i := range whole {
					whole[i] ^= 0xFF
				}
				if !bytes.Equal(got, want) {
					t.Errorf("Turn of %d bytes, %d, %#x: %s; wanted %s", n, pos, turned, brief(got), brief(want))
				}
				whole = append(whole[:0], was...)
				for i := range got {
					got[i] ^= 0x77
				}
				_ = append(got, 1, 2, 3, 4, 5, 6, 7, 8)
				if !bytes.Equal(whole, was) {
					t.Errorf("what Turn of %d bytes, %d, %#x, answered shares memory with what was handed in", n, pos, turned)
				}
			}
		}
	}
}

func TestTurnAnswersEachTimeAnew(t *testing.T) {
	b := some(20)
	one, two := Turn(b, 5, 0), Turn(b, 5, 0)
	one[0] ^= 0xFF
	if !bytes.Equal(two, b) {
		t.Error("what two calls answered shares memory")
	}
}

// So many bytes have more bits than a number of 32 bits tells.
func TestManyBytes(t *testing.T) {
	if testing.Short() {
		t.Skip("takes a thousand million bytes")
	}
	b := make([]byte, 1<<29+1)
	c := Turn(b, math.MaxUint32, 3)
	if len(c) != len(b) || c[0] != 0 || c[len(c)-2] != 0x80 || c[len(c)-1] != 1 {
		t.Fatal("Turn of the bits 2^32 - 1 and 2^32")
	}
	want := func(first, width int) {
		t.Helper()
		if f, w, ok := Differ(b, c); f != first || w != width || !ok {
			t.Errorf("Differ of 2^29 and 1 bytes: %d, %d, %v; wanted %d, %d", f, w, ok, first, width)
		}
	}
	want(math.MaxUint32, 2)
	flip(c, math.MaxUint32)
	want(1<<32, 1)
	flip(c, 0)
	want(0, 1<<32+1)
	if Is(b, c) {
		t.Error("Is of 2^29 and 1 bytes that differ at both ends")
	}
}

// P15.2

func TestDiffer(t *testing.T) {
	for _, r := range []struct {
		a, b         string
		first, width int
		ok           bool
	}{
		{"00 00", "80 01", 7, 2, true}, // the chapter's example
		{"", "", 0, 0, true},
		{"00", "00", 0, 0, true},
		{"12 34 56", "12 34 56", 0, 0, true},
		{"00", "01", 0, 1, true},
		{"00", "80", 7, 1, true},
		{"00", "81", 0, 8, true},
		{"00", "24", 2, 4, true},
		{"00", "ff", 0, 8, true},
		{"55", "aa", 0, 8, true},
		{"ff 00", "ff 01", 8, 1, true},
		{"00 00 00", "01 00 80", 0, 24, true},
		{"00 00 00", "80 00 01", 7, 10, true},
		{"00 00 00", "00 18 00", 11, 2, true},
		{"00 00 00 00", "01 00 00 80", 0, 32, true},
		{"00 00 00 00 00", "01 00 00 00 01", 0, 33, true},
		{"00 00 00 00 00", "80 00 00 00 40", 7, 32, true},
		{"ff ff ff ff ff", "00 00 00 00 00", 0, 40, true},
		{"", "00", 0, 0, false},
		{"00", "00 00", 0, 0, false},
		{"01", "00 00", 0, 0, false},
		{"12 34", "12 34 56", 0, 0, false},
	} {
		differs(t, unhex(r.a), unhex(r.b), r.first, r.width, r.ok)
	}
}

func TestDifferOfTheSame(t *testing.T) {
	for _, n := range []int{0, 1, 2, 3, 4, 5, 8, 9, 63, 64, 65, 1100, 4096} {
		for _, b := range fills(n) {
			differs(t, b, b, 0, 0, true)
			differs(t, b, append([]byte{}, b...), 0, 0, true)
			differs(t, b, append(append([]byte{}, b...), some(20)...)[:n], 0, 0, true) // what stands behind is not asked
		}
	}
	differs(t, nil, nil, 0, 0, true)
	differs(t, nil, []byte{}, 0, 0, true)
	differs(t, []byte{}, some(4)[4:], 0, 0, true)
}

// Each two bits, of which the second may be the first, with nothing unlike between and with all.
func TestDifferInBits(t *testing.T) {
	for _, n := range []int{1, 2, 4, 5, 6, 10} {
		for _, b := range fills(n) {
			for i := 0; i < 8*n; i++ {
				differs(t, b, with(b, i), i, 1, true)
				all := with(b, i)
				for k := i + 1; k < 8*n; k++ {
					flip(all, k)
					differs(t, b, with(b, i, k), i, k-i+1, true)
					differs(t, b, all, i, k-i+1, true)
				}
			}
		}
	}
}

func TestDifferFarApart(t *testing.T) {
	for _, n := range []int{40, 64, 65, 256, 1100, 70000} {
		b := some(n)
		last := 8*n - 1
		for bit := 0; bit < 8; bit++ {
			differs(t, b, with(b, bit), bit, 1, true)
			differs(t, b, with(b, last-bit), last-bit, 1, true)
			for other := 0; other < 8; other++ {
				differs(t, b, with(b, bit, last-other), bit, last-other-bit+1, true)
				differs(t, b, with(b, bit, 8*n/2, last-other), bit, last-other-bit+1, true)
			}
		}
		all := append([]byte{}, b...)
		for i := range all {
			all[i] = ^all[i]
		}
		differs(t, b, all, 0, 8*n, true)
	}
}

func TestDifferOfUnlikeLengths(t *testing.T) {
	for _, n := range []int{0, 1, 2, 3, 4, 5, 6, 7, 8, 9, 10, 255, 256, 257, 1100} {
		for _, m := range []int{0, 1, 2, 3, 4, 5, 8, 9, 12, 255, 256, 512, 513, 1099, 1101} {
			if n == m {
				continue
			}
			b := some(max(n, m))
			differs(t, b[:n], b[:m], 0, 0, false)
			differs(t, make([]byte, n), make([]byte, m), 0, 0, false)
			differs(t, make([]byte, n), bytes.Repeat([]byte{1}, m), 0, 0, false)
			if n != 0 && m != 0 {
				differs(t, with(b[:n], 8*n-1), b[:m], 0, 0, false)
				differs(t, with(b[:n], 0), b[:m], 0, 0, false)
			}
		}
		if n != 0 {
			differs(t, nil, some(n), 0, 0, false)
		}
	}
}

func TestIs(t *testing.T) {
	for _, r := range []struct {
		a, b string
		want bool
	}{
		{"00 00", "80 01", true},
		{"", "", false},
		{"00", "00", false},
		{"01 02 03 04 05", "01 02 03 04 05", false},
		{"00", "01", true},                         // 1
		{"00", "ff", true},                         // 8, within one byte
		{"00 00", "01 80", true},                   // 16
		{"00 00 00 00", "02 00 00 80", true},       // 31
		{"00 00 00 00", "01 00 00 40", true},       // 31
		{"00 00 00 00", "01 00 00 80", true},       // 32
		{"00 00 00 00", "ff ff ff ff", true},       // 32
		{"00 00 00 00 00", "08 00 00 00 04", true}, // 32, over five bytes
		{"00 00 00 00 00", "f8 ff ff ff 07", true},
		{"00 00 00 00 00", "08 00 00 00 08", false}, // 33
		{"00 00 00 00 00", "f8 ff ff ff 0f", false},
		{"00 00 00 00 00", "01 00 00 00 01", false}, // 33
		{"00 00 00 00 00", "80 00 00 00 80", false}, // 33
		{"00 00 00 00 00 00", "80 00 00 00 00 01", false},
		{"", "01", false},
		{"00", "", false},
		{"00", "00 00", false},
		{"00", "01 00", false},
	} {
		if got := Is(unhex(r.a), unhex(r.b)); got != r.want {
			t.Errorf("Is(%s, %s): %v", r.a, r.b, got)
		}
	}
}

// Each width from 1 to 70 at each place, both ends alone and all that is between.
func TestIsByWidth(t *testing.T) {
	for _, n := range []int{1, 4, 5, 9, 12} {
		b := some(n)
		for from := 0; from < 8*n; from++ {
			all := append([]byte{}, b...)
			for width := 1; width <= 70 && from+width <= 8*n; width++ {
				flip(all, from+width-1)
				ends := with(b, from)
				if width > 1 {
					flip(ends, from+width-1)
				}
				if Is(b, ends) != (width <= 32) || Is(b, all) != (width <= 32) || Is(all, b) != (width <= 32) {
					t.Errorf("Is of %d bytes that differ by %d bits from %d on", n, width, from)
				}
			}
		}
	}
}

func TestWidth(t *testing.T) {
	for _, r := range []struct {
		x    uint32
		want int
	}{
		{10, 3}, // the chapter's example
		{0, 0},
		{1, 1},
		{2, 1},
		{3, 2},
		{5, 3},
		{12, 2},
		{0x80, 1},
		{0x81, 8},
		{0x180, 2},
		{1 << 31, 1},
		{3 << 30, 2},
		{1<<31 | 1, 32},
		{1<<31 | 2, 31},
		{1<<30 | 1, 31},
		{math.MaxInt32, 31},
		{math.MaxUint32 - 1, 31},
		{math.MaxUint32, 32},
		{0x00FFFF00, 16},
	} {
		if got := Width(r.x); got != r.want {
			t.Errorf("Width(%#x): %d; wanted %d", r.x, got, r.want)
		}
	}
}

// Each lowest and each highest bit, with nothing between, with all and with some.
func TestWidthByEnds(t *testing.T) {
	next := chance(152)
	for low := 0; low < 32; low++ {
		for high := low; high < 32; high++ {
			ends := uint32(1)<<low | uint32(1)<<high
			all := uint32(uint64(1)<<(high+1) - uint64(1)<<low)
			l := []uint32{ends, all}
			for i := 0; i < 20; i++ {
				l = append(l, ends|all&uint32(next()>>16))
			}
			for _, x := range l {
				if got := Width(x); got != high-low+1 {
					t.Errorf("Width(%#x): %d; wanted %d", x, got, high-low+1)
				}
			}
		}
	}
}

func TestWidthOfMany(t *testing.T) {
	next := chance(1520)
	for i := 0; i < 1<<17; i++ {
		for _, x := range []uint32{uint32(i), uint32(i) << 15, uint32(next()), uint32(next()) >> (next() % 32), uint32(next()) << (next() % 32)} {
			if got, want := Width(x), slowWidth(x); got != want {
				t.Fatalf("Width(%#x): %d; wanted %d", x, got, want)
			}
		}
	}
}

// P15.3

// undoes asks that bytes turned twice are as they were, and that once they are turned by a burst, or not at all.
func undoes(t *testing.T, b []byte, pos, turned uint32) {
	t.Helper()
	c := Turn(b, pos, turned)
	if got := Turn(c, pos, turned); !bytes.Equal(got, b) {
		t.Fatalf("Turn(%s, %d, %#x) twice: %s", brief(b), pos, turned, brief(got))
	}
	first, width, ok := Differ(b, c)
	if !ok || width > Width(turned) || Is(b, c) == bytes.Equal(b, c) {
		t.Fatalf("Turn(%s, %d, %#x) is no burst, nor nothing: %d, %d, %v", brief(b), pos, turned, first, width, ok)
	}
	if left := 8*len(b) - int(uint64(pos)%uint64(8*len(b))); left >= 32 && width != Width(turned) {
		t.Fatalf("Turn(%s, %d, %#x) is %d wide, though nothing is behind the end", brief(b), pos, turned, width)
	}
}

func TestTurnedTwice(t *testing.T) {
	for n := 1; n <= 10; n++ {
		for _, b := range fills(n) {
			for _, pos := range places(8 * n) {
				for _, turned := range patterns() {
					undoes(t, b, pos, turned)
				}
			}
		}
	}
	for _, turned := range patterns() {
		if got := Turn(Turn(nil, 5, turned), 5, turned); len(got) != 0 {
			t.Errorf("no bytes turned twice by %#x: % x", turned, got)
		}
	}
}

// Each burst is what Turn makes, and nothing else is one.
func TestBurstsAreWhatTurnMakes(t *testing.T) {
	next := chance(153)
	for i := 0; i < 20000; i++ {
		b := some(1 + int(next()%12))
		c := append([]byte{}, b...)
		for k := next() % 5; k > 0; k-- {
			flip(c, int(next()%uint64(8*len(b))))
		}
		first, width, ok := Differ(b, c)
		if !ok {
			t.Fatalf("Differ of %d bytes each: they are of unlike lengths", len(b))
		}
		turned := uint32(0)
		was, is := bitsOf(b), bitsOf(c)
		for k := 0; k < width && k < 32; k++ {
			if was[first+k] != is[first+k] {
				turned |= 1 << k
			}
		}
		if made := bytes.Equal(Turn(b, uint32(first), turned), c); made != (Is(b, c) || width == 0) {
			t.Fatalf("Is(%s, %s): %v, but Turn from %d on by %#x makes it: %v", brief(b), brief(c), Is(b, c), first, turned, made)
		}
	}
}

// chanced are a place among n bits, a pattern of few bits or of many, drawn by chance.
func chanced(next func() uint64, n int) (pos, turned uint32) {
	pos, turned = uint32(next()>>11), uint32(next()>>13)
	switch next() % 4 {
	case 0:
		pos = uint32(next() % uint64(n))
	case 1:
		pos = uint32(n) - 1 - uint32(next()%uint64(min(n, 40)))
	}
	switch next() % 3 {
	case 0:
		turned &= uint32(next() >> 7)
		turned &= uint32(next() >> 9)
	case 1:
		turned >>= next() % 32
		turned <<= next() % 32
	}
	return pos, turned
}

func TestByChance(t *testing.T) {
	next := chance(15)
	for i := 0; i < 60000; i++ {
		n := 1 + int(next()%9)
		if i%16 == 0 {
			n = 1 + int(next()%200)
		}
		b := make([]byte, n)
		for k := range b {
			b[k] = byte(next() >> 9)
		}
		pos, turned := chanced(next, 8*n)
		turns(t, b, pos, turned)
		undoes(t, b, pos, turned)
		c := Turn(b, pos, turned)
		if i%3 == 0 { // two bursts lie as far from each other as they will
			pos, turned = chanced(next, 8*n)
			c = Turn(c, pos, turned)
		}
		first, width, ok := slowDiffer(b, c)
		differs(t, b, c, first, width, ok)
		if Is(b, c) != slowIs(b, c) || Width(turned) != slowWidth(turned) {
			t.Fatalf("Is(%s, %s) or Width(%#x)", brief(b), brief(c), turned)
		}
		if short := c[:next()%uint64(n)]; Is(b, short) || slowIs(b, short) {
			t.Fatalf("Is(%s, %s), which are of unlike lengths", brief(b), brief(short))
		}
	}
}

// The slow ways are asked as well: by what can be told by hand.
func TestSlowWays(t *testing.T) {
	l := bitsOf([]byte{1, 0x82})
	want := []bool{true, false, false, false, false, false, false, false, false, true, false, false, false, false, false, true}
	if !slices.Equal(l, want) {
		t.Error("bitsOf:", l)
	}
	for n := 0; n < 20; n++ {
		if b := some(n); !bytes.Equal(bytesOf(bitsOf(b)), b) {
			t.Errorf("bytesOf(bitsOf(% x))", b)
		}
	}
	if got := slowTurn([]byte{0, 0}, 7, 3); !bytes.Equal(got, []byte{0x80, 1}) {
		t.Errorf("slowTurn: % x", got)
	}
	if f, w, ok := slowDiffer([]byte{0, 0}, []byte{0x80, 1}); f != 7 || w != 2 || !ok || slowWidth(10) != 3 {
		t.Error("slowDiffer, slowWidth:", f, w, ok, slowWidth(10))
	}
}
