package unit

import (
	"encoding/binary"
	"math"
	"math/big"
	"testing"

	"angelus/api"
)

const (
	least = math.MinInt64
	most  = math.MaxInt64
)

// marks are the numbers about which something changes: 0, a tick, the ends of 32 and of 64 bits, and the last ticks that have grains.
var marks = []int64{
	least, least / 2, -1 << 53, -1 << 33, -1 << 32, -1 << 31, -10 * api.Grain, -api.Grain, -256,
	0, 256, api.Grain, 10 * api.Grain, 1 << 31, 1 << 32, 1 << 33, 1 << 53, most / 2, most,
}

// numbers are the marks and what lies within 3 of them; some beyond the ends go round to the other end, which does no harm.
func numbers() (l []int64) {
	for _, m := range marks {
		for d := int64(-3); d <= 3; d++ {
			l = append(l, m+d)
		}
	}
	for x := int64(-3000); x <= 3000; x += 7 {
		l = append(l, x)
	}
	return append(l, 0x0123456789abcdef, -0x0123456789abcdef, 0x7f00ff00ff00ff00, -0x5555555555555556)
}

// lows are lower halves: both ends, the middle, their neighbours, and some others.
func lows() []uint32 {
	return []uint32{
		0, 1, 2, 5, 1000, 1<<16 - 1, 1 << 16, 1<<31 - 2, 1<<31 - 1, 1 << 31, 1<<31 + 1, 1<<31 + 2,
		0x89abcdef, 1<<32 - 1000, 1<<32 - 2, 1<<32 - 1,
	}
}

func same(t *testing.T, name string, x, got, want any) {
	t.Helper()
	if got != want {
		t.Errorf("%s(%v): %v; wanted %v", name, x, got, want)
	}
}

// P2.1

func TestGrains(t *testing.T) {
	for _, r := range []struct {
		ticks, want int64
		is          bool
	}{
		{0, 0, true},
		{1, 1024, true},
		{3, 3072, true}, // the chapter's example
		{-1, -1024, true},
		{-3, -3072, true},
		{1<<53 - 1, most - 1023, true}, // the last ones that have grains
		{-1 << 53, least, true},
		{1 << 53, 0, false}, // wrong ones: no int64
		{-1<<53 - 1, 0, false},
		{1<<53 + 1, 0, false},
		{1 << 54, 0, false}, // goes round to 0
		{-1 << 54, 0, false},
		{1<<54 + 1, 0, false}, // goes round to 1024
		{most, 0, false},
		{least, 0, false},
	} {
		if got, ok := Grains(r.ticks); got != r.want || ok != r.is {
			t.Errorf("Grains(%d): %d, %v; wanted %d, %v", r.ticks, got, ok, r.want, r.is)
		}
	}
	for _, x := range numbers() {
		whole := new(big.Int).Mul(big.NewInt(x), big.NewInt(1024))
		want, is := int64(0), whole.IsInt64()
		if is {
			want = whole.Int64()
		}
		if got, ok := Grains(x); got != want || ok != is {
			t.Errorf("Grains(%d): %d, %v; wanted %d, %v", x, got, ok, want, is)
		}
	}
}

func TestTicksUpRest(t *testing.T) {
	for _, r := range []struct{ grains, ticks, up, rest int64 }{
		{0, 0, 0, 0},
		{1, 0, 1, 1},
		{1023, 0, 1, 1023},
		{1024, 1, 1, 0},
		{1025, 1, 2, 1},
		{5000, 4, 5, 904},
		{-1, -1, 0, 1023}, // the chapter's example
		{-1023, -1, 0, 1},
		{-1024, -1, -1, 0},
		{-1025, -2, -1, 1023},
		{-5000, -5, -4, 120},
		{most, 1<<53 - 1, 1 << 53, 1023},
		{most - 1022, 1<<53 - 1, 1 << 53, 1},
		{most - 1023, 1<<53 - 1, 1<<53 - 1, 0},
		{least, -1 << 53, -1 << 53, 0},
		{least + 1, -1 << 53, -1<<53 + 1, 1},
		{least + 1023, -1 << 53, -1<<53 + 1, 1023},
		{least + 1024, -1<<53 + 1, -1<<53 + 1, 0},
	} {
		same(t, "Ticks", r.grains, Ticks(r.grains), r.ticks)
		same(t, "Up", r.grains, Up(r.grains), r.up)
		same(t, "Rest", r.grains, Rest(r.grains), r.rest)
	}
	tick := big.NewInt(1024)
	for _, x := range numbers() {
		// big's DivMod leaves a rest that is not below 0: so it rounds down
		down, rest := new(big.Int).DivMod(big.NewInt(x), tick, new(big.Int))
		same(t, "Ticks", x, Ticks(x), down.Int64())
		same(t, "Rest", x, Rest(x), rest.Int64())
		down.Div(down.Neg(big.NewInt(x)), tick)
		same(t, "Up", x, Up(x), down.Neg(down).Int64())
	}
}

// P2.2

func TestHalvesAndWhole(t *testing.T) {
	for _, r := range []struct {
		x      uint64
		hi, lo uint32
	}{
		{0, 0, 0},
		{1, 0, 1},
		{1<<31 - 1, 0, 1<<31 - 1},
		{1 << 31, 0, 1 << 31},
		{1<<32 - 1, 0, 1<<32 - 1},
		{1 << 32, 1, 0},
		{1<<32 + 1, 1, 1},
		{1 << 63, 1 << 31, 0},
		{1<<63 - 1, 1<<31 - 1, 1<<32 - 1},
		{1<<64 - 1<<32, 1<<32 - 1, 0},
		{1<<64 - 1, 1<<32 - 1, 1<<32 - 1},
		{0x0123456789abcdef, 0x01234567, 0x89abcdef},
	} {
		if hi, lo := Halves(r.x); hi != r.hi || lo != r.lo {
			t.Errorf("Halves(%#x): %#x, %#x; wanted %#x, %#x", r.x, hi, lo, r.hi, r.lo)
		}
		if x := Whole(r.hi, r.lo); x != r.x {
			t.Errorf("Whole(%#x, %#x): %#x; wanted %#x", r.hi, r.lo, x, r.x)
		}
	}
	for _, hi := range lows() {
		for _, lo := range lows() {
			if x := Whole(hi, lo); x/(1<<32) != uint64(hi) || x%(1<<32) != uint64(lo) {
				t.Errorf("Whole(%#x, %#x): %#x", hi, lo, x)
			}
		}
	}
}

// P2.3

func TestZigAndZag(t *testing.T) {
	for _, r := range []struct {
		x int64
		u uint64
	}{
		{0, 0},
		{-1, 1}, // the chapter's example
		{1, 2},
		{-2, 3},
		{2, 4},
		{1 << 31, 1 << 32},
		{-1 << 31, 1<<32 - 1},
		{1<<31 - 1, 1<<32 - 2},
		{-1<<31 - 1, 1<<32 + 1},
		{1 << 62, 1 << 63},
		{-1 << 62, 1<<63 - 1},
		{-1<<62 - 1, 1<<63 + 1},
		{most, 1<<64 - 2},
		{least + 1, 1<<64 - 3},
		{least, 1<<64 - 1},
	} {
		same(t, "Zig", r.x, Zig(r.x), r.u)
		same(t, "Zag", r.u, Zag(r.u), r.x)
	}
	two, one := big.NewInt(2), big.NewInt(1)
	for _, x := range numbers() {
		want := new(big.Int).Mul(big.NewInt(x), two)
		if x < 0 {
			want.Neg(want).Sub(want, one)
		}
		same(t, "Zig", x, Zig(x), want.Uint64())
		same(t, "Zag", want, Zag(want.Uint64()), x)
	}
}

// P2.4

func TestLowAndFits(t *testing.T) {
	for _, r := range []struct {
		x    int64
		low  int32
		fits bool
	}{
		{0, 0, true},
		{1, 1, true},
		{-1, -1, true},
		{1<<31 - 1, 1<<31 - 1, true},
		{1 << 31, -1 << 31, false},
		{1<<31 + 1, -1<<31 + 1, false},
		{-1 << 31, -1 << 31, true},
		{-1<<31 + 1, -1<<31 + 1, true},
		{-1<<31 - 1, 1<<31 - 1, false},
		{1<<32 - 1, -1, false},
		{1 << 32, 0, false},
		{1<<32 + 1, 1, false},
		{-1 << 32, 0, false},
		{-1<<32 - 1, -1, false},
		{-1<<32 + 1, 1, false},
		{0x0123456789abcdef, -0x76543211, false},
		{most, -1, false},
		{least, 0, false},
		{least + 1, 1, false},
	} {
		same(t, "Low", r.x, Low(r.x), r.low)
		same(t, "Fits", r.x, Fits(r.x), r.fits)
	}
	for _, x := range numbers() {
		if low := int64(Low(x)); (x-low)%(1<<32) != 0 {
			t.Errorf("Low(%d): %d has other lower bits", x, low)
		}
		same(t, "Fits", x, Fits(x), x >= math.MinInt32 && x <= math.MaxInt32)
	}
}

func TestNear(t *testing.T) {
	for _, r := range []struct {
		old  int64
		low  uint32
		want int64
	}{
		{1<<32 - 1, 1, 1<<32 + 1}, // the chapter's example
		{0, 0, 0},
		{5, 7, 7},
		{7, 5, 5},
		{5, 1<<32 - 1, -1},
		{-1, 0, 0},
		{1<<32 + 1, 1<<32 - 1, 1<<32 - 1},
		// as far as it goes: up by 2^31 - 1, down by 2^31
		{0, 1<<31 - 1, 1<<31 - 1},
		{0, 1 << 31, -1 << 31},
		{0, 1<<31 + 1, -1<<31 + 1},
		{1, 1 << 31, 1 << 31},
		{1, 1<<31 + 1, -1<<31 + 1},
		{-1, 1<<31 - 1, -1<<31 - 1},
		{-1, 1<<31 - 2, 1<<31 - 2},
		{1 << 31, 0, 0},
		{1<<31 + 1, 0, 1 << 32},
		{1 << 40, 1<<31 - 1, 1<<40 + 1<<31 - 1},
		{1 << 40, 1 << 31, 1<<40 - 1<<31},
		// modulo 2^64 beyond the ends
		{most, 1<<32 - 1, most},
		{most, 0, least},
		{most, 1<<31 - 2, least + 1<<31 - 2},
		{most, 1<<31 - 1, most - 1<<31},
		{least, 0, least},
		{least, 1<<32 - 1, most},
		{least, 1 << 31, most - 1<<31 + 1},
		{least, 1<<31 - 1, least + 1<<31 - 1},
	} {
		if x := Near(r.old, r.low); x != r.want {
			t.Errorf("Near(%d, %d): %d; wanted %d", r.old, r.low, x, r.want)
		}
	}
	for _, old := range numbers() {
		for _, low := range append(lows(), uint32(old), uint32(old)+1, uint32(old)-1, uint32(old)+1<<31-1, uint32(old)+1<<31) {
			x := Near(old, low)
			if step := x - old; uint32(x) != low || step < -1<<31 || step >= 1<<31 {
				t.Errorf("Near(%d, %d): %d", old, low, x)
			}
		}
	}
}

// P2.5

func TestBytesAndNumber(t *testing.T) {
	for _, r := range []struct {
		x uint64
		b [8]byte
	}{
		{0, [8]byte{}},
		{1, [8]byte{1}},
		{255, [8]byte{255}},
		{256, [8]byte{0, 1}},
		{258, [8]byte{2, 1}}, // the chapter's example
		{1 << 31, [8]byte{3: 128}},
		{1<<32 - 1, [8]byte{255, 255, 255, 255}},
		{1 << 32, [8]byte{4: 1}},
		{1<<32 + 1, [8]byte{0: 1, 4: 1}},
		{1 << 63, [8]byte{7: 128}},
		{1<<63 - 1, [8]byte{255, 255, 255, 255, 255, 255, 255, 127}},
		{1<<64 - 1, [8]byte{255, 255, 255, 255, 255, 255, 255, 255}},
		{0x0807060504030201, [8]byte{1, 2, 3, 4, 5, 6, 7, 8}},
		{0x0123456789abcdef, [8]byte{0xef, 0xcd, 0xab, 0x89, 0x67, 0x45, 0x23, 0x01}},
	} {
		same(t, "Bytes", r.x, Bytes(r.x), r.b)
		same(t, "Number", r.b, Number(r.b), r.x)
	}
	for _, x := range numbers() {
		var b [8]byte
		binary.LittleEndian.PutUint64(b[:], uint64(x))
		same(t, "Bytes", uint64(x), Bytes(uint64(x)), b)
		same(t, "Number", b, Number(b), uint64(x))
	}
}

// P2.6

func TestTicksComeBack(t *testing.T) {
	held := 0
	for _, x := range numbers() {
		g, ok := Grains(x)
		if !ok {
			continue
		}
		held++
		same(t, "Ticks of Grains", x, Ticks(g), x)
		same(t, "Up of Grains", x, Up(g), x)
		same(t, "Rest of Grains", x, Rest(g), int64(0))
	}
	if held < 800 {
		t.Errorf("only %d ticks have grains", held)
	}
	for _, x := range numbers() {
		if g, ok := Grains(Ticks(x)); !ok || g+Rest(x) != x {
			t.Errorf("%d grains come back as %d, %v, and %d", x, g, ok, Rest(x))
		}
	}
}

func TestFoldedComesBack(t *testing.T) {
	for _, x := range numbers() {
		u := uint64(x)
		same(t, "Zag of Zig", x, Zag(Zig(x)), x)
		same(t, "Zig of Zag", u, Zig(Zag(u)), u)
		same(t, "Whole of Halves", u, Whole(Halves(u)), u)
		same(t, "Number of Bytes", u, Number(Bytes(u)), u)
		same(t, "Bytes of Number", Bytes(u), Bytes(Number(Bytes(u))), Bytes(u))
		same(t, "Near of Low", x, Near(x, uint32(Low(x))), x)
	}
	for _, hi := range lows() {
		for _, lo := range lows() {
			if h, l := Halves(Whole(hi, lo)); h != hi || l != lo {
				t.Errorf("Halves of Whole(%#x, %#x): %#x, %#x", hi, lo, h, l)
			}
		}
	}
}
