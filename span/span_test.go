package span

import (
	"math"
	"math/big"
	"testing"
)

const (
	least = math.MinInt64
	most  = math.MaxInt64
)

// edges are the ends of int64, the numbers about 0, and those whose sums and products come close to the ends.
var edges = []int64{
	least, least + 1, least + 2, least + 7, least / 2, least/2 - 1, least/2 + 1, least / 3,
	-3037000500, -3037000499, -1 << 32, -1<<32 - 1, -1 << 31, -1000, -10, -8, -7, -3, -2, -1,
	0, 1, 2, 3, 7, 8, 10, 1000, 1 << 31, 1<<32 - 1, 1 << 32, 3037000499, 3037000500,
	most / 3, most/2 - 1, most / 2, most/2 + 1, most - 7, most - 2, most - 1, most,
}

// fits is what a whole number counts as: itself and true, or 0 and false.
func fits(x *big.Int) (int64, bool) {
	if !x.IsInt64() {
		return 0, false
	}
	return x.Int64(), true
}

// floor is a by b, rounded down; big's Div leaves a rest that is not below 0, so that it does just that for b above 0.
func floor(a, b int64) *big.Int {
	x, y := big.NewInt(a), big.NewInt(b)
	if b < 0 {
		x.Neg(x)
		y.Neg(y)
	}
	return new(big.Int).Div(x, y)
}

// ceil is a by b, rounded up: what is rounded down of the number with the other sign.
func ceil(a, b int64) *big.Int {
	x, y := big.NewInt(a), big.NewInt(b)
	if b < 0 {
		y.Neg(y)
	} else {
		x.Neg(x)
	}
	q := new(big.Int).Div(x, y)
	return q.Neg(q)
}

func pairs(do func(a, b int64)) {
	for _, a := range edges {
		for _, b := range edges {
			do(a, b)
		}
	}
	for a := int64(-20); a <= 20; a++ {
		for b := int64(-20); b <= 20; b++ {
			do(a, b)
		}
	}
}

func told(t *testing.T, name string, a, b, got int64, ok bool, want int64, is bool) {
	t.Helper()
	if got != want || ok != is {
		t.Errorf("%s(%d, %d): %d, %v; wanted %d, %v", name, a, b, got, ok, want, is)
	}
}

// row is a call of two numbers and its answer.
type row struct {
	a, b, want int64
	is         bool
}

func rows(t *testing.T, name string, f func(a, b int64) (int64, bool), l []row) {
	t.Helper()
	for _, r := range l {
		got, ok := f(r.a, r.b)
		told(t, name, r.a, r.b, got, ok, r.want, r.is)
	}
}

// P1.1

func TestAdd(t *testing.T) {
	rows(t, "Add", Add, []row{
		{2, 3, 5, true},
		{-2, -3, -5, true},
		{most, 0, most, true},
		{most - 1, 1, most, true},
		{most, 1, 0, false}, // the chapter's example
		{1, most, 0, false},
		{most, most, 0, false},
		{least, 0, least, true},
		{least + 1, -1, least, true},
		{least, -1, 0, false},
		{-1, least, 0, false},
		{least, least, 0, false}, // goes round to 0
		{least, most, -1, true},
		{most, least, -1, true},
	})
	pairs(func(a, b int64) {
		got, ok := Add(a, b)
		want, is := fits(new(big.Int).Add(big.NewInt(a), big.NewInt(b)))
		told(t, "Add", a, b, got, ok, want, is)
	})
}

func TestSub(t *testing.T) {
	rows(t, "Sub", Sub, []row{
		{5, 3, 2, true},
		{3, 5, -2, true},
		{least, 0, least, true},
		{least, 1, 0, false},
		{most, -1, 0, false},
		{0, least, 0, false}, // 2^63 is no int64
		{-1, least, most, true},
		{least, least, 0, true},
		{0, most, -most, true},
		{-1, most, least, true},
		{-2, most, 0, false},
		{most, least, 0, false},
	})
	pairs(func(a, b int64) {
		got, ok := Sub(a, b)
		want, is := fits(new(big.Int).Sub(big.NewInt(a), big.NewInt(b)))
		told(t, "Sub", a, b, got, ok, want, is)
	})
}

func TestMul(t *testing.T) {
	rows(t, "Mul", Mul, []row{
		{6, 7, 42, true},
		{-6, 7, -42, true},
		{-6, -7, 42, true},
		{0, least, 0, true},
		{least, 0, 0, true},
		{-5, 0, 0, true},
		{least, 1, least, true},
		{least, -1, 0, false},
		{-1, least, 0, false},
		{most, -1, -most, true},
		{most, 2, 0, false},
		{-1 << 32, 1 << 31, least, true},
		{1 << 32, 1 << 31, 0, false},
		{1 << 32, 1 << 32, 0, false}, // goes round to 0
		{least, least, 0, false},
		{3037000499, 3037000499, 9223372030926249001, true},
		{3037000500, 3037000500, 0, false},
		{-3037000500, 3037000500, 0, false},
		{7, 1317624576693539401, most, true},
		{-7, 1317624576693539401, -most, true},
		{3, -3074457345618258603, 0, false}, // one below the lower end
		{-3, 3074457345618258603, 0, false},
	})
	pairs(func(a, b int64) {
		got, ok := Mul(a, b)
		want, is := fits(new(big.Int).Mul(big.NewInt(a), big.NewInt(b)))
		told(t, "Mul", a, b, got, ok, want, is)
	})
}

// P1.2

func TestDiv(t *testing.T) {
	rows(t, "Div", Div, []row{
		{7, 2, 3, true},
		{-7, 2, -4, true}, // the chapter's example
		{7, -2, -4, true},
		{-7, -2, 3, true},
		{-8, 2, -4, true},
		{8, -2, -4, true},
		{1, most, 0, true},
		{-1, most, -1, true},
		{0, 5, 0, true},
		{0, -5, 0, true},
		{5, 0, 0, false},
		{0, 0, 0, false},
		{least, 0, 0, false},
		{least, -1, 0, false},
		{least, 1, least, true},
		{most, -1, -most, true},
		{least, 2, least / 2, true},
		{least, most, -2, true},
		{most, least, -1, true},
		{least, least, 1, true},
	})
	pairs(func(a, b int64) {
		got, ok := Div(a, b)
		want, is := int64(0), false
		if b != 0 {
			want, is = fits(floor(a, b))
		}
		told(t, "Div", a, b, got, ok, want, is)
	})
}

func TestUp(t *testing.T) {
	rows(t, "Up", Up, []row{
		{7, 2, 4, true},
		{-7, 2, -3, true},
		{7, -2, -3, true},
		{-7, -2, 4, true},
		{8, 2, 4, true},
		{-8, -2, 4, true},
		{1, most, 1, true},
		{-1, most, 0, true},
		{0, 5, 0, true},
		{0, -5, 0, true},
		{5, 0, 0, false},
		{0, 0, 0, false},
		{most, 0, 0, false},
		{least, -1, 0, false},
		{least, 1, least, true},
		{most, 1, most, true},
		{most, 2, most/2 + 1, true},
		{least, most, -1, true},
		{most, least, 0, true},
		{least + 1, least, 1, true},
	})
	pairs(func(a, b int64) {
		got, ok := Up(a, b)
		want, is := int64(0), false
		if b != 0 {
			want, is = fits(ceil(a, b))
		}
		told(t, "Up", a, b, got, ok, want, is)
	})
}

// P1.3

func checkSum(t *testing.T, l ...int64) {
	t.Helper()
	whole := new(big.Int)
	for _, x := range l {
		whole.Add(whole, big.NewInt(x))
	}
	want, is := fits(whole)
	if got, ok := Sum(l...); got != want || ok != is {
		t.Errorf("Sum(%v): %d, %v; wanted %d, %v", l, got, ok, want, is)
	}
}

func TestSum(t *testing.T) {
	if x, ok := Sum(); x != 0 || !ok {
		t.Errorf("of none: %d, %v", x, ok)
	}
	if x, ok := Sum(most, 1, -1); x != most || !ok { // the chapter's example
		t.Errorf("too great on the way: %d, %v", x, ok)
	}
	if x, ok := Sum(least, -1, 1); x != least || !ok {
		t.Errorf("too small on the way: %d, %v", x, ok)
	}
	if x, ok := Sum(most, 1); x != 0 || ok {
		t.Errorf("one too great: %d, %v", x, ok)
	}
	if x, ok := Sum(least, -1); x != 0 || ok {
		t.Errorf("one too small: %d, %v", x, ok)
	}
	for _, x := range edges {
		checkSum(t, x)
		checkSum(t, x, x, x)
	}
	for _, a := range edges {
		for _, b := range edges {
			checkSum(t, a, b)
			for _, c := range edges {
				checkSum(t, a, b, c)
			}
		}
	}
}

func TestSumOfMany(t *testing.T) {
	all := func(x int64, n int) (l []int64) {
		for range n {
			l = append(l, x)
		}
		return l
	}
	checkSum(t, all(-1, 1000)...)
	checkSum(t, all(most, 4096)...)
	checkSum(t, all(least, 4096)...) // whose lower 64 bits are 0
	checkSum(t, append(all(most, 4096), all(-most, 4096)...)...)
	checkSum(t, append(all(least, 4096), all(most, 4096)...)...)
	checkSum(t, append(all(least, 4096), all(most, 4097)...)...)
	checkSum(t, append(append(all(most, 4096), all(least, 4096)...), 4096)...)
	checkSum(t, append(append(all(most, 4096), all(least, 4096)...), least, 4095)...)
	checkSum(t, append(append(all(most, 4096), all(least, 4096)...), least, 4096)...)
	checkSum(t, append(append(all(least, 4096), all(most, 4096)...), most, 4096)...)
	checkSum(t, append(append(all(least, 4096), all(most, 4096)...), most, 4097)...)
}

func TestSumLeavesItsListAlone(t *testing.T) {
	l := []int64{most, 1, -1, least}
	Sum(l...)
	for i, x := range []int64{most, 1, -1, least} {
		if l[i] != x {
			t.Errorf("number %d is %d behind Sum, was %d", i, l[i], x)
		}
	}
}

// P1.4

func TestMid(t *testing.T) {
	for _, r := range []struct{ a, b, want int64 }{
		{-3, 0, -2}, // the chapter's example
		{3, 0, 1},
		{5, 8, 6},
		{-5, -8, -7},
		{-1, 0, -1},
		{most, most, most},
		{most, most - 1, most - 1},
		{least, least, least},
		{least, least + 1, least},
		{least, most, -1},
		{most, 1, 1 << 62},
	} {
		if x := Mid(r.a, r.b); x != r.want {
			t.Errorf("Mid(%d, %d): %d; wanted %d", r.a, r.b, x, r.want)
		}
	}
	pairs(func(a, b int64) {
		sum := new(big.Int).Add(big.NewInt(a), big.NewInt(b))
		want := sum.Div(sum, big.NewInt(2)).Int64()
		if x := Mid(a, b); x != want {
			t.Errorf("Mid(%d, %d): %d; wanted %d", a, b, x, want)
		}
	})
}

func TestAbs(t *testing.T) {
	for _, r := range []struct {
		a    int64
		want uint64
	}{{0, 0}, {5, 5}, {-5, 5}, {-1, 1}, {most, 1<<63 - 1}, {-most, 1<<63 - 1}, {least, 1 << 63}} {
		if x := Abs(r.a); x != r.want {
			t.Errorf("Abs(%d): %d; wanted %d", r.a, x, r.want)
		}
	}
	for _, a := range edges {
		want := new(big.Int).Abs(big.NewInt(a)).Uint64()
		if x := Abs(a); x != want {
			t.Errorf("Abs(%d): %d; wanted %d", a, x, want)
		}
	}
}

func TestGap(t *testing.T) {
	for _, r := range []struct {
		a, b int64
		want uint64
	}{
		{3, 8, 5},
		{8, 3, 5},
		{-3, 8, 11},
		{-8, -3, 5},
		{4, 4, 0},
		{least, most, 1<<64 - 1},
		{most, least, 1<<64 - 1},
		{least, 0, 1 << 63},
		{0, least, 1 << 63},
		{least, least, 0},
	} {
		if x := Gap(r.a, r.b); x != r.want {
			t.Errorf("Gap(%d, %d): %d; wanted %d", r.a, r.b, x, r.want)
		}
	}
	pairs(func(a, b int64) {
		far := new(big.Int).Sub(big.NewInt(a), big.NewInt(b))
		want := far.Abs(far).Uint64()
		if x := Gap(a, b); x != want {
			t.Errorf("Gap(%d, %d): %d; wanted %d", a, b, x, want)
		}
	})
}

func TestClamp(t *testing.T) {
	for _, r := range []struct{ x, lo, hi, want int64 }{
		{5, 0, 10, 5},
		{0, 0, 10, 0},
		{10, 0, 10, 10},
		{-1, 0, 10, 0},
		{11, 0, 10, 10},
		{5, 5, 5, 5},
		{4, 5, 5, 5},
		{6, 5, 5, 5},
		{least, -3, 3, -3},
		{most, -3, 3, 3},
		{least, least, most, least},
		{most, least, most, most},
		// bounds the wrong way round: lo stands first
		{5, 7, 3, 7},
		{2, 7, 3, 7},
		{7, 7, 3, 3},
		{9, 7, 3, 3},
		{0, most, least, most},
		{most, most, least, least},
	} {
		if x := Clamp(r.x, r.lo, r.hi); x != r.want {
			t.Errorf("Clamp(%d, %d, %d): %d; wanted %d", r.x, r.lo, r.hi, x, r.want)
		}
	}
}

// P1.5

func TestAddedIsTakenAway(t *testing.T) {
	sums := 0
	pairs(func(a, b int64) {
		sum, ok := Add(a, b)
		if !ok {
			return
		}
		sums++
		if x, ok := Sub(sum, b); x != a || !ok {
			t.Errorf("%d and %d less %d: %d, %v", a, b, b, x, ok)
		}
		if x, ok := Sub(sum, a); x != b || !ok {
			t.Errorf("%d and %d less %d: %d, %v", a, b, a, x, ok)
		}
	})
	if sums < 1681 { // those of -20 to 20 alone
		t.Errorf("only %d sums were held to it", sums)
	}
}

func TestDivLeaves(t *testing.T) {
	pairs(func(a, b int64) {
		if b <= 0 {
			return
		}
		q, ok := Div(a, b)
		if !ok {
			t.Errorf("Div(%d, %d): none", a, b)
			return
		}
		rest := new(big.Int).Mul(big.NewInt(q), big.NewInt(b))
		rest.Sub(big.NewInt(a), rest)
		if rest.Sign() < 0 || rest.Cmp(big.NewInt(b)) >= 0 {
			t.Errorf("Div(%d, %d) leaves %v", a, b, rest)
		}
	})
}
