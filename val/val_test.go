package val_test

import (
	"math"
	"math/big"
	"strconv"
	"strings"
	"testing"

	"semblance/api"
	"semblance/val"
)

// edges are the numbers at which something may turn, rising.
func edges() []int {
	return []int{
		math.MinInt, math.MinInt + 1, math.MinInt/2 - 1, math.MinInt / 2, -1 << 32, -1 << 31,
		-2*api.Big - 1, -2 * api.Big, -api.Big - 2, -api.Big - 1, -api.Big, -api.Big + 1,
		-5000, -1001, -1000, -999, -10, -9, -2, -1, 0, 1, 2, 9, 10, 999, 1000, 1001, 5000,
		api.Big - 1, api.Big, api.Big + 1, api.Big + 2, 2 * api.Big, 2*api.Big + 1,
		1 << 31, 1 << 32, math.MaxInt / 2, math.MaxInt/2 + 1, math.MaxInt - 1, math.MaxInt,
	}
}

// nearest is the nearest value of a number that no int may run over.
func nearest(x *big.Int) *big.Int {
	if most := big.NewInt(api.Big); x.CmpAbs(most) > 0 {
		return most.Mul(most, big.NewInt(int64(x.Sign())))
	}
	return x
}

// reckon is what a sum, a difference or a product comes to, by numbers without bounds.
func reckon(op func(z, x, y *big.Int) *big.Int, a, b int) int {
	x, y := nearest(big.NewInt(int64(a))), nearest(big.NewInt(int64(b)))
	return int(nearest(op(new(big.Int), x, y)).Int64())
}

// Va1: the nearest value is the number itself, or the bound on its side.
func TestNear(t *testing.T) {
	for _, c := range [][2]int{
		{0, 0}, {1, 1}, {-1, -1}, {42, 42}, {-42, -42},
		{999999, 999999}, {1000000, 1000000}, {1000001, 1000000},
		{-999999, -999999}, {-1000000, -1000000}, {-1000001, -1000000},
		{math.MaxInt, 1000000}, {math.MaxInt - 1, 1000000},
		{math.MinInt, -1000000}, {math.MinInt + 1, -1000000},
	} {
		if got := val.Near(c[0]); got != c[1] {
			t.Errorf("Near(%d): %d, not %d", c[0], got, c[1])
		}
	}
	for _, x := range edges() {
		want := int(nearest(big.NewInt(int64(x))).Int64())
		if got := val.Near(x); got != want {
			t.Errorf("Near(%d): %d, not %d", x, got, want)
		}
		if once := val.Near(x); val.Near(once) != once {
			t.Errorf("Near(%d) has another nearest value than itself", x)
		}
	}
}

// Va1: Clamp asks for the lower bound first, and knows no Big.
func TestClamp(t *testing.T) {
	for _, c := range [][4]int{
		{5, 0, 9, 5}, {0, 0, 9, 0}, {9, 0, 9, 9}, {-1, 0, 9, 0}, {10, 0, 9, 9},
		{-5, -9, -1, -5}, {-10, -9, -1, -9}, {0, -9, -1, -1},
		{3, 4, 4, 4}, {4, 4, 4, 4}, {5, 4, 4, 4},
		{0, 9, 1, 9}, {1, 9, 1, 9}, {5, 9, 1, 9}, {8, 9, 1, 9}, {9, 9, 1, 1}, {10, 9, 1, 1},
		{2000000, 0, 3000000, 2000000}, {4000000, 0, 3000000, 3000000}, {-4000000, -3000000, 0, -3000000},
		{math.MinInt, math.MinInt, math.MaxInt, math.MinInt}, {math.MaxInt, math.MinInt, math.MaxInt, math.MaxInt},
		{math.MinInt, -1, 1, -1}, {math.MaxInt, -1, 1, 1},
		{0, math.MaxInt, math.MinInt, math.MaxInt}, {math.MaxInt, math.MaxInt, math.MinInt, math.MinInt},
	} {
		if got := val.Clamp(c[0], c[1], c[2]); got != c[3] {
			t.Errorf("Clamp(%d, %d, %d): %d, not %d", c[0], c[1], c[2], got, c[3])
		}
	}
	for _, x := range edges() {
		if got := val.Clamp(x, math.MinInt, math.MaxInt); got != x {
			t.Errorf("Clamp(%d, the least, the greatest): %d", x, got)
		}
	}
}

// Va1: sums, differences and products by hand.
func TestSums(t *testing.T) {
	for _, c := range []struct {
		name      string
		call      func(a, b int) int
		a, b, got int
	}{
		{"Plus", val.Plus, 2, 3, 5},
		{"Plus", val.Plus, -2, 3, 1},
		{"Plus", val.Plus, 0, 0, 0},
		{"Plus", val.Plus, 999999, 1, 1000000},
		{"Plus", val.Plus, 999999, 2, 1000000},
		{"Plus", val.Plus, -999999, -1, -1000000},
		{"Plus", val.Plus, -999999, -2, -1000000},
		{"Plus", val.Plus, 1000000, -1000000, 0},
		{"Plus", val.Plus, 2000000, -1, 999999},
		{"Plus", val.Plus, math.MaxInt, math.MaxInt, 1000000},
		{"Plus", val.Plus, math.MinInt, math.MinInt, -1000000},
		{"Plus", val.Plus, math.MaxInt, math.MinInt, 0},
		{"Minus", val.Minus, 2, 3, -1},
		{"Minus", val.Minus, 3, 2, 1},
		{"Minus", val.Minus, -2, -2, 0},
		{"Minus", val.Minus, 999999, -1, 1000000},
		{"Minus", val.Minus, 999999, -2, 1000000},
		{"Minus", val.Minus, -999999, 2, -1000000},
		{"Minus", val.Minus, 2000000, 1, 999999},
		{"Minus", val.Minus, 1, 2000000, -999999},
		{"Minus", val.Minus, 0, math.MinInt, 1000000},
		{"Minus", val.Minus, math.MinInt, math.MaxInt, -1000000},
		{"Minus", val.Minus, math.MinInt, math.MinInt, 0},
		{"Times", val.Times, 6, 7, 42},
		{"Times", val.Times, -6, 7, -42},
		{"Times", val.Times, -6, -7, 42},
		{"Times", val.Times, 1000, 1000, 1000000},
		{"Times", val.Times, 1000, 1001, 1000000},
		{"Times", val.Times, -1000, 1000, -1000000},
		{"Times", val.Times, -1000, 1001, -1000000},
		{"Times", val.Times, 5000, 5000, 1000000},
		{"Times", val.Times, 1 << 32, 1 << 32, 1000000},
		{"Times", val.Times, math.MinInt, -1, 1000000},
		{"Times", val.Times, math.MinInt, 0, 0},
		{"Times", val.Times, 2000000, 1, 1000000},
		{"Times", val.Times, 1, math.MinInt, -1000000},
	} {
		if got := c.call(c.a, c.b); got != c.got {
			t.Errorf("%s(%d, %d): %d, not %d", c.name, c.a, c.b, got, c.got)
		}
	}
}

// Va1: all three, at all pairs of edges, against numbers without bounds.
func TestSumsWithoutBounds(t *testing.T) {
	for _, a := range edges() {
		for _, b := range edges() {
			if got, want := val.Plus(a, b), reckon((*big.Int).Add, a, b); got != want {
				t.Errorf("Plus(%d, %d): %d, not %d", a, b, got, want)
			}
			if got, want := val.Minus(a, b), reckon((*big.Int).Sub, a, b); got != want {
				t.Errorf("Minus(%d, %d): %d, not %d", a, b, got, want)
			}
			if got, want := val.Times(a, b), reckon((*big.Int).Mul, a, b); got != want {
				t.Errorf("Times(%d, %d): %d, not %d", a, b, got, want)
			}
		}
	}
}

// Va2: a number's text, of any int.
func TestPut(t *testing.T) {
	for n, want := range map[int]string{
		0: "0", 1: "1", 9: "9", 10: "10", 99: "99", 100: "100", 1234567890: "1234567890",
		-1: "-1", -9: "-9", -10: "-10", -11: "-11", -100: "-100", -1234567890: "-1234567890",
		1000000: "1000000", 1000001: "1000001", -1000000: "-1000000", -1000001: "-1000001",
		math.MaxInt: "9223372036854775807", math.MinInt: "-9223372036854775808",
	} {
		if got := val.Put(n); got != want {
			t.Errorf("Put(%d): %q, not %q", n, got, want)
		}
	}
	for _, n := range edges() {
		if got := val.Put(n); got != strconv.Itoa(n) {
			t.Errorf("Put(%d): %q", n, got)
		}
	}
	for n := -2000; n <= 2000; n++ {
		if got := val.Put(n); got != strconv.Itoa(n) {
			t.Errorf("Put(%d): %q", n, got)
		}
	}
}

// Va2: what digits say, up to Big.
func TestGet(t *testing.T) {
	for s, want := range map[string]int{
		"0": 0, "1": 1, "9": 9, "10": 10, "100": 100, "12345": 12345, "999999": 999999, "1000000": 1000000,
	} {
		if got, e := val.Get(s); got != want || e != api.OK {
			t.Errorf("Get(%q): %d, error %d, not %d", s, got, e, want)
		}
	}
}

// Va2: what is wrong is told by its error, with no number beside it.
func TestGetWrong(t *testing.T) {
	many := strings.Repeat("9", 100000)
	for s, want := range map[string]api.Errno{
		"": api.ErrText, "00": api.ErrText, "01": api.ErrText, "007": api.ErrText, "0000000": api.ErrText,
		"01000001": api.ErrText, "0" + many: api.ErrText,
		"-1": api.ErrText, "+1": api.ErrText, "-0": api.ErrText, "-": api.ErrText, "+": api.ErrText,
		" 1": api.ErrText, "1 ": api.ErrText, "1 2": api.ErrText, "1\n": api.ErrText, "1\x00": api.ErrText,
		"a": api.ErrText, "1a": api.ErrText, "a1": api.ErrText, "1_0": api.ErrText, "1.0": api.ErrText, "0x1": api.ErrText, "1e3": api.ErrText,
		"/": api.ErrText, ":": api.ErrText, "1/": api.ErrText, "1:": api.ErrText, "1\xb2": api.ErrText, "\xff": api.ErrText,
		"\u0661": api.ErrText, "1\u0660": api.ErrText, "\uff11": api.ErrText,
		"1000001x": api.ErrText, many + "x": api.ErrText, "-1000001": api.ErrText,
		"1000001": api.ErrRange, "1000009": api.ErrRange, "1000010": api.ErrRange, "2000000": api.ErrRange, "9999999": api.ErrRange, "10000000": api.ErrRange,
		"9223372036854775807": api.ErrRange, "9223372036854775808": api.ErrRange,
		"18446744073709551616": api.ErrRange, "18446744073709551617": api.ErrRange, "18446744073710551616": api.ErrRange,
		"1" + strings.Repeat("0", 64): api.ErrRange, many: api.ErrRange,
	} {
		if got, e := val.Get(s); got != 0 || e != want {
			t.Errorf("Get(%.40q, of %d bytes): %d, error %d, not %d", s, len(s), got, e, want)
		}
	}
}

// Va2: all texts of two bytes at most.
func TestGetShort(t *testing.T) {
	said := map[string]int{}
	for n := range 100 {
		said[strconv.Itoa(n)] = n
	}
	check := func(s string) {
		want, ok := said[s]
		got, e := val.Get(s)
		if ok && (got != want || e != api.OK) || !ok && (got != 0 || e != api.ErrText) {
			t.Errorf("Get(%q): %d, error %d", s, got, e)
		}
	}
	check("")
	for i := range 256 {
		check(string([]byte{byte(i)}))
		for k := range 256 {
			check(string([]byte{byte(i), byte(k)}))
		}
	}
}

// Va3: what is put of a value of 0 on is got; of no other int.
func TestPutIsGot(t *testing.T) {
	for n := range api.Big + 1 {
		if got, e := val.Get(val.Put(n)); got != n || e != api.OK {
			t.Fatalf("Get(Put(%d)): %d, error %d", n, got, e)
		}
	}
	for _, n := range edges() {
		want := api.OK
		if n < 0 {
			want = api.ErrText
		} else if n > api.Big {
			want = api.ErrRange
		}
		if _, e := val.Get(val.Put(n)); e != want {
			t.Errorf("Get(Put(%d)): error %d, not %d", n, e, want)
		}
	}
}

// Va3: sums and products do not hang on their order.
func TestOrder(t *testing.T) {
	for _, a := range edges() {
		for _, b := range edges() {
			if x, y := val.Plus(a, b), val.Plus(b, a); x != y {
				t.Errorf("Plus of %d and %d: %d, and %d", a, b, x, y)
			}
			if x, y := val.Times(a, b), val.Times(b, a); x != y {
				t.Errorf("Times of %d and %d: %d, and %d", a, b, x, y)
			}
		}
	}
}

// Va3: a greater part makes no lesser sum; nor, by the other part's sign, a product that turns back.
func TestNoTurn(t *testing.T) {
	l := edges()
	for i := range len(l) - 1 {
		a, next := l[i], l[i+1]
		for _, b := range l {
			if val.Plus(a, b) > val.Plus(next, b) {
				t.Errorf("the sum of %d and %d is less than that of %d and %d", next, b, a, b)
			}
			x, y := val.Times(a, b), val.Times(next, b)
			if b >= 0 && x > y || b <= 0 && x < y {
				t.Errorf("the product turns back from %d to %d, by %d", a, next, b)
			}
			if (x < 0) != ((a < 0) != (b < 0) && a != 0 && b != 0) {
				t.Errorf("the product of %d and %d has the wrong sign: %d", a, b, x)
			}
		}
	}
}
