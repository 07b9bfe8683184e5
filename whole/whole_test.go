package whole

import (
	"math"
	"math/big"
	"strings"
	"testing"

	"marline/api"
)

// samples are numbers at the edges, and ordinary ones.
func samples() []int {
	ns := []int{0, 1, 2, 3, 7, 10, 12, 99, 1000, 1<<31 - 1, 1 << 31, 1<<32 - 1, 1 << 32, 3037000499, 3037000500, 1 << 62, 1<<62 + 1, math.MaxInt / 3, math.MaxInt / 2, math.MaxInt - 1, math.MaxInt}
	for _, n := range ns {
		ns = append(ns, -n, -n-1)
	}
	return ns
}

// strangers are numbers that stand for no sign at all.
func strangers() []int {
	return []int{math.MinInt, -2, -1, 0, 15, 16, 1 << 32, 1<<32 + 1, math.MaxInt}
}

// exact reckons without any bound; no divisor of 0 comes in.
func exact(sign, a, b int) *big.Int {
	x, y := big.NewInt(int64(a)), big.NewInt(int64(b))
	switch sign {
	case api.Plus:
		return x.Add(x, y)
	case api.Minus:
		return x.Sub(x, y)
	case api.Times:
		return x.Mul(x, y)
	case api.Over:
		return x.Quo(x, y)
	}
	return x.Rem(x, y)
}

// wanted is what 1.1 asks of Do, of a sign that reckons.
func wanted(sign, a, b int) (int, int) {
	if b == 0 && (sign == api.Over || sign == api.Rest) {
		return 0, api.TrapDiv
	}
	n := exact(sign, a, b)
	if !n.IsInt64() {
		return 0, api.TrapOver
	}
	return int(n.Int64()), api.NoTrap
}

// TestDo: 1.1, each sign that reckons, with all pairs of samples.
func TestDo(t *testing.T) {
	for sign := api.Plus; sign <= api.Rest; sign++ {
		for _, a := range samples() {
			for _, b := range samples() {
				n, trap := Do(sign, a, b)
				if m, want := wanted(sign, a, b); n != m || trap != want {
					t.Errorf("Do(%d, %d, %d) = %d, %d; want %d, %d", sign, a, b, n, trap, m, want)
				}
			}
		}
	}
}

// TestDoEdges: 1.1, written out by hand.
func TestDoEdges(t *testing.T) {
	for _, x := range []struct{ sign, a, b, n, trap int }{
		{api.Over, -7, 2, -3, api.NoTrap},
		{api.Over, 7, -2, -3, api.NoTrap},
		{api.Over, -7, -2, 3, api.NoTrap},
		{api.Rest, -7, 2, -1, api.NoTrap},
		{api.Rest, 7, -2, 1, api.NoTrap},
		{api.Rest, -7, -2, -1, api.NoTrap},
		{api.Rest, -6, 2, 0, api.NoTrap},
		{api.Plus, math.MaxInt, 1, 0, api.TrapOver},
		{api.Plus, math.MinInt, -1, 0, api.TrapOver},
		{api.Plus, math.MinInt, math.MaxInt, -1, api.NoTrap},
		{api.Plus, math.MaxInt, 0, math.MaxInt, api.NoTrap},
		{api.Minus, math.MinInt, 1, 0, api.TrapOver},
		{api.Minus, 0, math.MinInt, 0, api.TrapOver},
		{api.Minus, -1, math.MinInt, math.MaxInt, api.NoTrap},
		{api.Times, math.MinInt, -1, 0, api.TrapOver},
		{api.Times, -1, math.MinInt, 0, api.TrapOver},
		{api.Times, math.MinInt, 1, math.MinInt, api.NoTrap},
		{api.Times, 1 << 62, -2, math.MinInt, api.NoTrap},
		{api.Times, 1 << 62, 2, 0, api.TrapOver},
		{api.Times, 1 << 32, 1 << 32, 0, api.TrapOver},
		{api.Over, math.MinInt, -1, 0, api.TrapOver},
		{api.Rest, math.MinInt, -1, 0, api.NoTrap},
		{api.Over, 1, 0, 0, api.TrapDiv},
		{api.Over, 0, 0, 0, api.TrapDiv},
		{api.Over, math.MinInt, 0, 0, api.TrapDiv},
		{api.Rest, 1, 0, 0, api.TrapDiv},
		{api.Rest, math.MinInt, 0, 0, api.TrapDiv},
	} {
		if n, trap := Do(x.sign, x.a, x.b); n != x.n || trap != x.trap {
			t.Errorf("Do(%d, %d, %d) = %d, %d; want %d, %d", x.sign, x.a, x.b, n, trap, x.n, x.trap)
		}
	}
}

// TestDoStrangers: 1.1, signs that do not reckon, and numbers that are no signs.
func TestDoStrangers(t *testing.T) {
	signs := append(strangers(), api.Same, api.Apart, api.Less, api.Most, api.More, api.Least, api.And, api.Or, api.Not)
	for _, sign := range signs {
		for _, b := range []int{0, 1, -1, math.MaxInt, math.MinInt} {
			for _, a := range []int{0, 5, math.MaxInt, math.MinInt} {
				if n, trap := Do(sign, a, b); n != 0 || trap != api.TrapRange {
					t.Errorf("Do(%d, %d, %d) = %d, %d; want 0, %d", sign, a, b, n, trap, api.TrapRange)
				}
			}
		}
	}
}

// TestNeg: 1.1.
func TestNeg(t *testing.T) {
	for _, a := range samples() {
		n, trap := Neg(a)
		if m, want := wanted(api.Minus, 0, a); n != m || trap != want {
			t.Errorf("Neg(%d) = %d, %d; want %d, %d", a, n, trap, m, want)
		}
	}
	if n, trap := Neg(math.MinInt); n != 0 || trap != api.TrapOver {
		t.Errorf("Neg of the least number = %d, %d", n, trap)
	}
	if n, trap := Neg(math.MaxInt); n != math.MinInt+1 || trap != api.NoTrap {
		t.Errorf("Neg of the greatest number = %d, %d", n, trap)
	}
}

// TestHolds: 1.2, each sign that compares, with all pairs of samples.
func TestHolds(t *testing.T) {
	held := []struct {
		sign               int
		below, same, above bool
	}{
		{api.Same, false, true, false},
		{api.Apart, true, false, true},
		{api.Less, true, false, false},
		{api.Most, true, true, false},
		{api.More, false, false, true},
		{api.Least, false, true, true},
	}
	for _, x := range held {
		for _, a := range samples() {
			for _, b := range samples() {
				want := [3]bool{x.below, x.same, x.above}[1+big.NewInt(int64(a)).Cmp(big.NewInt(int64(b)))]
				if Holds(x.sign, a, b) != want {
					t.Errorf("Holds(%d, %d, %d) = %t", x.sign, a, b, !want)
				}
			}
		}
	}
}

// TestHoldsStrangers: 1.2, signs that do not compare, and numbers that are no signs.
func TestHoldsStrangers(t *testing.T) {
	signs := append(strangers(), api.Plus, api.Minus, api.Times, api.Over, api.Rest, api.And, api.Or, api.Not)
	for _, sign := range signs {
		for _, a := range []int{math.MinInt, -1, 0, 1, math.MaxInt} {
			for _, b := range []int{math.MinInt, -1, 0, 1, math.MaxInt} {
				if Holds(sign, a, b) {
					t.Errorf("Holds(%d, %d, %d)", sign, a, b)
				}
			}
		}
	}
}

// TestText: 1.3.
func TestText(t *testing.T) {
	for _, x := range []struct {
		n int
		s string
	}{
		{0, "0"}, {7, "7"}, {-7, "-7"}, {10, "10"}, {-100, "-100"}, {1234567890, "1234567890"},
		{math.MaxInt, "9223372036854775807"}, {math.MinInt, "-9223372036854775808"},
	} {
		if s := Text(x.n); s != x.s {
			t.Errorf("Text(%d) = %q", x.n, s)
		}
	}
	for _, n := range samples() {
		if s := Text(n); s != big.NewInt(int64(n)).String() {
			t.Errorf("Text(%d) = %q", n, s)
		}
	}
}

// reading is a text, and what is answered to it.
type reading struct {
	s string
	n int
	e api.Errno
}

// tell holds what a reader answers against what is wanted.
func tell(t *testing.T, name string, read func(string) (int, api.Errno), xs []reading) {
	t.Helper()
	for _, x := range xs {
		if n, e := read(x.s); n != x.n || e != x.e {
			t.Errorf("%s(%.40q) = %d, %v; want %d, %v", name, x.s, n, e, x.n, x.e)
		}
	}
}

// noNumbers are texts that neither Read nor Signed takes.
func noNumbers() []reading {
	var xs []reading
	for _, s := range []string{
		"", " ", "-", "+", "--1", "+1", "-+1", "+0", "-0", "-00", "-01", "1-", "1 ", " 1", "1 2", "1\n", "\x001", "1\x00",
		"1_000", "0x10", "0b1", "1e3", "1.0", ".", "one", "12a", "a12", "/", ":", "1/", "1:", "\u0661", "\uff11", "\xff", "1\xff",
		"99999999999999999999x", "x99999999999999999999", "--9223372036854775808", "-9223372036854775809", "-99999999999999999999",
	} {
		xs = append(xs, reading{s, 0, api.ErrForm})
	}
	return xs
}

// TestRead: 1.3.
func TestRead(t *testing.T) {
	tell(t, "Read", Read, []reading{
		{"0", 0, api.OK}, {"7", 7, api.OK}, {"42", 42, api.OK}, {"1234567890", 1234567890, api.OK},
		{"00", 0, api.OK}, {"007", 7, api.OK}, {strings.Repeat("0", 10000), 0, api.OK},
		{strings.Repeat("0", 10000) + "12", 12, api.OK},
		{"9223372036854775807", math.MaxInt, api.OK},
		{strings.Repeat("0", 50) + "9223372036854775807", math.MaxInt, api.OK},
		{"9223372036854775808", 0, api.ErrRange},
		{"0009223372036854775808", 0, api.ErrRange},
		{"18446744073709551615", 0, api.ErrRange}, {"18446744073709551616", 0, api.ErrRange}, {"18446744073709551617", 0, api.ErrRange},
		{strings.Repeat("9", 10000), 0, api.ErrRange},
		{strings.Repeat("9", 10000) + "-", 0, api.ErrForm},
		{"-1", 0, api.ErrForm}, {"-9223372036854775808", 0, api.ErrForm},
	})
	tell(t, "Read", Read, noNumbers())
	for b := range 256 {
		s := string([]byte{'1', byte(b)})
		want := reading{s, 0, api.ErrForm}
		if b >= '0' && b <= '9' {
			want = reading{s, 10 + b - '0', api.OK}
		}
		tell(t, "Read", Read, []reading{want})
	}
}

// TestSigned: 1.3.
func TestSigned(t *testing.T) {
	tell(t, "Signed", Signed, []reading{
		{"0", 0, api.OK}, {"7", 7, api.OK}, {"-7", -7, api.OK}, {"10", 10, api.OK}, {"-10", -10, api.OK},
		{"9223372036854775807", math.MaxInt, api.OK}, {"-9223372036854775808", math.MinInt, api.OK},
		{"9223372036854775808", 0, api.ErrForm}, {"18446744073709551616", 0, api.ErrForm},
		{"00", 0, api.ErrForm}, {"007", 0, api.ErrForm}, {"-007", 0, api.ErrForm},
		{strings.Repeat("0", 10000), 0, api.ErrForm}, {strings.Repeat("9", 10000), 0, api.ErrForm},
	})
	tell(t, "Signed", Signed, noNumbers())
}

// TestQuotientAndRest: 1.4, and the sign of a rest.
func TestQuotientAndRest(t *testing.T) {
	for _, a := range samples() {
		for _, b := range samples() {
			q, trap := Do(api.Over, a, b)
			if trap != api.NoTrap {
				continue
			}
			r, trap := Do(api.Rest, a, b)
			p, beyond := Do(api.Times, q, b)
			n, round := Do(api.Plus, p, r)
			if trap != api.NoTrap || beyond != api.NoTrap || round != api.NoTrap || n != a {
				t.Errorf("%d over %d: %d, rest %d", a, b, q, r)
			}
			if r != 0 && (r < 0) != (a < 0) {
				t.Errorf("%d over %d: rest %d", a, b, r)
			}
		}
	}
}

// TestSignedOfText: 1.4.
func TestSignedOfText(t *testing.T) {
	for _, n := range samples() {
		if m, e := Signed(Text(n)); m != n || e != api.OK {
			t.Errorf("Signed(Text(%d)) = %d, %v", n, m, e)
		}
		if m, e := Read(Text(n)); n >= 0 && (m != n || e != api.OK) {
			t.Errorf("Read(Text(%d)) = %d, %v", n, m, e)
		}
	}
}
