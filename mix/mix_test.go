package mix

import (
	"math"
	"math/big"
	"strconv"
	"strings"
	"testing"
)

// samples are numbers with a single bit set or clear, the edges, numbers near
// all of these, and ordinary ones, near and far; each of them once.
func samples() []uint64 {
	xs := []uint64{0, math.MaxUint64}
	for bit := range 64 {
		xs = append(xs, 1<<bit, ^(1 << bit), 1<<bit-1, 1<<bit+1, ^(1<<bit)-1, ^(1<<bit)+1)
	}
	for n := range uint64(2000) {
		xs = append(xs, n, -n, n*0x9e3779b97f4a7c15, n*n*n*0x123456789)
	}
	var once []uint64
	seen := map[uint64]int{}
	for _, x := range xs {
		if seen[x] == 0 {
			once = append(once, x)
		}
		seen[x]++
	}
	return once
}

// known are numbers, and what they are mixed to.
func known() [][2]uint64 {
	return [][2]uint64{
		{0, 0},
		{1, 0x5692161d100b05e5}, // the chapter's
		{2, 0xdbd238973a2b148a},
		{3, 0x1e535eede31428f0},
		{0xf, 0x0392754934ea1539},
		{0x10, 0xd9844bcecca4a8bd},
		{1 << 32, 0xd820b7e910b0f93f},
		{1 << 62, 0x12e13752bce754c5},
		{1<<63 - 1, 0x5a682afe7965debd},
		{1 << 63, 0x25c26ea579cea98a},
		{1<<63 + 1, 0x22cb06b07578bbfe},
		{math.MaxUint64 - 2, 0x1530a8f4452503cf},
		{math.MaxUint64 - 1, 0xda26e52fa3730902},
		{math.MaxUint64, 0xb4d055fcf2cbbd7b},
		{0x0123456789abcdef, 0xb2c058e4ebb5112c},
		{0x9e3779b97f4a7c15, 0xe220a8397b1dcdaf},
		{0x3c6ef372fe94f82a, 0x6e789e6aa1b965f4},
		{0xdaa66d2c7ddf743f, 0x06c45d188009454f},
		{0x966dbfc16913c5d2, 1},
		{0x2cdb7f86d2278bb5, 2},
		{0xce256ba94d67d15a, 1 << 63},
		{0xcf9a04affa6badc0, math.MaxUint64},
	}
}

// exact is what 3.1 asks of Mix, reckoned without bound and brought back under
// 2^64 at each step.
func exact(x uint64) uint64 {
	n := new(big.Int).SetUint64(x)
	for _, step := range []struct {
		shift  uint
		factor uint64
	}{{30, 0xbf58476d1ce4e5b9}, {27, 0x94d049bb133111eb}, {31, 1}} {
		n.Xor(n, new(big.Int).Rsh(n, step.shift))
		n.Mul(n, new(big.Int).SetUint64(step.factor))
		n.Mod(n, new(big.Int).Lsh(big.NewInt(1), 64))
	}
	return n.Uint64()
}

// TestMix: 3.1, numbers written out by hand.
func TestMix(t *testing.T) {
	for _, k := range known() {
		if x := Mix(k[0]); x != k[1] {
			t.Errorf("Mix(%x) = %x; want %x", k[0], x, k[1])
		}
	}
}

// TestMixExact: 3.1, against numbers without bound.
func TestMixExact(t *testing.T) {
	for _, x := range samples() {
		if y, want := Mix(x), exact(x); y != want {
			t.Errorf("Mix(%x) = %x; want %x", x, y, want)
		}
	}
}

// TestUnmix: 3.1, numbers written out by hand.
func TestUnmix(t *testing.T) {
	for _, k := range known() {
		if x := Unmix(k[1]); x != k[0] {
			t.Errorf("Unmix(%x) = %x; want %x", k[1], x, k[0])
		}
	}
}

// TestThereAndBack: 3.1, Unmix of Mix and Mix of Unmix are the number.
func TestThereAndBack(t *testing.T) {
	for _, x := range samples() {
		if y := Unmix(Mix(x)); y != x {
			t.Errorf("Unmix(Mix(%x)) = %x", x, y)
		}
		if y := Mix(Unmix(x)); y != x {
			t.Errorf("Mix(Unmix(%x)) = %x", x, y)
		}
		if y := exact(Unmix(x)); y != x {
			t.Errorf("Unmix(%x) = %x, which is mixed to %x", x, Unmix(x), y)
		}
	}
}

// TestKey: 3.2, numbers below 0 count from 2^64 down.
func TestKey(t *testing.T) {
	for _, k := range []struct {
		n int
		x uint64
	}{
		{0, 0},
		{1, 0x5692161d100b05e5},
		{16, 0xd9844bcecca4a8bd},
		{-1, 0xb4d055fcf2cbbd7b},
		{-2, 0xda26e52fa3730902},
		{-3, 0x1530a8f4452503cf},
		{math.MaxInt, 0x5a682afe7965debd},
		{math.MinInt, 0x25c26ea579cea98a},
		{math.MinInt + 1, 0x22cb06b07578bbfe},
	} {
		if x := Key(k.n); x != k.x {
			t.Errorf("Key(%d) = %x; want %x", k.n, x, k.x)
		}
	}
	for _, x := range samples() {
		if y, want := Key(int(x)), exact(x); y != want {
			t.Errorf("Key(%d) = %x; want %x", int(x), y, want)
		}
	}
}

// digits are a number's sixteen digits with base 16, the lowest one first.
func digits(x uint64) []int {
	s := strconv.FormatUint(x, 16)
	s = strings.Repeat("0", 16-len(s)) + s
	ds := make([]int, 16)
	for i := range 16 {
		ds[15-i] = strings.IndexByte("0123456789abcdef", s[i])
	}
	return ds
}

// TestNib: 3.2, every level of every sample, mixed and as it is.
func TestNib(t *testing.T) {
	for _, x := range samples() {
		for _, y := range []uint64{x, Mix(x)} {
			for level, want := range digits(y) {
				if n := Nib(y, level); n != want {
					t.Errorf("Nib(%x, %d) = %d; want %d", y, level, n, want)
				}
			}
		}
	}
}

// TestNibEdges: 3.2, written out by hand.
func TestNibEdges(t *testing.T) {
	for _, k := range []struct {
		x        uint64
		level, n int
	}{
		{0x5692161d100b05e5, 0, 5}, // the chapter's
		{0x5692161d100b05e5, 1, 14},
		{0x5692161d100b05e5, 2, 5},
		{0x5692161d100b05e5, 3, 0},
		{0x5692161d100b05e5, 14, 6},
		{0x5692161d100b05e5, 15, 5},
		{0xfedcba9876543210, 0, 0},
		{0xfedcba9876543210, 8, 8},
		{0xfedcba9876543210, 15, 15},
		{0, 0, 0},
		{0, 15, 0},
		{15, 0, 15},
		{16, 0, 0}, // modulo 16
		{16, 1, 1},
		{1 << 63, 15, 8},
		{1 << 63, 14, 0},
		{math.MaxUint64, 0, 15},
		{math.MaxUint64, 15, 15},
	} {
		if n := Nib(k.x, k.level); n != k.n {
			t.Errorf("Nib(%x, %d) = %d; want %d", k.x, k.level, n, k.n)
		}
	}
}

// TestNibNone: 3.2, levels that there are not; some of them would go round to
// one that there is, once they are bits.
func TestNibNone(t *testing.T) {
	levels := []int{
		math.MinInt, math.MinInt + 1, math.MinInt/2 - 1, math.MinInt / 4, -1 << 32, -1 << 31, -256, -64, -17, -16, -15, -2, -1,
		16, 17, 31, 32, 63, 64, 65, 255, 256, 257, 1 << 31, 1 << 32, 1<<32 + 1, 1 << 62, 1<<62 + 1, 1<<62 + 15, 1 << 61, math.MaxInt - 1, math.MaxInt,
	}
	for _, level := range levels {
		for _, x := range []uint64{0, 1, 0x5692161d100b05e5, 1 << 63, math.MaxUint64} {
			if n := Nib(x, level); n != 0 {
				t.Errorf("Nib(%x, %d) = %d; want 0", x, level, n)
			}
		}
	}
}

// TestUnlike: 3.3, no two samples are mixed, or mixed back, to the same number.
func TestUnlike(t *testing.T) {
	for name, mixed := range map[string]func(uint64) uint64{
		"Mix":   Mix,
		"Unmix": Unmix,
		"Key":   func(x uint64) uint64 { return Key(int(x)) },
	} {
		from := map[uint64]uint64{}
		for _, x := range samples() {
			y := mixed(x)
			if other, ok := from[y]; ok {
				t.Errorf("%s of %x and of %x is %x", name, other, x, y)
			}
			from[y] = x
		}
	}
}
