package path

import (
	"math"
	"slices"
	"strconv"
	"strings"
	"testing"

	"marline/api"
	"marline/val"
)

// num, arr and rec are values of all kinds but flags, which flag makes of any
// number.
var num, arr, rec = val.Int, val.Arr, val.Rec

func flag(n int) api.Value { return api.Value{Kind: api.ValBool, N: n} }

// field and member are steps, and steps puts any number of them in a list.
func field(n int) api.Way                     { return api.Way{Field: true, N: n} }
func member(n int) api.Way                    { return api.Way{N: n} }
func steps(ways ...api.Way) []api.Way         { return ways }
func list(l ...api.Value) []api.Value         { return l }
func behind(l []api.Way, w api.Way) []api.Way { return append(slices.Clone(l), w) }

// rep is a list of n times v.
func rep(n int, v api.Value) []api.Value {
	l := make([]api.Value, n)
	for i := range l {
		l[i] = v
	}
	return l
}

// sized is a value of that size, from 1 on: a record of numbers, 0 and on.
func sized(size int) api.Value {
	v := rec()
	for i := range size - 1 {
		v.Kids = append(v.Kids, num(i))
	}
	return v
}

// tower is a value with n others around it, arrays and records in turn.
func tower(n int, inmost api.Value) api.Value {
	v := inmost
	for i := range n {
		v = api.Value{Kind: api.ValArr + i%2, Kids: list(v)}
	}
	return v
}

// intoTower are the steps that lead from such a value to the inmost one.
func intoTower(n int) []api.Way {
	var l []api.Way
	for i := range n {
		l = append(l, api.Way{Field: (n-1-i)%2 == 1})
	}
	return l
}

// giant is a value of more parts than anybody could go through: each one
// has the one below it twice.
func giant() api.Value {
	v := num(1)
	for range 200 {
		v = arr(v, v)
	}
	return v
}

// edges are numbers at the edges of int, and those that stand for no kid.
func edges() []int {
	return []int{math.MinInt, math.MinInt + 1, -1 << 32, -1 << 31, -257, -256, -2, -1, 256, 257, 4096, 1 << 31, 1 << 32, math.MaxInt - 1, math.MaxInt}
}

// dump is a value written so that any two that are not the same are unlike.
func dump(v api.Value) string {
	var b strings.Builder
	put(&b, v)
	return b.String()
}

func put(b *strings.Builder, v api.Value) {
	b.WriteString("(" + strconv.Itoa(v.Kind) + " " + strconv.Itoa(v.N))
	for _, k := range v.Kids {
		put(b, k)
	}
	b.WriteString(")")
}

func dumps(l []api.Value) string { return dump(arr(l...)) }

// is: is that the value, without a trap?
func is(got api.Value, trap int, want api.Value) bool {
	return trap == api.NoTrap && dump(got) == dump(want)
}

// nothing: is that the zero value, with that trap?
func nothing(got api.Value, trap, want int) bool {
	return trap == want && got.Kind == 0 && got.N == 0 && len(got.Kids) == 0
}

// samples are values of every kind, right ones and wrong ones.
func samples() []api.Value {
	inner := rec(num(1), arr(num(5), num(6)))
	return []api.Value{
		num(0), num(-7), flag(0), flag(1), arr(), rec(), arr(num(3)), rec(num(3)), arr(arr()), rec(rec()), arr(rec()), rec(arr()),
		arr(num(1), num(2), num(3)), rec(num(1), flag(1), num(3)), inner, arr(inner, inner, inner), rec(arr(inner), num(4), rec(inner, flag(0))),
		tower(9, num(5)), tower(8, arr(num(5), num(6))), arr(rep(256, num(2))...), arr(rep(300, num(2))...), sized(300),
		{Kind: api.ValInt, N: 4, Kids: list(num(1), num(2))}, {Kind: api.ValBool, N: 1, Kids: list(num(1), arr(num(2)))},
		{Kind: api.ValBool, N: 7}, {Kind: api.ValArr, N: 5, Kids: list(num(1), num(2))}, {Kind: api.ValRec, N: -5, Kids: list(num(1), arr(num(2)))},
		{Kind: 4, Kids: list(num(1))}, {Kind: -1, Kids: list(num(1))}, {Kind: math.MinInt, N: 1, Kids: list(num(1))}, {Kind: math.MaxInt, Kids: list(num(1))},
		arr(api.Value{Kind: 9, N: 9, Kids: list(num(9))}, num(1)), rec(num(1), api.Value{Kind: api.ValInt, Kids: list(num(9))}),
	}
}

// spot is a place in a value: the steps to it, and what stands there.
type spot struct {
	way []api.Way
	v   api.Value
}

// spots are all places in a value that steps lead to, itself first.
func spots(v api.Value) []spot {
	out := []spot{{nil, v}}
	if v.Kind != api.ValArr && v.Kind != api.ValRec {
		return out
	}
	for i, k := range v.Kids {
		for _, s := range spots(k) {
			out = append(out, spot{append(steps(api.Way{Field: v.Kind == api.ValRec, N: i}), s.way...), s.v})
		}
	}
	return out
}

// astray are steps that lead nowhere from a value.
func astray(v api.Value) []api.Way {
	var l []api.Way
	for _, n := range append(edges(), 0, 1, 2, len(v.Kids)-1, len(v.Kids), len(v.Kids)+1) {
		inside := n >= 0 && n < len(v.Kids)
		if v.Kind != api.ValRec || !inside {
			l = append(l, field(n))
		}
		if v.Kind != api.ValArr || !inside {
			l = append(l, member(n))
		}
	}
	return l
}

// changed is a value with x behind the steps, in new memory, made anew from
// its kids.
func changed(v, x api.Value, way []api.Way) api.Value {
	if len(way) == 0 {
		return x
	}
	out := api.Value{Kind: v.Kind, N: v.N}
	for i, k := range v.Kids {
		if i == way[0].N {
			k = changed(k, x, way[1:])
		}
		out.Kids = append(out.Kids, k)
	}
	return out
}

// TestExample: the chapter's example (7.1, 7.2).
func TestExample(t *testing.T) {
	v := rec(num(1), arr(num(5), num(6)))
	if got, trap := At(v, field(1), member(0)); !is(got, trap, num(5)) {
		t.Error(dump(got), trap)
	}
	if got, trap := Set(v, num(7), field(1), member(0)); !is(got, trap, rec(num(1), arr(num(7), num(6)))) {
		t.Error(dump(got), trap)
	}
}

// TestAt: 7.1, values and steps written out.
func TestAt(t *testing.T) {
	v := rec(arr(num(10), num(11), num(12)), flag(1), rec(num(20), arr(rec(num(30), num(31)), flag(0))))
	for _, c := range []struct {
		way  []api.Way
		want api.Value
		trap int
	}{
		{nil, v, api.NoTrap},
		{steps(field(0)), v.Kids[0], api.NoTrap},
		{steps(field(1)), flag(1), api.NoTrap},
		{steps(field(2)), v.Kids[2], api.NoTrap},
		{steps(field(0), member(0)), num(10), api.NoTrap},
		{steps(field(0), member(1)), num(11), api.NoTrap},
		{steps(field(0), member(2)), num(12), api.NoTrap},
		{steps(field(2), field(0)), num(20), api.NoTrap},
		{steps(field(2), field(1)), arr(rec(num(30), num(31)), flag(0)), api.NoTrap},
		{steps(field(2), field(1), member(0), field(1)), num(31), api.NoTrap},
		{steps(field(2), field(1), member(1)), flag(0), api.NoTrap},
		{steps(member(0)), num(0), api.TrapRange},
		{steps(field(3)), num(0), api.TrapRange},
		{steps(field(-1)), num(0), api.TrapRange},
		{steps(field(math.MinInt)), num(0), api.TrapRange},
		{steps(field(math.MaxInt)), num(0), api.TrapRange},
		{steps(field(0), field(0)), num(0), api.TrapRange},
		{steps(field(0), member(3)), num(0), api.TrapRange},
		{steps(field(0), member(-1)), num(0), api.TrapRange},
		{steps(field(0), member(math.MinInt)), num(0), api.TrapRange},
		{steps(field(0), member(math.MaxInt)), num(0), api.TrapRange},
		{steps(field(0), member(0), member(0)), num(0), api.TrapRange},
		{steps(field(1), field(0)), num(0), api.TrapRange},
		{steps(field(1), member(0)), num(0), api.TrapRange},
		{steps(field(3), field(0), member(0)), num(0), api.TrapRange},
		{steps(field(2), member(1), field(0)), num(0), api.TrapRange},
		{steps(field(2), field(1), member(2), field(0)), num(0), api.TrapRange},
	} {
		got, trap := At(v, c.way...)
		if c.trap == api.NoTrap && !is(got, trap, c.want) || c.trap != api.NoTrap && !nothing(got, trap, c.trap) {
			t.Error(c.way, dump(got), trap)
		}
	}
}

// TestAtEverywhere: 7.1, each place of each sample, and each step that leads
// nowhere from there, alone and with more steps behind it.
func TestAtEverywhere(t *testing.T) {
	for _, v := range samples() {
		for _, s := range spots(v) {
			if got, trap := At(v, s.way...); !is(got, trap, s.v) {
				t.Error(dump(v), s.way, dump(got), trap)
			}
			for _, w := range astray(s.v) {
				for _, more := range [][]api.Way{nil, steps(member(0)), steps(field(0)), steps(w, w)} {
					way := append(behind(s.way, w), more...)
					if got, trap := At(v, way...); !nothing(got, trap, api.TrapRange) {
						t.Error(dump(v), way, dump(got), trap)
					}
				}
			}
		}
	}
}

// TestAtDeep: 7.1, many steps, to values of any size.
func TestAtDeep(t *testing.T) {
	v := tower(1<<15, num(5))
	way := intoTower(1 << 15)
	if got, trap := At(v, way...); !is(got, trap, num(5)) {
		t.Error(trap)
	}
	if got, trap := At(v, append(way, member(0))...); !nothing(got, trap, api.TrapRange) {
		t.Error(trap)
	}
	way[len(way)-1].N = 1
	if got, trap := At(v, way...); !nothing(got, trap, api.TrapRange) {
		t.Error(trap)
	}
	if got, trap := At(giant(), straight(200, member(1))...); !is(got, trap, num(1)) {
		t.Error(trap)
	}
	big := arr(rep(100000, num(1))...)
	if got, trap := At(big); trap != api.NoTrap || len(got.Kids) != 100000 {
		t.Error(trap)
	}
	if got, trap := At(big, member(99999)); !is(got, trap, num(1)) {
		t.Error(trap)
	}
	if got, trap := At(big, member(100000)); !nothing(got, trap, api.TrapRange) {
		t.Error(trap)
	}
}

// straight is a list of n times a step.
func straight(n int, w api.Way) []api.Way {
	l := make([]api.Way, n)
	for i := range l {
		l[i] = w
	}
	return l
}

// TestSet: 7.2, values and steps written out.
func TestSet(t *testing.T) {
	in := rec(num(20), arr(rec(num(30), num(31)), flag(0)))
	v := rec(arr(num(10), num(11), num(12)), flag(1), in)
	nine := arr(num(9), flag(1))
	for _, c := range []struct {
		x    api.Value
		way  []api.Way
		want api.Value
		trap int
	}{
		{num(9), nil, num(9), api.NoTrap},
		{nine, nil, nine, api.NoTrap},
		{num(9), steps(field(0)), rec(num(9), flag(1), in), api.NoTrap},
		{nine, steps(field(1)), rec(arr(num(10), num(11), num(12)), nine, in), api.NoTrap},
		{nine, steps(field(2)), rec(arr(num(10), num(11), num(12)), flag(1), nine), api.NoTrap},
		{num(9), steps(field(0), member(0)), rec(arr(num(9), num(11), num(12)), flag(1), in), api.NoTrap},
		{num(9), steps(field(0), member(1)), rec(arr(num(10), num(9), num(12)), flag(1), in), api.NoTrap},
		{nine, steps(field(0), member(2)), rec(arr(num(10), num(11), nine), flag(1), in), api.NoTrap},
		{flag(0), steps(field(2), field(1), member(0), field(1)), rec(v.Kids[0], flag(1), rec(num(20), arr(rec(num(30), flag(0)), flag(0)))), api.NoTrap},
		{rec(), steps(field(2), field(1), member(1)), rec(v.Kids[0], flag(1), rec(num(20), arr(rec(num(30), num(31)), rec()))), api.NoTrap},
		{num(9), steps(member(0)), num(0), api.TrapRange},
		{num(9), steps(field(3)), num(0), api.TrapRange},
		{num(9), steps(field(-1)), num(0), api.TrapRange},
		{num(9), steps(field(math.MinInt)), num(0), api.TrapRange},
		{num(9), steps(field(math.MaxInt)), num(0), api.TrapRange},
		{num(9), steps(field(0), field(0)), num(0), api.TrapRange},
		{num(9), steps(field(0), member(3)), num(0), api.TrapRange},
		{num(9), steps(field(0), member(-1)), num(0), api.TrapRange},
		{num(9), steps(field(0), member(math.MinInt)), num(0), api.TrapRange},
		{num(9), steps(field(0), member(math.MaxInt)), num(0), api.TrapRange},
		{num(9), steps(field(1), field(0)), num(0), api.TrapRange},
		{num(9), steps(field(1), member(0)), num(0), api.TrapRange},
		{num(9), steps(field(2), member(1), field(0)), num(0), api.TrapRange},
		{num(9), steps(field(0), member(0), member(0)), num(0), api.TrapRange},
	} {
		got, trap := Set(v, c.x, c.way...)
		if c.trap == api.NoTrap && !is(got, trap, c.want) || c.trap != api.NoTrap && !nothing(got, trap, c.trap) {
			t.Error(dump(c.x), c.way, dump(got), trap)
		}
	}
}

// TestSetEverywhere: 7.2, each place of each sample, with values of every
// kind, against a value made anew; and each step that leads nowhere.
func TestSetEverywhere(t *testing.T) {
	for _, v := range samples() {
		was := dump(v)
		for _, s := range spots(v) {
			for _, x := range []api.Value{num(-3), flag(1), arr(), rec(num(8), arr(num(9))), s.v, v, {Kind: 17, N: 3, Kids: list(num(1))}} {
				xs := dump(x)
				want := changed(v, x, s.way)
				if got, trap := Set(v, x, s.way...); !is(got, trap, want) {
					t.Error(was, xs, s.way, dump(got), trap)
				}
				if dump(v) != was || dump(x) != xs {
					t.Fatal("written into", was, xs, s.way)
				}
			}
			for _, w := range astray(s.v) {
				way := behind(s.way, w)
				got, trap := Set(v, num(-3), way...)
				again, other := Set(v, num(-3), append(way, member(0))...)
				if !nothing(got, trap, api.TrapRange) || !nothing(again, other, api.TrapRange) || dump(v) != was {
					t.Error(was, way, dump(got), trap)
				}
			}
		}
	}
}

// TestSetDeep: 7.2, as many steps as a value may have parts that lie in one
// another; and so many that what comes of it is too great.
func TestSetDeep(t *testing.T) {
	for _, n := range []int{1, 2, 100, api.MaxSize - 2, api.MaxSize - 1} {
		if got, trap := Set(tower(n, num(5)), num(6), intoTower(n)...); !is(got, trap, tower(n, num(6))) {
			t.Error(n, trap)
		}
	}
	for _, n := range []int{api.MaxSize, api.MaxSize + 1, 1 << 15} {
		v, way := tower(n, num(5)), intoTower(n)
		if got, trap := Set(v, num(6), way...); !nothing(got, trap, api.TrapBig) {
			t.Error(n, trap)
		}
		short := way[:api.MaxSize-1]
		if got, trap := Set(v, num(6), short...); !is(got, trap, changed(v, num(6), short)) {
			t.Error(n, trap)
		}
	}
}

// TestSetSize: 7.2, what would come of it has just the greatest size, one
// less, and one more, wherever x stands.
func TestSetSize(t *testing.T) {
	for _, d := range []int{-1, 0, 1, 2, 5000} {
		full := api.MaxSize + d
		half := sized(2000)
		for i, c := range []struct {
			v, x api.Value
			way  []api.Way
		}{
			{num(1), sized(full), nil},
			{sized(9000), sized(full), nil},
			{giant(), sized(full), nil},
			{arr(num(1)), sized(full - 1), steps(member(0))},
			{rec(giant()), sized(full - 1), steps(field(0))},
			{arr(num(1), num(2)), sized(full - 2), steps(member(0))},
			{arr(num(1), num(2)), sized(full - 2), steps(member(1))},
			{rec(half, num(2)), sized(full - 2001), steps(field(1))},
			{rec(num(2), half), sized(full - 2001), steps(field(0))},
			{rec(half, arr(num(1), num(3)), half), sized(full - 4003), steps(field(1), member(1))},
			{tower(10, arr(half, num(1))), sized(full - 2011), append(intoTower(10), member(1))},
			{sized(full), num(7), steps(field(100))},
			{sized(full), num(7), steps(field(0))},
			{sized(full), num(7), steps(field(full - 2))},
			{sized(full + 1), num(7), nil},
		} {
			got, trap := Set(c.v, c.x, c.way...)
			if i == 14 || d <= 0 {
				if trap != api.NoTrap {
					t.Error(d, i, trap)
				} else if at, _ := At(got, c.way...); dump(at) != dump(c.x) {
					t.Error(d, i, "not what was set")
				}
			} else if !nothing(got, trap, api.TrapBig) {
				t.Error(d, i, trap)
			}
		}
	}
}

// TestSetGreat: 7.2, values of more parts than anybody could go through: what
// comes of it is too great, or it is not, and the call ends.
func TestSetGreat(t *testing.T) {
	g := giant()
	for i, c := range []struct {
		v, x api.Value
		way  []api.Way
		trap int
	}{
		{num(1), g, nil, api.TrapBig},
		{g, num(1), nil, api.NoTrap},
		{g, num(1), steps(member(0)), api.TrapBig},
		{g, num(1), straight(200, member(1)), api.TrapBig},
		{arr(g), num(1), steps(member(0)), api.NoTrap},
		{arr(g, num(1)), num(1), steps(member(1)), api.TrapBig},
		{arr(g), g, steps(member(1)), api.TrapRange},
		{g, g, straight(201, member(1)), api.TrapRange},
	} {
		got, trap := Set(c.v, c.x, c.way...)
		if trap != c.trap || trap != api.NoTrap && !nothing(got, trap, c.trap) {
			t.Error(i, trap)
		}
	}
}

// TestSetOrder: 7.2, steps that lead nowhere are told ahead of a size that is
// too great.
func TestSetOrder(t *testing.T) {
	for _, size := range []int{api.MaxSize, api.MaxSize + 1, 9000} {
		v, x := sized(size), sized(size)
		for _, way := range [][]api.Way{steps(member(0)), steps(field(-1)), steps(field(size - 1)), steps(field(0), field(0))} {
			if got, trap := Set(v, x, way...); !nothing(got, trap, api.TrapRange) {
				t.Error(size, way, trap)
			}
		}
	}
}

// TestSetKeeps: 7.2, what is handed in stays as it was, also behind the
// members of lists that lie in longer ones; so do what was told before.
func TestSetKeeps(t *testing.T) {
	long := list(num(1), arr(num(2), num(3)), num(4), num(-100), num(-101))
	inner := list(num(5), num(6), num(-200), num(-201))
	long[1] = api.Value{Kind: api.ValArr, Kids: inner[:2]}
	longWas, innerWas := dumps(long), dumps(inner)
	v := api.Value{Kind: api.ValRec, Kids: long[:3]}
	ways := steps(field(1), member(0), member(77), field(78))
	waysWas := slices.Clone(ways)
	var told []api.Value
	var texts []string
	for i := range 6 {
		got, trap := Set(v, num(50+i), ways[:2]...)
		if !is(got, trap, rec(num(1), arr(num(50+i), num(6)), num(4))) {
			t.Error(dump(got), trap)
		}
		told, texts = append(told, got), append(texts, dump(got))
		again, trap := Set(got, arr(got), field(2))
		if !is(again, trap, rec(num(1), arr(num(50+i), num(6)), arr(got))) {
			t.Error(dump(again), trap)
		}
		told, texts = append(told, again), append(texts, dump(again))
		Set(v, sized(5000), field(0))
		Set(v, num(1), field(1), member(2))
	}
	if dumps(long) != longWas || dumps(inner) != innerWas || !slices.Equal(ways, waysWas) {
		t.Error("what was handed in is not as it was")
	}
	for i, v := range told {
		if dump(v) != texts[i] {
			t.Error("what was told is not as it was:", i)
		}
	}
}

// TestSetItself: 7.2, a value set into itself holds what it was.
func TestSetItself(t *testing.T) {
	v := arr(num(1), arr(num(2), num(3)))
	want := arr(num(1), arr(arr(num(1), arr(num(2), num(3))), num(3)))
	if got, trap := Set(v, v, member(1), member(0)); !is(got, trap, want) {
		t.Error(dump(got), trap)
	}
	if got, trap := Set(v, v.Kids[1], member(1), member(1)); !is(got, trap, arr(num(1), arr(num(2), arr(num(2), num(3))))) {
		t.Error(dump(got), trap)
	}
	if dump(v) != dump(arr(num(1), arr(num(2), num(3)))) {
		t.Error(dump(v))
	}
}

// TestSetNew: 7.2, an array whose kids are one list in two places is changed in
// one of them alone.
func TestSetNew(t *testing.T) {
	row := arr(num(1), num(2))
	v := arr(row, row)
	if got, trap := Set(v, num(9), member(0), member(1)); !is(got, trap, arr(arr(num(1), num(9)), arr(num(1), num(2)))) {
		t.Error(dump(got), trap)
	}
	if got, trap := Set(v, num(9), member(1), member(0)); !is(got, trap, arr(arr(num(1), num(2)), arr(num(9), num(2)))) {
		t.Error(dump(got), trap)
	}
	if dump(v) != dump(arr(row, row)) || dump(row) != dump(arr(num(1), num(2))) {
		t.Error(dump(v))
	}
}

// TestFill: 7.3, at the edges of how many, with values of every kind.
func TestFill(t *testing.T) {
	for _, v := range samples() {
		was := dump(v)
		for _, n := range []int{0, 1, 2, 3, 12} {
			if got, trap := Fill(n, v); !is(got, trap, arr(rep(n, v)...)) {
				t.Error(n, was, dump(got), trap)
			}
		}
		for _, n := range edges() {
			if got, trap := Fill(n, v); n != api.MaxArr && !nothing(got, trap, api.TrapRange) {
				t.Error(n, was, dump(got), trap)
			}
		}
		if dump(v) != was {
			t.Error("written into", was)
		}
	}
	for _, n := range []int{254, 255, 256} {
		if got, trap := Fill(n, flag(1)); !is(got, trap, arr(rep(n, flag(1))...)) || Len(got) != n {
			t.Error(n, trap)
		}
	}
	for _, n := range []int{-1, 257, 258, 300, 4095, 4096, 4097} {
		if got, trap := Fill(n, flag(1)); !nothing(got, trap, api.TrapRange) {
			t.Error(n, trap)
		}
	}
}

// TestFillSize: 7.3, arrays of just the greatest size, and above it; TrapRange
// is told ahead of TrapBig.
func TestFillSize(t *testing.T) {
	for _, c := range []struct{ n, size, trap int }{
		{1, 4095, api.NoTrap}, {1, 4096, api.TrapBig}, {1, 4097, api.TrapBig}, {1, 9000, api.TrapBig},
		{2, 2047, api.NoTrap}, {2, 2048, api.TrapBig},
		{5, 819, api.NoTrap}, {5, 820, api.TrapBig},
		{15, 273, api.NoTrap}, {15, 274, api.TrapBig}, {16, 273, api.TrapBig},
		{195, 21, api.NoTrap}, {196, 21, api.TrapBig}, {195, 22, api.TrapBig},
		{255, 16, api.NoTrap}, {256, 16, api.TrapBig}, {256, 15, api.NoTrap}, {255, 17, api.TrapBig},
		{0, 4096, api.NoTrap}, {0, 9000, api.NoTrap},
		{257, 1, api.TrapRange}, {257, 4096, api.TrapRange}, {-1, 9000, api.TrapRange}, {math.MaxInt, 9000, api.TrapRange}, {math.MinInt, 9000, api.TrapRange},
	} {
		v := sized(c.size)
		got, trap := Fill(c.n, v)
		if c.trap == api.NoTrap && !is(got, trap, arr(rep(c.n, v)...)) || c.trap != api.NoTrap && !nothing(got, trap, c.trap) {
			t.Error(c, trap)
		}
	}
	for n, want := range map[int]int{-1: api.TrapRange, 0: api.NoTrap, 1: api.TrapBig, 256: api.TrapBig, 257: api.TrapRange} {
		if got, trap := Fill(n, giant()); trap != want || len(got.Kids) != 0 {
			t.Error(n, trap)
		}
	}
}

// TestMake: 7.3, arrays and records of any number of values.
func TestMake(t *testing.T) {
	for _, l := range [][]api.Value{nil, {}, list(num(1)), list(num(2), num(1)), list(arr(num(1)), rec(), flag(1)), samples()[:19], rep(255, num(3)), rep(256, num(3))} {
		was := dumps(l)
		if got, trap := Make(api.ValArr, l...); !is(got, trap, arr(l...)) {
			t.Error(len(l), dump(got), trap)
		}
		if got, trap := Make(api.ValRec, l...); !is(got, trap, rec(l...)) {
			t.Error(len(l), dump(got), trap)
		}
		if dumps(l) != was {
			t.Error("written into", was)
		}
	}
	for _, n := range []int{257, 258, 1000, 4095} {
		if got, trap := Make(api.ValArr, rep(n, num(3))...); !nothing(got, trap, api.TrapRange) {
			t.Error(n, trap)
		}
		if got, trap := Make(api.ValRec, rep(n, num(3))...); !is(got, trap, rec(rep(n, num(3))...)) {
			t.Error(n, trap)
		}
	}
	wrong := samples()[22:]
	if got, trap := Make(api.ValArr, wrong...); !is(got, trap, arr(wrong...)) {
		t.Error(dump(got), trap)
	}
	if got, trap := Make(api.ValRec, wrong...); !is(got, trap, rec(wrong...)) {
		t.Error(dump(got), trap)
	}
}

// TestMakeKinds: 7.3, nothing is made of other kinds, whatever the values.
func TestMakeKinds(t *testing.T) {
	for _, kind := range append(edges(), api.ValInt, api.ValBool, 4, 5, 10, -3, 1<<32+api.ValArr, 1<<32+api.ValRec, ^api.ValArr, ^api.ValRec) {
		for _, l := range [][]api.Value{nil, list(num(1)), list(arr(num(1)), rec()), rep(257, num(1)), rep(4096, num(1)), list(sized(9000)), list(giant())} {
			if got, trap := Make(kind, l...); !nothing(got, trap, api.TrapRange) {
				t.Error(kind, len(l), dump(got), trap)
			}
		}
	}
}

// TestMakeSize: 7.3, arrays and records of just the greatest size, and above
// it; of an array with too many members TrapRange is told ahead of TrapBig.
func TestMakeSize(t *testing.T) {
	for _, c := range []struct {
		l        []api.Value
		arr, rec int
	}{
		{list(sized(4094)), api.NoTrap, api.NoTrap},
		{list(sized(4095)), api.NoTrap, api.NoTrap},
		{list(sized(4096)), api.TrapBig, api.TrapBig},
		{list(sized(9000)), api.TrapBig, api.TrapBig},
		{list(giant()), api.TrapBig, api.TrapBig},
		{list(num(1), sized(4094)), api.NoTrap, api.NoTrap},
		{list(num(1), sized(4095)), api.TrapBig, api.TrapBig},
		{list(sized(4095), num(1)), api.TrapBig, api.TrapBig},
		{list(sized(2000), sized(2095)), api.NoTrap, api.NoTrap},
		{list(sized(2000), sized(2096)), api.TrapBig, api.TrapBig},
		{list(sized(2000), sized(2094), rec()), api.NoTrap, api.NoTrap},
		{list(sized(2000), sized(2094), arr(rec())), api.TrapBig, api.TrapBig},
		{list(tower(4094, num(1))), api.NoTrap, api.NoTrap},
		{list(tower(4095, num(1))), api.TrapBig, api.TrapBig},
		{append(rep(255, num(1)), sized(3840)), api.NoTrap, api.NoTrap},
		{append(rep(255, num(1)), sized(3841)), api.TrapBig, api.TrapBig},
		{append(rep(256, num(1)), sized(3839)), api.TrapRange, api.NoTrap},
		{append(rep(256, num(1)), sized(3840)), api.TrapRange, api.TrapBig},
		{append(rep(256, num(1)), giant()), api.TrapRange, api.TrapBig},
		{rep(4094, flag(1)), api.TrapRange, api.NoTrap},
		{rep(4095, flag(1)), api.TrapRange, api.NoTrap},
		{rep(4096, flag(1)), api.TrapRange, api.TrapBig},
		{rep(20000, flag(1)), api.TrapRange, api.TrapBig},
	} {
		for kind, want := range map[int]int{api.ValArr: c.arr, api.ValRec: c.rec} {
			got, trap := Make(kind, c.l...)
			if want == api.NoTrap && !is(got, trap, api.Value{Kind: kind, Kids: c.l}) || want != api.NoTrap && !nothing(got, trap, want) {
				t.Error(kind, len(c.l), trap)
			}
		}
	}
}

// TestMakeNew: 7.3, what was made does not keep the list that was handed in,
// and does not write into what lies behind it.
func TestMakeNew(t *testing.T) {
	for _, kind := range []int{api.ValArr, api.ValRec} {
		long := list(num(1), num(2), num(-1), num(-2))
		got, trap := Make(kind, long[:2]...)
		more := append(got.Kids, num(55))
		if dumps(long) != dumps(list(num(1), num(2), num(-1), num(-2))) || len(more) != 3 {
			t.Error("written into", dumps(long))
		}
		long[0], long[1] = num(8), num(9)
		if !is(got, trap, api.Value{Kind: kind, Kids: list(num(1), num(2))}) {
			t.Error(kind, dump(got))
		}
	}
	a, _ := Fill(3, num(4))
	b, _ := Fill(3, num(4))
	a.Kids[0] = num(5)
	if !is(b, api.NoTrap, arr(num(4), num(4), num(4))) || !is(a, api.NoTrap, arr(num(5), num(4), num(4))) {
		t.Error(dump(a), dump(b))
	}
}

// TestLen: 7.3, of arrays their kids, of all others 0.
func TestLen(t *testing.T) {
	for _, n := range []int{0, 1, 2, 255, 256, 257, 5000} {
		for kind, want := range map[int]int{api.ValArr: n, api.ValRec: 0, api.ValInt: 0, api.ValBool: 0, 4: 0, -1: 0, math.MaxInt: 0, math.MinInt: 0} {
			for _, number := range []int{0, 1, -1, 7, math.MinInt} {
				if got := Len(api.Value{Kind: kind, N: number, Kids: rep(n, arr(num(1)))}); got != want {
					t.Error(kind, number, n, got)
				}
			}
		}
	}
	if Len(arr()) != 0 || Len(api.Value{}) != 0 || Len(arr(arr(num(1), num(2)), num(3))) != 2 || Len(giant()) != 2 {
		t.Error("not as many as there are")
	}
}

// within: do the steps of the longer way begin with those of the other one?
func within(longer, way []api.Way) bool {
	return len(longer) >= len(way) && slices.Equal(longer[:len(way)], way)
}

// TestFollows: 7.4, what was set stands there, and what lies beside stays; and
// what was there, set again, gives the value that was.
func TestFollows(t *testing.T) {
	x := rec(num(77), arr(num(78)))
	for _, v := range samples()[:19] {
		for _, s := range spots(v) {
			got, trap := Set(v, x, s.way...)
			if at, other := At(got, s.way...); trap != api.NoTrap || !is(at, other, x) {
				t.Error(dump(v), s.way, dump(at), trap, other)
			}
			if back, trap := Set(got, s.v, s.way...); !is(back, trap, v) {
				t.Error(dump(v), s.way, dump(back), trap)
			}
			for _, o := range spots(v) {
				if within(o.way, s.way) || within(s.way, o.way) {
					continue
				}
				if at, trap := At(got, o.way...); !is(at, trap, o.v) {
					t.Error(dump(v), s.way, o.way, dump(at), trap)
				}
			}
		}
	}
}

// TestMany: 7.4, thousands of values set one behind the other, by a row of
// numbers that is always the same; all that was told before stays.
func TestMany(t *testing.T) {
	n := uint64(7)
	next := func(below int) int {
		n = n*6364136223846793005 + 1442695040888963407
		return int(n >> 33 % uint64(below))
	}
	pool := []api.Value{num(1), flag(0), arr(num(1), num(2)), rec(num(3), arr(num(4)))}
	texts := []string{dump(pool[0]), dump(pool[1]), dump(pool[2]), dump(pool[3])}
	for range 4000 {
		v, x := pool[next(len(pool))], pool[next(len(pool))]
		all := spots(v)
		way := all[next(len(all))].way
		want := changed(v, x, way)
		if next(4) == 0 {
			v, _ = Make(api.ValArr+next(2), v, x)
			way = steps(api.Way{Field: v.Kind == api.ValRec, N: 1})
			want = changed(v, num(next(9)), way)
			x = want.Kids[1]
		}
		got, trap := Set(v, x, way...)
		if len(spots(want)) > api.MaxSize {
			if !nothing(got, trap, api.TrapBig) {
				t.Fatal(len(spots(want)), way, trap)
			}
			continue
		}
		if !is(got, trap, want) {
			t.Fatal(dump(v), way, dump(got), trap)
		}
		if len(pool) < 300 && len(spots(want)) < 200 {
			pool, texts = append(pool, got), append(texts, dump(got))
		}
	}
	for i, v := range pool {
		if dump(v) != texts[i] {
			t.Error("not as it was:", i)
		}
	}
}
