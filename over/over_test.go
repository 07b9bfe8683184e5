package over

import (
	"maps"
	"math"
	"slices"
	"strconv"
	"testing"

	"marline/mix"
	"marline/trie"
)

// table is a plain map, against which those of the package are held.
type table map[int]int

// of is the map of a table.
func of(want table) trie.Map[int] {
	var m trie.Map[int]
	for key, v := range want {
		m = m.Put(key, v)
	}
	return m
}

// edges are keys at the edges of int, rising, with ordinary ones among them.
func edges() []int {
	return []int{math.MinInt, math.MinInt + 1, -1 << 32, -2, -1, 0, 1, 2, 17, 1 << 32, math.MaxInt - 1, math.MaxInt}
}

// edged is a table of the keys at the edges, each with a value of its own.
func edged() table {
	want := table{}
	for i, key := range edges() {
		want[key] = i + 100
	}
	return want
}

// drawn is a table of up to n keys around 0, with values of a short range.
func drawn(seed, n int) table {
	want := table{}
	for i := range n {
		draw := mix.Mix(uint64(seed*100_000 + i + 1))
		want[int(draw%101)-50] = int(draw >> 32 % 4)
	}
	return want
}

// tables are none, one key, the edges, and rows with keys in common and not.
func tables() []table {
	return []table{
		{}, {0: 0}, {1: 7}, {1: 8}, {2: 7}, {1: 7, 2: 8}, {2: 9}, {-1: 3, 1: 7, 5: 0}, {math.MinInt: 1, math.MaxInt: 2}, {math.MinInt: 2, 0: 1},
		edged(), drawn(1, 5), drawn(2, 30), drawn(3, 30), drawn(4, 200), drawn(5, 200),
	}
}

// rising are a table's keys, rising.
func rising[V any](want map[int]V) []int { return slices.Sorted(maps.Keys(want)) }

// holds says by errors where a map has not just the keys and values that it
// should have.
func holds[V comparable](t *testing.T, what string, m trie.Map[V], want map[int]V) {
	t.Helper()
	got := maps.Collect(m.All())
	if !maps.Equal(got, want) || m.Len() != len(want) || !slices.Equal(m.Keys(), rising(want)) {
		t.Errorf("%s: %v, of %d keys; want %v", what, got, m.Len(), want)
	}
	for key, v := range want {
		if is, ok := m.Get(key); is != v || !ok {
			t.Errorf("%s: Get(%d) = %v, %v; want %v", what, key, is, ok, v)
		}
	}
}

// equal is the plain question if two values are the same.
func equal[V comparable](x, y V) bool { return x == y }

// TestOverNone: 5.1, no maps, and maps without keys.
func TestOverNone(t *testing.T) {
	var zero trie.Map[int]
	holds(t, "no maps", Over[int](), table{})
	holds(t, "a nil list", Over[int](nil...), table{})
	holds(t, "a list without members", Over([]trie.Map[int]{}...), table{})
	holds(t, "the zero Map", Over(zero), table{})
	holds(t, "the zero Map thrice", Over(zero, zero, zero), table{})
}

// TestOverOne: 5.1, one map, alone and with the zero Map anywhere beside it.
func TestOverOne(t *testing.T) {
	var zero trie.Map[int]
	for _, want := range tables() {
		m := of(want)
		holds(t, "alone", Over(m), want)
		holds(t, "over the zero Map", Over(zero, m), want)
		holds(t, "under the zero Map", Over(m, zero), want)
		holds(t, "between", Over(zero, zero, m, zero), want)
		if n := Over(zero, m); trie.Shared(n, m) != m.Nodes() {
			t.Errorf("over nothing %d of %d nodes are shared", trie.Shared(n, m), m.Nodes())
		}
	}
}

// TestOverExample: 5.1, the chapter's.
func TestOverExample(t *testing.T) {
	holds(t, "both", Over(of(table{1: 7, 2: 8}), of(table{2: 9})), table{1: 7, 2: 9})
	holds(t, "the other way round", Over(of(table{2: 9}), of(table{1: 7, 2: 8})), table{1: 7, 2: 8})
}

// TestOverSeveral: 5.1, the last map that has a key counts, be its value the
// zero value; all are as they were.
func TestOverSeveral(t *testing.T) {
	holds(t, "nothing in common", Over(of(table{1: 1}), of(table{2: 2}), of(table{-3: 3})), table{-3: 3, 1: 1, 2: 2})
	holds(t, "all in common", Over(of(table{1: 1}), of(table{1: 2}), of(table{1: 3})), table{1: 3})
	holds(t, "the middle one last", Over(of(table{1: 1, 2: 1}), of(table{2: 5, 3: 5}), of(table{3: 6})), table{1: 1, 2: 5, 3: 6})
	holds(t, "the zero value last", Over(of(table{4: 1}), of(table{4: 0})), table{4: 0})
	for _, low := range tables() {
		for _, mid := range tables() {
			for _, high := range tables() {
				l := []trie.Map[int]{of(low), of(mid), of(high)}
				kept := slices.Clone(l)
				want := maps.Clone(low)
				maps.Copy(want, mid)
				maps.Copy(want, high)
				holds(t, "three", Over(l...), want)
				if !slices.Equal(l, kept) {
					t.Error("Over wrote into its list")
				}
				holds(t, "the lowest as it was", l[0], low)
				holds(t, "the middle one as it was", l[1], mid)
				holds(t, "the highest as it was", l[2], high)
			}
		}
	}
}

// TestOverMany: 5.1, many maps of a few keys each.
func TestOverMany(t *testing.T) {
	var l []trie.Map[int]
	want := table{}
	for n := range 300 {
		row := drawn(n, 3)
		l = append(l, of(row))
		maps.Copy(want, row)
	}
	holds(t, "all of them", Over(l...), want)
}

// TestOverList: 5.1, the answer knows nothing of what becomes of the list.
func TestOverList(t *testing.T) {
	l := []trie.Map[int]{of(table{1: 1}), of(table{2: 2})}
	m := Over(l...)
	l[0], l[1] = of(table{9: 9}), trie.Map[int]{}
	holds(t, "behind a change", m, table{1: 1, 2: 2})
}

// TestWithout: 5.1, no keys, keys that are there and not, and all of them.
func TestWithout(t *testing.T) {
	m := of(table{-1: 5, 0: 6, 3: 7})
	holds(t, "no keys", Without(m), table{-1: 5, 0: 6, 3: 7})
	holds(t, "a nil list", Without(m, nil...), table{-1: 5, 0: 6, 3: 7})
	holds(t, "one that is there", Without(m, 0), table{-1: 5, 3: 7})
	holds(t, "one that is not", Without(m, 4), table{-1: 5, 0: 6, 3: 7})
	holds(t, "some that are not", Without(m, 4, -1, 1), table{0: 6, 3: 7})
	holds(t, "one that is not, last", Without(m, -1, 1), table{0: 6, 3: 7})
	holds(t, "several times", Without(m, 3, 3, 0, 3), table{-1: 5})
	holds(t, "all", Without(m, 3, -1, 0), table{})
	holds(t, "more than all", Without(m, append(edges(), 3, 3)...), table{})
	holds(t, "of none", Without(trie.Map[int]{}, 1, 2), table{})
	holds(t, "as it was", m, table{-1: 5, 0: 6, 3: 7})
}

// TestWithoutTables: 5.1, the keys of one table taken out of another one.
func TestWithoutTables(t *testing.T) {
	for _, want := range tables() {
		for _, gone := range tables() {
			m, keys := of(want), rising(gone)
			left := maps.Clone(want)
			for _, key := range keys {
				delete(left, key)
			}
			holds(t, "from the front", Without(m, keys...), left)
			if !slices.Equal(keys, rising(gone)) {
				t.Error("Without wrote into its list:", keys)
			}
			slices.Reverse(keys)
			holds(t, "from the back", Without(m, keys...), left)
			holds(t, "as it was", m, want)
		}
	}
}

// TestBetween: 5.2, bounds that are keys and that are none.
func TestBetween(t *testing.T) {
	m := of(table{-4: 1, 0: 2, 3: 3, 8: 4})
	for _, c := range []struct {
		lo, hi int
		want   []int
	}{
		{-4, 8, []int{-4, 0, 3}}, {-4, 9, []int{-4, 0, 3, 8}}, {-5, 8, []int{-4, 0, 3}}, {-3, 8, []int{0, 3}},
		{0, 3, []int{0}}, {0, 4, []int{0, 3}}, {1, 3, nil}, {1, 2, nil}, {3, 4, []int{3}}, {8, 9, []int{8}}, {9, 100, nil}, {-100, -4, nil}, {-100, -3, []int{-4}},
		{3, 3, nil}, {8, 8, nil}, {4, 4, nil}, {8, -4, nil}, {4, 3, nil}, {3, 0, nil}, {math.MaxInt, math.MinInt, nil},
		{math.MinInt, math.MaxInt, []int{-4, 0, 3, 8}}, {math.MinInt, math.MinInt, nil}, {math.MaxInt, math.MaxInt, nil}, {math.MinInt, 3, []int{-4, 0}}, {3, math.MaxInt, []int{3, 8}},
	} {
		if keys := Between(m, c.lo, c.hi); !slices.Equal(keys, c.want) {
			t.Errorf("from %d to below %d: %d; want %d", c.lo, c.hi, keys, c.want)
		}
	}
	holds(t, "as it was", m, table{-4: 1, 0: 2, 3: 3, 8: 4})
}

// TestBetweenTables: 5.2, any two bounds at the edges; the greatest int is
// below none of them.
func TestBetweenTables(t *testing.T) {
	for _, all := range tables() {
		m := of(all)
		bounds := append(edges(), rising(all)...)
		for _, lo := range bounds {
			for _, hi := range bounds {
				var want []int
				for _, key := range rising(all) {
					if lo <= key && key < hi {
						want = append(want, key)
					}
				}
				if keys := Between(m, lo, hi); !slices.Equal(keys, want) {
					t.Fatalf("of %v from %d to below %d: %d; want %d", all, lo, hi, keys, want)
				}
			}
		}
	}
}

// scribble writes into a list and behind it.
func scribble(keys []int) {
	for i := range keys {
		keys[i] = 77
	}
	_ = append(keys, 77)
}

// TestNewMemory: 5.2, what is told is new memory each time.
func TestNewMemory(t *testing.T) {
	a, b := of(table{1: 1, 2: 2, 3: 3, 4: 4}), of(table{1: 1, 2: 0, 5: 5})
	for range 3 {
		keys := Between(a, 2, 4)
		if !slices.Equal(keys, []int{2, 3}) {
			t.Error("Between:", keys)
		}
		unlike := Differs(a, b, equal)
		if !slices.Equal(unlike, []int{2, 3, 4, 5}) {
			t.Error("Differs:", unlike)
		}
		alone := Differs(a, trie.Map[int]{}, equal)
		if !slices.Equal(alone, []int{1, 2, 3, 4}) {
			t.Error("Differs of none:", alone)
		}
		scribble(keys)
		scribble(unlike)
		scribble(alone)
	}
	holds(t, "as it was", a, table{1: 1, 2: 2, 3: 3, 4: 4})
}

// unlike are the keys at which two tables differ, rising.
func unlike(a, b table, same func(x, y int) bool) []int {
	all := maps.Clone(a)
	maps.Copy(all, b)
	maps.DeleteFunc(all, func(key, _ int) bool {
		x, in := a[key]
		y, too := b[key]
		return in && too && same(x, y)
	})
	return rising(all)
}

// questions are ways to hold values against each other; the last two are not
// the same both ways round.
func questions() []func(x, y int) bool {
	return []func(x, y int) bool{
		equal[int],
		func(x, y int) bool { return true },
		func(x, y int) bool { return false },
		func(x, y int) bool { return x <= y },
		func(x, y int) bool { return x == 2*y+1 },
	}
}

// TestDiffers: 5.2, keys that one has more, values that are unlike, and what
// the function says of them.
func TestDiffers(t *testing.T) {
	a, b := of(table{1: 7, 2: 8, 4: 5}), of(table{0: 1, 1: 7, 2: 9})
	if keys := Differs(a, b, equal); !slices.Equal(keys, []int{0, 2, 4}) {
		t.Error("by ==:", keys)
	}
	if keys := Differs(b, a, equal); !slices.Equal(keys, []int{0, 2, 4}) {
		t.Error("the other way round:", keys)
	}
	if keys := Differs(a, a, equal); len(keys) != 0 {
		t.Error("a map and itself:", keys)
	}
	if keys := Differs(a, a, func(x, y int) bool { return false }); !slices.Equal(keys, []int{1, 2, 4}) {
		t.Error("a map and itself, told apart:", keys)
	}
	if keys := Differs(of(table{3: 0}), trie.Map[int]{}, equal); !slices.Equal(keys, []int{3}) {
		t.Error("the zero value and no value:", keys)
	}
	less := func(x, y int) bool { return x < y }
	if keys := Differs(of(table{1: 1, 2: 5}), of(table{1: 4, 2: 3}), less); !slices.Equal(keys, []int{2}) {
		t.Error("by <:", keys)
	}
	if keys := Differs(of(table{1: 4, 2: 3}), of(table{1: 1, 2: 5}), less); !slices.Equal(keys, []int{1}) {
		t.Error("by <, the other way round:", keys)
	}
}

// TestDiffersTables: 5.2, any two tables by any question.
func TestDiffersTables(t *testing.T) {
	for _, one := range tables() {
		for _, two := range tables() {
			a, b := of(one), of(two)
			for i, same := range questions() {
				if keys, want := Differs(a, b, same), unlike(one, two, same); !slices.Equal(keys, want) {
					t.Errorf("question %d of %v and %v: %d; want %d", i, one, two, keys, want)
				}
			}
			holds(t, "a as it was", a, one)
			holds(t, "b as it was", b, two)
		}
	}
}

// TestDiffersAsks: 5.2, the function is asked once of each key that both have,
// a's value first, and of no other key, whatever it says.
func TestDiffersAsks(t *testing.T) {
	for _, one := range tables() {
		for _, two := range tables() {
			a, b := of(table{}), of(table{})
			var want [][2]int
			for key := range one {
				a = a.Put(key, key)
				if _, ok := two[key]; ok {
					want = append(want, [2]int{key, ^key})
				}
			}
			for key := range two {
				b = b.Put(key, ^key)
			}
			for _, says := range []bool{true, false} {
				var asked [][2]int
				Differs(a, b, func(x, y int) bool {
					asked = append(asked, [2]int{x, y})
					return says
				})
				byFirst := func(p, q [2]int) int { return slices.Compare(p[:], q[:]) }
				slices.SortFunc(asked, byFirst)
				slices.SortFunc(want, byFirst)
				if !slices.Equal(asked, want) {
					t.Errorf("of %v and %v asked %d; want %d", one, two, asked, want)
				}
			}
		}
	}
}

// TestFold: 5.3, no keys, one, several; by rising keys; into another type.
func TestFold(t *testing.T) {
	tell := func(s string, key int, v int) string {
		return s + " " + strconv.Itoa(key) + ":" + strconv.Itoa(v)
	}
	if s := Fold(trie.Map[int]{}, "a", tell); s != "a" {
		t.Errorf("no keys: %q", s)
	}
	if s := Fold(of(table{3: 4}), "a", tell); s != "a 3:4" {
		t.Errorf("one key: %q", s)
	}
	if s := Fold(of(table{5: 1, -2: 2, 0: 3}), "a", tell); s != "a -2:2 0:3 5:1" {
		t.Errorf("three keys: %q", s)
	}
	if n := Fold(of(table{1: 2, 3: 4}), 0, func(a, key, v int) int { return (a*10+key)*10 + v }); n != 1234 {
		t.Error("two keys:", n)
	}
	none := func(int, int, int) int { t.Error("asked of no keys"); return 1 }
	if n := Fold(of(table{}), 8, none); n != 8 {
		t.Error("no keys, the same type:", n)
	}
	last := func(a *int, key, v int) *int { return &v }
	if p := Fold(of(table{1: 2, 3: 4}), nil, last); p == nil || *p != 4 {
		t.Error("pointers:", p)
	}
}

// TestFoldTables: 5.3, each key and value once, by rising keys, behind what
// was told of the key ahead.
func TestFoldTables(t *testing.T) {
	for _, all := range tables() {
		m := of(all)
		var asked []int
		keys := Fold(m, []int{}, func(a []int, key, v int) []int {
			if is, ok := all[key]; !ok || is != v {
				t.Errorf("of %v: %d: %d", all, key, v)
			}
			asked = append(asked, key)
			return append(a, key)
		})
		if !slices.Equal(keys, rising(all)) || !slices.Equal(asked, keys) {
			t.Errorf("keys %d, asked of %d; want %d", keys, asked, rising(all))
		}
		holds(t, "put together anew", Fold(m, trie.Map[int]{}, trie.Map[int].Put), all)
		holds(t, "as it was", m, all)
	}
}

// TestValues: 5.1 to 5.3, values of other types.
func TestValues(t *testing.T) {
	a := trie.Of(trie.Pair[string]{Key: 1, V: "x"}, trie.Pair[string]{Key: 2, V: "y"})
	b := trie.Of(trie.Pair[string]{Key: 2, V: ""}, trie.Pair[string]{Key: -7, V: "z"})
	holds(t, "texts", Over(a, b), map[int]string{-7: "z", 1: "x", 2: ""})
	holds(t, "texts without", Without(a, 2, 3), map[int]string{1: "x"})
	if keys := Differs(a, b, equal); !slices.Equal(keys, []int{-7, 1, 2}) {
		t.Error("texts:", keys)
	}
	if n := Fold(b, 0, func(n, key int, v string) int { return n + key + len(v) }); n != -4 {
		t.Error("texts:", n)
	}
	one := trie.Of(trie.Pair[[]int]{Key: 1, V: []int{1}}, trie.Pair[[]int]{Key: 2, V: nil})
	two := trie.Of(trie.Pair[[]int]{Key: 1, V: []int{1}}, trie.Pair[[]int]{Key: 2, V: []int{2}})
	if keys := Differs(one, two, slices.Equal); !slices.Equal(keys, []int{2}) {
		t.Error("lists:", keys)
	}
	if v, ok := Over(two, one).Get(2); v != nil || !ok {
		t.Error("a nil list over another one:", v, ok)
	}
	if keys := Between(one, 2, 3); !slices.Equal(keys, []int{2}) {
		t.Error("lists between:", keys)
	}
	var err error
	errs := Over(trie.Of(trie.Pair[error]{Key: 1, V: strconv.ErrRange}), trie.Of(trie.Pair[error]{Key: 1, V: err}))
	if v, ok := errs.Get(1); v != nil || !ok {
		t.Error("a nil error over another one:", v, ok)
	}
}

// TestNoFunction: P1, a function that is nil, or panics, panics in no call:
// what it should have told is the zero value, and what hangs not on it stays.
func TestNoFunction(t *testing.T) {
	a, b := of(table{1: 1, 2: 2}), of(table{2: 2, 3: 3})
	broken := func(x, y int) bool { panic("broken") }
	for what, same := range map[string]func(x, y int) bool{"nil": nil, "broken": broken} {
		if keys := Differs(a, b, same); len(keys) != 0 {
			t.Errorf("%s: Differs = %d", what, keys)
		}
		if keys := Differs(a, of(table{5: 5}), same); !slices.Equal(keys, []int{1, 2, 5}) {
			t.Errorf("%s, asked of no key: Differs = %d", what, keys)
		}
	}
	late := func(n, key, v int) int {
		if key == 2 {
			panic("broken")
		}
		return n + v
	}
	for what, f := range map[string]func(n, key, v int) int{"nil": nil, "broken": late} {
		if n := Fold(a, 9, f); n != 0 {
			t.Errorf("%s: Fold = %d", what, n)
		}
		if n := Fold(trie.Map[int]{}, 9, f); n != 9 {
			t.Errorf("%s, of no keys: Fold = %d", what, n)
		}
	}
}

// TestOverItself: 5.4, what is laid over itself is as it was.
func TestOverItself(t *testing.T) {
	for _, want := range tables() {
		m := of(want)
		holds(t, "twice", Over(m, m), want)
		holds(t, "thrice", Over(m, m, m), want)
		if keys := Differs(m, Over(m, m), equal); len(keys) != 0 {
			t.Errorf("%v over itself differs at %d", want, keys)
		}
	}
}

// TestOverDiffers: 5.4, a map and what it is with another one over it differ
// at most at the keys of the upper one; without these there is nothing new.
func TestOverDiffers(t *testing.T) {
	for _, low := range tables() {
		for _, high := range tables() {
			under, upper := of(low), of(high)
			both := Over(under, upper)
			for _, key := range Differs(under, both, equal) {
				if _, ok := upper.Get(key); !ok {
					t.Errorf("%v under %v: unlike at %d", low, high, key)
				}
			}
			for _, key := range Differs(upper, both, equal) {
				if _, ok := upper.Get(key); ok {
					t.Errorf("%v over %v: unlike at %d", high, low, key)
				}
			}
			rest := maps.Clone(low)
			maps.DeleteFunc(rest, func(key, _ int) bool { _, ok := high[key]; return ok })
			holds(t, "without the upper one's keys", Without(both, upper.Keys()...), rest)
		}
	}
}
