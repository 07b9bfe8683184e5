package trie

import (
	"maps"
	"math"
	"slices"
	"testing"

	"marline/mix"
)

// edges are keys at the edges of int, and ordinary ones near to these.
func edges() []int {
	return []int{0, 1, -1, math.MinInt, math.MaxInt, math.MinInt + 1, math.MaxInt - 1, 2, -2, 15, 16, 17, 255, 256, 1 << 32, -1 << 32}
}

// alike are keys whose numbers differ from one another by the four bits of one
// level alone, or of that level and the last one.
func alike(level int) []int {
	var keys []int
	for four := range uint64(16) {
		keys = append(keys, int(mix.Unmix(0x0123456789abcdef^four<<(4*level))))
	}
	return append(keys, int(mix.Unmix(0x0123456789abcdef^7<<60)))
}

// rows are rows of keys, each row without a key that comes twice.
func rows() [][]int {
	l := [][]int{{}, {0}, {1, 5}, edges()}
	for level := range 16 {
		keys := alike(level)
		slices.Sort(keys)
		l = append(l, slices.Compact(keys))
	}
	var dense, far []int
	for n := range 700 {
		dense = append(dense, n-350)
		far = append(far, int(mix.Mix(uint64(n+1))))
	}
	return append(l, dense, far)
}

// of is a map of these keys, each with itself as its value.
func of(keys []int) Map[int] {
	var l []Pair[int]
	for _, key := range keys {
		l = append(l, Pair[int]{key, key})
	}
	return Of(l...)
}

// holds says by errors where a map does not have what it should have.
func holds[V comparable](t *testing.T, what string, m Map[V], want map[int]V) {
	t.Helper()
	if m.Len() != len(want) {
		t.Errorf("%s: Len is %d; want %d", what, m.Len(), len(want))
	}
	rising := slices.Sorted(maps.Keys(want))
	if keys := m.Keys(); !slices.Equal(keys, rising) {
		t.Errorf("%s: Keys are %d; want %d", what, keys, rising)
	}
	at := 0
	for key, v := range m.All() {
		if at >= len(rising) || key != rising[at] || v != want[key] {
			t.Errorf("%s: All hands out %d, %v at %d", what, key, v, at)
		}
		at++
	}
	if at != len(rising) {
		t.Errorf("%s: All hands out %d pairs; want %d", what, at, len(rising))
	}
	for _, key := range append(edges(), rising...) {
		v, ok := m.Get(key)
		if w, is := want[key]; v != w || ok != is {
			t.Errorf("%s: Get(%d) = %v, %v; want %v, %v", what, key, v, ok, w, is)
		}
	}
	if n := m.Nodes(); (n == 0) != (len(want) == 0) || n < 0 {
		t.Errorf("%s: Nodes are %d of %d keys", what, n, len(want))
	}
}

// nodesOf are all nodes of a map, gathered one by one.
func nodesOf[V any](m Map[V]) map[*node[V]]int {
	seen := map[*node[V]]int{}
	var walk func(n *node[V])
	walk = func(n *node[V]) {
		if n == nil {
			return
		}
		seen[n]++
		for _, a := range n.arms {
			walk(a.next)
		}
	}
	walk(m.root)
	return seen
}

// common is how many nodes both maps have, looked up one by one.
func common[V any](a, b Map[V]) int {
	sum := 0
	in := nodesOf(b)
	for n := range nodesOf(a) {
		sum += in[n]
	}
	return sum
}

// grown says by errors where a map has too many nodes that the one ahead of it
// has not.
func grown[V any](t *testing.T, what string, ahead, m Map[V]) {
	t.Helper()
	both := Shared(ahead, m)
	if want := common(ahead, m); both != want || Shared(m, ahead) != want {
		t.Errorf("%s: Shared is %d and %d; want %d", what, both, Shared(m, ahead), want)
	}
	if more := m.Nodes() - both; more < 0 || more > 16 {
		t.Errorf("%s: %d new nodes", what, more)
	}
}

// TestNone: 4.1 to 4.3, the zero Map and maps of no pairs.
func TestNone(t *testing.T) {
	var zero Map[int]
	for what, m := range map[string]Map[int]{"the zero Map": zero, "no pairs": Of[int](), "a list without members": Of([]Pair[int]{}...), "a nil list": Of[int](nil...)} {
		holds(t, what, m, nil)
		if n := Shared(m, m); n != 0 {
			t.Errorf("%s: Shared with itself is %d", what, n)
		}
		for _, key := range edges() {
			if left, ok := m.Drop(key); ok || left.Len() != 0 || left.Nodes() != 0 {
				t.Errorf("%s: Drop(%d) = %v, %v", what, key, left, ok)
			}
		}
		holds(t, what, m.Put(3, 4), map[int]int{3: 4})
		holds(t, what, m, nil)
	}
}

// TestExample: 4.1 and 4.4, the chapter's.
func TestExample(t *testing.T) {
	m := Of(Pair[int]{1, 7}, Pair[int]{5, 9})
	n := m.Put(1, 8)
	holds(t, "the first one", m, map[int]int{1: 7, 5: 9})
	holds(t, "the second one", n, map[int]int{1: 8, 5: 9})
}

// TestOf: 4.1, any number of pairs, in any order, and the list is only read.
func TestOf(t *testing.T) {
	for _, keys := range rows() {
		want := map[int]int{}
		for _, key := range keys {
			want[key] = key
		}
		holds(t, "from the front", of(keys), want)
		slices.Reverse(keys)
		holds(t, "from the back", of(keys), want)
	}
	l := []Pair[int]{{4, 1}, {2, 2}, {9, 3}}
	m := Of(l...)
	if !slices.Equal(l, []Pair[int]{{4, 1}, {2, 2}, {9, 3}}) {
		t.Error("Of wrote into its list:", l)
	}
	l[0], l[1] = Pair[int]{7, 7}, Pair[int]{2, 7}
	holds(t, "behind a change of the list", m, map[int]int{4: 1, 2: 2, 9: 3})
}

// TestOfTwice: 4.1, the last one counts of a key that comes several times.
func TestOfTwice(t *testing.T) {
	holds(t, "thrice", Of(Pair[int]{1, 7}, Pair[int]{1, 8}, Pair[int]{1, 9}), map[int]int{1: 9})
	holds(t, "back to the first", Of(Pair[int]{1, 7}, Pair[int]{1, 8}, Pair[int]{1, 7}), map[int]int{1: 7})
	holds(t, "the zero value last", Of(Pair[int]{-1, 7}, Pair[int]{2, 3}, Pair[int]{-1, 0}), map[int]int{-1: 0, 2: 3})
	var l []Pair[int]
	want := map[int]int{}
	for n := range 3000 {
		key := int(mix.Mix(uint64(n))%401) - 200
		l = append(l, Pair[int]{key, n})
		want[key] = n
	}
	holds(t, "many", Of(l...), want)
}

// TestPut: 4.1, a key that is there and one that is not; 4.3, 4.4.
func TestPut(t *testing.T) {
	for _, keys := range rows() {
		m := Of[int]()
		want := map[int]int{}
		for _, key := range keys {
			ahead := m
			m = m.Put(key, key+1)
			want[key] = key + 1
			if m.Len() != len(want) {
				t.Errorf("Put(%d) has %d keys; want %d", key, m.Len(), len(want))
			}
			grown(t, "a new key", ahead, m)
		}
		holds(t, "all of them", m, want)
		for _, key := range keys {
			n := m.Put(key, 77)
			if v, ok := n.Get(key); v != 77 || !ok || n.Len() != m.Len() || n.Nodes() != m.Nodes() {
				t.Errorf("Put(%d) again: %d, %v; %d keys, %d nodes", key, v, ok, n.Len(), n.Nodes())
			}
			grown(t, "a key that is there", m, n)
		}
		holds(t, "all of them as they were", m, want)
	}
}

// TestDrop: 4.1, a key that is there, one that is not, and the last one; 4.3, 4.4.
func TestDrop(t *testing.T) {
	for _, keys := range rows() {
		whole := of(keys)
		m := whole
		want := map[int]int{}
		for _, key := range keys {
			want[key] = key
		}
		for _, key := range keys {
			n, ok := m.Drop(key)
			if !ok || n.Len() != m.Len()-1 {
				t.Fatalf("Drop(%d) = %d keys, %v; %d were there", key, n.Len(), ok, m.Len())
			}
			grown(t, "a key less", m, n)
			again, ok := n.Drop(key)
			if ok || again != n {
				t.Errorf("Drop(%d) a second time: %d keys, %v; want the map as it is", key, again.Len(), ok)
			}
			if n.Len() > 0 && Shared(n, again) != n.Nodes() {
				t.Errorf("Drop(%d) a second time has other nodes", key)
			}
			m = n
		}
		holds(t, "nothing is left", m, nil)
		holds(t, "the whole as it was", whole, want)
	}
}

// TestDropOthers: 4.1, what is left beside a key has its values on; and no
// node is left that the keys that are left do not need.
func TestDropOthers(t *testing.T) {
	for _, keys := range rows() {
		if len(keys) > 20 {
			keys = keys[:20]
		}
		m := of(keys)
		for _, key := range keys {
			left := map[int]int{}
			for _, other := range keys {
				if other != key {
					left[other] = other
				}
			}
			n, ok := m.Drop(key)
			if !ok {
				t.Errorf("Drop(%d) finds nothing", key)
			}
			holds(t, "the others", n, left)
			if fresh := of(n.Keys()); n.Nodes() != fresh.Nodes() {
				t.Errorf("Drop(%d) leaves %d nodes; want %d, as of the keys that are left", key, n.Nodes(), fresh.Nodes())
			}
			if back := n.Put(key, key); back.Nodes() != m.Nodes() || back.Len() != m.Len() {
				t.Errorf("Put(%d) of what was dropped: %d nodes; want %d", key, back.Nodes(), m.Nodes())
			}
		}
	}
}

// TestAbsent: 4.1, keys whose numbers are those of keys that are there, up to
// the last level or but for one.
func TestAbsent(t *testing.T) {
	for level := range 16 {
		keys := alike(level)
		m := Of(Pair[int]{keys[0], 5}, Pair[int]{keys[1], 6})
		for _, key := range keys[2:] {
			if key == keys[0] || key == keys[1] {
				continue
			}
			if v, ok := m.Get(key); v != 0 || ok {
				t.Errorf("level %d: Get = %d, %v", level, v, ok)
			}
			if n, ok := m.Drop(key); ok || n != m {
				t.Errorf("level %d: Drop = %v, %v", level, n, ok)
			}
		}
	}
}

// TestValues: 4.1, values of any type.
func TestValues(t *testing.T) {
	holds(t, "texts", Of(Pair[string]{3, "c"}, Pair[string]{1, ""}), map[int]string{3: "c", 1: ""})
	holds(t, "flags", Of(Pair[bool]{3, true}, Pair[bool]{1, false}), map[int]bool{3: true, 1: false})
	holds(t, "nothing", Of(Pair[struct{}]{3, struct{}{}}), map[int]struct{}{3: {}})
	holds(t, "pairs", Of(Pair[Pair[int]]{3, Pair[int]{1, 2}}), map[int]Pair[int]{3: {1, 2}})
	lists := Of(Pair[[]int]{3, []int{1, 2}}, Pair[[]int]{4, nil}).Put(5, []int{})
	if v, ok := lists.Get(3); !ok || !slices.Equal(v, []int{1, 2}) {
		t.Error("a list:", v, ok)
	}
	if v, ok := lists.Get(4); !ok || v != nil {
		t.Error("a nil list:", v, ok)
	}
	if v, ok := lists.Get(6); ok || v != nil {
		t.Error("no list:", v, ok)
	}
	deep := Of(Pair[Map[string]]{3, Of(Pair[string]{1, "x"})})
	if v, ok := deep.Get(3); !ok || v.Len() != 1 {
		t.Error("a map of maps:", v, ok)
	}
	calls := Of(Pair[func() int]{-3, func() int { return 8 }})
	if f, ok := calls.Get(-3); !ok || f() != 8 {
		t.Error("functions:", ok)
	}
	var errs Map[error]
	if err, ok := errs.Put(1, nil).Get(1); err != nil || !ok {
		t.Error("a nil error:", err, ok)
	}
}

// TestKeys: 4.2, in new memory each time.
func TestKeys(t *testing.T) {
	m := Of(Pair[string]{4, "d"}, Pair[string]{-2, "b"}, Pair[string]{math.MinInt, "a"})
	want := []int{math.MinInt, -2, 4}
	for range 3 {
		keys := m.Keys()
		if !slices.Equal(keys, want) {
			t.Errorf("Keys = %d; want %d", keys, want)
		}
		keys[0], keys[1], keys[2] = 1, 1, 1
		_ = append(keys, 1)
	}
	if keys := of(edges()).Keys(); !slices.IsSorted(keys) || len(keys) != len(edges()) {
		t.Error("the edges:", keys)
	}
}

// TestAllBroken: 4.2, broken off after any number of keys, and walked again.
func TestAllBroken(t *testing.T) {
	m := of(edges())
	rising := m.Keys()
	all := m.All()
	for stop := 1; stop <= len(rising); stop++ {
		var keys []int
		all(func(key, v int) bool {
			if key != v {
				t.Errorf("%d has the value %d", key, v)
			}
			keys = append(keys, key)
			return len(keys) < stop
		})
		if !slices.Equal(keys, rising[:stop]) {
			t.Errorf("stopped at %d: %d", stop, keys)
		}
	}
	sum := 0
	for range all {
		sum++
		for range all {
			sum++
		}
	}
	if n := len(rising); sum != n+n*n {
		t.Errorf("one walk within another comes to %d", sum)
	}
}

// TestAllBehindChanges: 4.2 and 4.4, an iterator tells of the map that was
// asked for it, whatever is made of that meanwhile.
func TestAllBehindChanges(t *testing.T) {
	m := Of(Pair[int]{1, 7}, Pair[int]{5, 9}, Pair[int]{8, 2})
	all := m.All()
	var got []Pair[int]
	for key, v := range all {
		m = m.Put(key, -1).Put(key+100, -1)
		m, _ = m.Drop(8)
		got = append(got, Pair[int]{key, v})
	}
	if !slices.Equal(got, []Pair[int]{{1, 7}, {5, 9}, {8, 2}}) {
		t.Error(got)
	}
	holds(t, "what was made", m, map[int]int{1: -1, 5: -1, 101: -1, 105: -1, 108: -1})
}

// TestShared: 4.3, a map and itself, maps made of one another, and maps that
// have nothing in common.
func TestShared(t *testing.T) {
	for _, keys := range rows() {
		m, same := of(keys), of(keys)
		if n := Shared(m, m); n != m.Nodes() || n != len(nodesOf(m)) {
			t.Errorf("%d keys: Shared with itself is %d, of %d nodes", len(keys), n, m.Nodes())
		}
		if Shared(m, same) != 0 || Shared(same, m) != 0 || m.Nodes() != same.Nodes() {
			t.Errorf("%d keys: Shared of two that were made apart is %d", len(keys), Shared(m, same))
		}
		n := m
		for i, key := range keys {
			if i%3 == 0 {
				n, _ = n.Drop(key)
			}
			n = n.Put(key+i, i)
		}
		want := common(m, n)
		if Shared(m, n) != want || Shared(n, m) != want {
			t.Errorf("%d keys: Shared behind changes is %d and %d; want %d", len(keys), Shared(m, n), Shared(n, m), want)
		}
	}
	m, none := Of(Pair[int]{1, 1}), Of[int]()
	if Shared(m, none) != 0 || Shared(none, m) != 0 || Shared(m, Of(Pair[int]{2, 1})) != 0 {
		t.Error("maps that have nothing in common share nodes")
	}
}

// TestSharedFar: 4.3, a map of many keys shares most of its nodes with what is
// made of it by one change.
func TestSharedFar(t *testing.T) {
	var m Map[int]
	for n := range 5000 {
		m = m.Put(n*7919, n)
	}
	left, _ := m.Drop(7919 * 4000)
	for _, n := range []Map[int]{m.Put(3, 3), m.Put(7919, 3), left} {
		if both := Shared(m, n); both < m.Nodes()-16 || both >= m.Nodes() {
			t.Errorf("%d of %d nodes are shared", both, m.Nodes())
		}
	}
}

// TestDeepest: 4.3, two keys that only the last level tells apart: no change
// has more than sixteen new nodes.
func TestDeepest(t *testing.T) {
	keys := alike(15)[:16]
	var m Map[int]
	for i, key := range keys {
		n := m.Put(key, i)
		grown(t, "a new key", m, n)
		m = n
	}
	if m.Nodes() != 16 {
		t.Errorf("%d nodes; want one for each level", m.Nodes())
	}
	for _, key := range keys {
		n, ok := m.Drop(key)
		if !ok {
			t.Errorf("Drop(%d) finds nothing", key)
		}
		grown(t, "a key less", m, n)
		grown(t, "a key changed", m, m.Put(key, 99))
		m = n
	}
}

// change is a map at one time, and what it has to tell for ever.
type change struct {
	m     Map[int]
	want  map[int]int
	nodes int
}

// TestForEver: 4.4, maps asked again behind many changes.
func TestForEver(t *testing.T) {
	var kept []change
	var m Map[int]
	want := map[int]int{}
	for i := range 6000 {
		draw := mix.Mix(uint64(i) + 1)
		key := int(draw>>20%150) - 75
		if draw%5 == 0 {
			key = alike(int(draw >> 8 % 16))[draw>>40%16]
		}
		ahead := m
		if _, is := want[key]; draw%3 == 0 {
			left, ok := m.Drop(key)
			if ok != is {
				t.Fatalf("change %d: Drop(%d) says %v", i, key, ok)
			}
			m = left
			delete(want, key)
		} else {
			m = m.Put(key, i)
			want[key] = i
		}
		if m.Len() != len(want) {
			t.Fatalf("change %d: %d keys; want %d", i, m.Len(), len(want))
		}
		grown(t, "a change", ahead, m)
		if i%60 == 0 {
			kept = append(kept, change{m, maps.Clone(want), m.Nodes()})
		}
	}
	for _, c := range kept {
		holds(t, "asked again", c.m, c.want)
		if c.m.Nodes() != c.nodes {
			t.Errorf("%d nodes; there were %d", c.m.Nodes(), c.nodes)
		}
	}
}

// TestForks: 4.4, two maps made of one know nothing of each other.
func TestForks(t *testing.T) {
	for _, keys := range rows() {
		m := of(keys)
		for _, key := range []int{3, -1, 1000003} {
			one, two := m.Put(key, 1), m.Put(key, 2)
			gone, _ := one.Drop(key)
			a, _ := one.Get(key)
			b, _ := two.Get(key)
			if _, ok := gone.Get(key); a != 1 || b != 2 || ok {
				t.Errorf("Get(%d) = %d, %d, %v", key, a, b, ok)
			}
			v, ok := m.Get(key)
			if is := slices.Contains(keys, key); ok != is || is && v != key {
				t.Errorf("the first one: Get(%d) = %d, %v", key, v, ok)
			}
		}
	}
}
