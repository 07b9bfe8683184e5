package val

import (
	"maps"
	"math"
	"slices"
	"strconv"
	"strings"
	"testing"

	"marline/api"
)

// num, flag, arr and rec are values written out, without the package's calls.
func num(n int) api.Value             { return api.Value{Kind: api.ValInt, N: n} }
func flag(n int) api.Value            { return api.Value{Kind: api.ValBool, N: n} }
func arr(kids ...api.Value) api.Value { return api.Value{Kind: api.ValArr, Kids: kids} }
func rec(kids ...api.Value) api.Value { return api.Value{Kind: api.ValRec, Kids: kids} }

// none is a list without members that is not nil.
func none() []api.Value { return []api.Value{} }

// edges are numbers at the edges of int, and ordinary ones.
func edges() []int {
	return []int{math.MinInt, math.MinInt + 1, -1 << 32, -1 << 31, -100, -10, -9, -2, -1, 0, 1, 2, 9, 10, 100, 1 << 31, 1 << 32, math.MaxInt - 1, math.MaxInt}
}

// row is an array of n numbers, 0 and on.
func row(n int) api.Value {
	var kids []api.Value
	for i := range n {
		kids = append(kids, num(i))
	}
	return arr(kids...)
}

// tower is a value with n others in it, one within the other, arrays and
// records in turn.
func tower(n int, inmost api.Value) api.Value {
	v := inmost
	for i := range n {
		v = api.Value{Kind: api.ValArr + i%2, Kids: []api.Value{v}}
	}
	return v
}

// sample is a value, and what is told of it.
type sample struct {
	v          api.Value
	size, deep int
	text       string // "" if the value is not right
}

// plainSamples are numbers and flags.
func plainSamples() []sample {
	l := []sample{{flag(0), 1, 1, "false"}, {flag(1), 1, 1, "true"}}
	for _, n := range edges() {
		l = append(l, sample{num(n), 1, 1, strconv.Itoa(n)})
	}
	return append(l, sample{api.Value{Kind: api.ValInt, N: 5, Kids: none()}, 1, 1, "5"}, sample{api.Value{Kind: api.ValBool, Kids: none()}, 1, 1, "false"})
}

// rightSamples are right values of every kind.
func rightSamples() []sample {
	long := "[0"
	for i := range 999 {
		long += ", " + strconv.Itoa(i+1)
	}
	return append(plainSamples(), []sample{
		{arr(), 1, 1, "[]"},
		{rec(), 1, 1, "{}"},
		{arr(none()...), 1, 1, "[]"},
		{rec(none()...), 1, 1, "{}"},
		{arr(num(1)), 2, 2, "[1]"},
		{rec(num(-1)), 2, 2, "{-1}"},
		{arr(num(1), num(-2)), 3, 2, "[1, -2]"},
		{arr(num(-2), num(1)), 3, 2, "[-2, 1]"},
		{arr(num(1), num(-2), num(3)), 4, 2, "[1, -2, 3]"},
		{rec(num(1), num(-2), flag(1)), 4, 2, "{1, -2, true}"},
		{rec(flag(1), arr()), 3, 2, "{true, []}"},
		{arr(arr()), 2, 2, "[[]]"},
		{arr(rec()), 2, 2, "[{}]"},
		{rec(arr()), 2, 2, "{[]}"},
		{rec(rec()), 2, 2, "{{}}"},
		{arr(arr(), arr()), 3, 2, "[[], []]"},
		{arr(arr(arr())), 3, 3, "[[[]]]"},
		{arr(arr(num(1)), num(2)), 4, 3, "[[1], 2]"},
		{arr(num(1), arr(num(2))), 4, 3, "[1, [2]]"},
		{arr(arr(num(1), num(2))), 4, 3, "[[1, 2]]"},
		{rec(num(1), arr(num(5), num(6))), 5, 3, "{1, [5, 6]}"},
		{arr(rec(num(1), flag(1)), rec(num(-2), flag(0))), 7, 3, "[{1, true}, {-2, false}]"},
		{rec(arr(rec(arr(flag(0)))), num(7), rec(rec(), arr(arr()))), 10, 5, "{[{[false]}], 7, {{}, [[]]}}"},
		{arr(num(math.MinInt), num(math.MaxInt), num(0)), 4, 2, "[-9223372036854775808, 9223372036854775807, 0]"},
		{row(1000), 1001, 2, long + "]"},
		{tower(4, flag(1)), 5, 5, "{[{[true]}]}"},
		{tower(3, arr(num(3), num(4))), 6, 5, "[{[[3, 4]]}]"},
	}...)
}

// wrongPlain are wrong values whose Kids, if they have any, are right.
func wrongPlain() []sample {
	var l []sample
	for _, kind := range []int{math.MinInt, -1 << 32, -2, -1, 4, 5, 6, 7, 16, 255, 256, 1 << 32, 1<<32 + api.ValArr, math.MaxInt} {
		l = append(l, sample{api.Value{Kind: kind}, 1, 1, ""}, sample{api.Value{Kind: kind, N: 1}, 1, 1, ""}, sample{api.Value{Kind: kind, Kids: none()}, 1, 1, ""}, sample{api.Value{Kind: kind, Kids: []api.Value{num(1), num(2)}}, 3, 2, ""})
	}
	for _, n := range edges() {
		if n != 0 && n != 1 {
			l = append(l, sample{flag(n), 1, 1, ""})
		}
		if n != 0 {
			l = append(l, sample{api.Value{Kind: api.ValArr, N: n}, 1, 1, ""}, sample{api.Value{Kind: api.ValRec, N: n}, 1, 1, ""},
				sample{api.Value{Kind: api.ValArr, N: n, Kids: []api.Value{num(1)}}, 2, 2, ""}, sample{api.Value{Kind: api.ValRec, N: n, Kids: []api.Value{num(1)}}, 2, 2, ""})
		}
		l = append(l, sample{api.Value{Kind: api.ValInt, N: n, Kids: []api.Value{num(n)}}, 2, 2, ""})
	}
	return append(l, sample{api.Value{Kind: api.ValBool, N: 0, Kids: []api.Value{flag(0)}}, 2, 2, ""}, sample{api.Value{Kind: api.ValBool, N: 1, Kids: []api.Value{num(1), arr()}}, 3, 2, ""})
}

// wrongSamples are wrong values, and right ones with a wrong one in them: as
// the first Kid, the last one, among others, and deep inside.
func wrongSamples() []sample {
	l := wrongPlain()
	for _, s := range wrongPlain() {
		w := s.v
		l = append(l,
			sample{arr(w), s.size + 1, s.deep + 1, ""}, sample{rec(w), s.size + 1, s.deep + 1, ""},
			sample{arr(w, num(1), num(2)), s.size + 3, s.deep + 1, ""}, sample{rec(num(1), num(2), w), s.size + 3, s.deep + 1, ""},
			sample{rec(num(1), w, arr()), s.size + 3, s.deep + 1, ""}, sample{arr(arr(), rec(arr(w), num(1)), num(2)), s.size + 6, s.deep + 3, ""},
			sample{tower(40, w), s.size + 40, s.deep + 40, ""}, sample{arr(w, w), 2*s.size + 1, s.deep + 1, ""})
	}
	return l
}

// samples are right values and wrong ones.
func samples() []sample { return append(rightSamples(), wrongSamples()...) }

// dump is a value written so that any two that are not the same are unlike.
func dump(v api.Value) string {
	var b strings.Builder
	put(&b, v)
	return b.String()
}

// put writes a value's kind, number, how many Kids it has, and these.
func put(b *strings.Builder, v api.Value) {
	b.WriteString(strconv.Itoa(v.Kind) + "/" + strconv.Itoa(v.N) + "/" + strconv.Itoa(len(v.Kids)) + "(")
	for _, k := range v.Kids {
		put(b, k)
	}
	b.WriteString(")")
}

// room is where the lists of a value lie, members and what is behind them.
func room(v api.Value, at map[*api.Value]int) map[*api.Value]int {
	whole := v.Kids[:cap(v.Kids)]
	for i := range whole {
		at[&whole[i]]++
	}
	for _, k := range v.Kids {
		room(k, at)
	}
	return at
}

// apart says by errors where the lists of an answer lie in one another, or in
// the memory of others.
func apart(t *testing.T, what string, v api.Value, others ...api.Value) {
	t.Helper()
	taken := map[*api.Value]int{}
	for _, o := range others {
		room(o, taken)
	}
	for at, times := range room(v, map[*api.Value]int{}) {
		if times > 1 {
			t.Errorf("%s: two lists share memory", what)
		}
		if taken[at] > 0 {
			t.Errorf("%s: memory of others is in it", what)
		}
	}
}

// is says by an error if a value is not the one that it should be.
func is(t *testing.T, what string, v, want api.Value) {
	t.Helper()
	if dump(v) != dump(want) {
		t.Errorf("%s: %.80s; want %.80s", what, dump(v), dump(want))
	}
}

// TestPlain: 6.1, numbers and flags.
func TestPlain(t *testing.T) {
	for _, n := range edges() {
		is(t, "Int", Int(n), num(n))
	}
	is(t, "Bool of true", Bool(true), flag(1))
	is(t, "Bool of false", Bool(false), flag(0))
}

// makers are Arr and Rec, with their kinds.
func makers() map[int]func(...api.Value) api.Value {
	return map[int]func(...api.Value) api.Value{api.ValArr: Arr, api.ValRec: Rec}
}

// TestOfOthers: 6.1, of no values, of one, of several, of wrong ones too.
func TestOfOthers(t *testing.T) {
	for kind, of := range makers() {
		is(t, "of none", of(), api.Value{Kind: kind})
		is(t, "of a nil list", of(nil...), api.Value{Kind: kind})
		is(t, "of a list without members", of(none()...), api.Value{Kind: kind})
		var all []api.Value
		for _, s := range samples() {
			all = append(all, s.v)
			is(t, "of one", of(s.v), api.Value{Kind: kind, Kids: []api.Value{s.v}})
			is(t, "of three", of(num(1), s.v, flag(0)), api.Value{Kind: kind, Kids: []api.Value{num(1), s.v, flag(0)}})
		}
		is(t, "of all", of(all...), api.Value{Kind: kind, Kids: all})
	}
}

// TestListNotKept: 6.1, the answer knows nothing of what becomes of the list
// of the call, nor the list of what becomes of the answer; behind the list's
// members nothing is written.
func TestListNotKept(t *testing.T) {
	for kind, of := range makers() {
		for n := range 5 {
			under := slices.Clone(row(9).Kids)
			l := under[:n]
			v := of(l...)
			want := api.Value{Kind: kind, Kids: slices.Clone(l)}
			is(t, "at first", v, want)
			apart(t, "the list", v, arr(under...))
			_ = append(l, flag(1), flag(1))
			for i := range l {
				l[i] = arr(num(77))
			}
			is(t, "behind a change of the list", v, want)
			is(t, "behind the members", under[8], num(8))
			grown := append(v.Kids, flag(0), flag(0))
			for i := range grown {
				grown[i] = flag(0)
			}
			for i := range l {
				is(t, "the list behind a change of the answer", l[i], arr(num(77)))
			}
			is(t, "behind the list", under[8], num(8))
		}
	}
}

// TestKidsKept: 6.1, the Kids of the list's values are kept as they are.
func TestKidsKept(t *testing.T) {
	for _, of := range makers() {
		a, b := arr(num(1), num(2)), rec(flag(1))
		v := of(a, num(3), b)
		if &v.Kids[0].Kids[0] != &a.Kids[0] || &v.Kids[2].Kids[0] != &b.Kids[0] {
			t.Error("Kids of the values lie in new memory")
		}
		a.Kids[1] = num(9)
		is(t, "behind a change of Kids", v.Kids[0], arr(num(1), num(9)))
	}
}

// TestRight: 6.1.
func TestRight(t *testing.T) {
	for _, s := range samples() {
		if Right(s.v) != (s.text != "") {
			t.Errorf("Right(%.80s) = %t", dump(s.v), Right(s.v))
		}
	}
}

// TestSize: 6.1, of right values and of wrong ones.
func TestSize(t *testing.T) {
	for _, s := range samples() {
		if n := Size(s.v); n != s.size {
			t.Errorf("Size(%.80s) = %d; want %d", dump(s.v), n, s.size)
		}
	}
	if n := Size(arr(row(300), row(300), rec(row(400)))); n != 1+301+301+402 {
		t.Error("Size of many:", n)
	}
}

// TestDeep: 6.1, of right values and of wrong ones; the deepest Kid counts,
// wherever it stands.
func TestDeep(t *testing.T) {
	for _, s := range samples() {
		if n := Deep(s.v); n != s.deep {
			t.Errorf("Deep(%.80s) = %d; want %d", dump(s.v), n, s.deep)
		}
	}
	for at := range 5 {
		v := row(5)
		v.Kids[(at+1)%5] = tower(3, num(0))
		v.Kids[at] = tower(7, num(0))
		if n := Deep(v); n != 9 {
			t.Errorf("the deepest Kid at %d: %d", at, n)
		}
	}
}

// TestSame: 6.2, any two samples, and each one and itself.
func TestSame(t *testing.T) {
	all := slices.Concat(rightSamples(), wrongPlain())
	for _, a := range all {
		for _, b := range all {
			if Same(a.v, b.v) != (dump(a.v) == dump(b.v)) {
				t.Errorf("Same(%.80s, %.80s) = %t", dump(a.v), dump(b.v), Same(a.v, b.v))
			}
		}
	}
	for _, s := range wrongSamples() {
		if !Same(s.v, s.v) || Same(s.v, arr(s.v)) || Same(rec(s.v), s.v) {
			t.Errorf("of %.80s and itself", dump(s.v))
		}
	}
}

// TestSameEdges: 6.2, written out by hand.
func TestSameEdges(t *testing.T) {
	for _, c := range []struct {
		what string
		a, b api.Value
		want bool
	}{
		{"zero values", api.Value{}, num(0), true},
		{"a number and a flag", num(1), flag(1), false},
		{"an array and a record without members", arr(), rec(), false},
		{"an array and a record", arr(num(1)), rec(num(1)), false},
		{"numbers", num(1), num(2), false},
		{"numbers at both edges", num(math.MinInt), num(math.MaxInt), false},
		{"nil Kids and empty ones", arr(), arr(none()...), true},
		{"empty Kids and nil ones", rec(none()...), rec(), true},
		{"of a number", api.Value{Kids: none()}, num(0), true},
		{"inside others", arr(rec(), num(1)), arr(rec(none()...), num(1)), true},
		{"one Kid less", arr(num(1)), arr(num(1), num(2)), false},
		{"one Kid more", arr(num(1), num(2)), arr(num(1)), false},
		{"the first Kid less", arr(num(2)), arr(num(1), num(2)), false},
		{"no Kids", arr(), arr(num(0)), false},
		{"order", arr(num(1), num(2)), arr(num(2), num(1)), false},
		{"depth", arr(arr(num(1))), arr(num(1)), false},
		{"where brackets stand", arr(arr(num(1)), num(2)), arr(arr(num(1), num(2))), false},
		{"the first Kid", arr(num(0), num(2)), arr(num(1), num(2)), false},
		{"the last Kid", arr(num(1), num(2)), arr(num(1), num(3)), false},
		{"a Kid of a Kid", rec(arr(num(1))), rec(arr(num(2))), false},
		{"deep inside, alike", tower(30, num(1)), tower(30, num(1)), true},
		{"deep inside, unlike", tower(30, num(1)), tower(30, num(2)), false},
		{"deep inside, of unlike kinds", tower(30, num(1)), tower(30, flag(1)), false},
		{"wrong ones", api.Value{Kind: 9, N: 3, Kids: []api.Value{flag(7)}}, api.Value{Kind: 9, N: 3, Kids: []api.Value{flag(7)}}, true},
		{"wrong ones, of unlike kinds", api.Value{Kind: 9}, api.Value{Kind: 8}, false},
		{"wrong ones, with unlike numbers", api.Value{Kind: api.ValArr, N: 1}, arr(), false},
		{"wrong ones, with unlike Kids", api.Value{Kids: []api.Value{num(1)}}, api.Value{Kids: []api.Value{num(2)}}, false},
	} {
		if Same(c.a, c.b) != c.want || Same(c.b, c.a) != c.want {
			t.Errorf("%s: %t", c.what, !c.want)
		}
	}
}

// TestClone: 6.2, the same value, in new memory at every depth.
func TestClone(t *testing.T) {
	for _, s := range samples() {
		c := Clone(s.v)
		is(t, "Clone", c, s.v)
		apart(t, "Clone of "+s.text, c, s.v)
	}
}

// spoil writes into all lists of a value, and behind their members.
func spoil(v api.Value) {
	for i := range v.Kids {
		spoil(v.Kids[i])
		v.Kids[i] = flag(77)
	}
	_ = append(v.Kids, flag(77))
}

// TestCloneApart: 6.2, neither knows of what becomes of the other; Kids that
// are shared in a value are not shared in its clone.
func TestCloneApart(t *testing.T) {
	for _, s := range samples() {
		v := Clone(s.v)
		c := Clone(v)
		spoil(c)
		is(t, "the value behind a change of the clone", v, s.v)
		c = Clone(v)
		spoil(v)
		is(t, "the clone behind a change of the value", c, s.v)
	}
	long := slices.Clone(row(9).Kids)
	c := Clone(arr(long[:2]...))
	_ = append(c.Kids, flag(1), flag(1), flag(1))
	is(t, "behind the members", arr(long...), row(9))
	is(t, "Kids of a length of their own", c, row(2))
	kid := rec(num(1), arr(num(2)))
	both := arr(kid, kid)
	apart(t, "Kids that are there twice", Clone(both), both)
}

// TestText: 6.3, of right values their texts, of others none.
func TestText(t *testing.T) {
	for _, s := range samples() {
		if text := Text(s.v); text != s.text {
			t.Errorf("Text(%.80s) = %.80q; want %.80q", dump(s.v), text, s.text)
		}
	}
}

// TestRead: 6.3, each text of a right value.
func TestRead(t *testing.T) {
	for _, s := range rightSamples() {
		v, e := Read(s.text)
		if e != api.OK {
			t.Errorf("Read(%.80q): %v", s.text, e)
		}
		is(t, "Read", v, s.v)
		apart(t, s.text, v)
		spoil(v)
		v, _ = Read(s.text)
		is(t, "Read anew", v, s.v)
	}
}

// noTexts are texts of no value.
func noTexts() []string {
	return []string{
		"", " ", "  ", "\n", "\x00", ",", ", ", "-", "+", "[", "]", "{", "}", "[[", "]]", "}{", "][",
		// brackets that stay open, are one too many, or do not fit
		"[1", "{1", "1]", "1}", "[1}", "{1]", "[1]]", "{1}}", "[[1]", "{{1}", "[{1]}", "{[1}]", "[1, 2", "[1, ", "[1,", "[[]", "[]]", "[[1], 2", "(1)", "<1>", "[1)", "[}", "{]", "[{]}", "[]{}", "[][]", "[] []", "[[][]]", "[[]1]", "[1[]]", "[1[2]]", "1[]", "1[", "1{", "[]1",
		// commas too many, too few, or elsewhere
		"[,]", "[, ]", "{,}", "{, }", "[1,]", "[1, ]", "[,1]", "[, 1]", "[1,, 2]", "[1, , 2]", "[1 2]", "[1; 2]", "[1. 2]", "1,", "1, ", ", 1", "1, 2", "[], []", "[1], [2]", "{1}, ", "[[] []]", "[[],[]]", "[[],, []]", "[1, 2,]", "[1, 2, ]", "[1, [], ]", "[[, ]]", "[, []]",
		// blanks too many, too few, or elsewhere
		" 1", "1 ", " [1]", "[1] ", "[ 1]", "[1 ]", "[1,2]", "[1,  2]", "[1 , 2]", "[1 ,2]", "[ ]", "{ }", "[[] , []]", "[1,\t2]", "[1,\n2]", "[1,\u00a02]", "[1]\n", "\n[1]", "[1]\x00", "\ufeff[1]", "{1} ", "true ", " true", "[true ]", "[ true]",
		// numbers written in another way
		"01", "00", "007", "-01", "-00", "+1", "+0", "-0", "--1", "-+1", "- 1", "1-", "1-1", "1_000", "0x1", "0b1", "0o7", "1e3", "1.0", ".5", "1.", "1,000", "\u0661", "\uff11", "[01]", "[-0]", "[+1]", "[-]", "[1, -]", "[1, 02]", "{-00, 1}",
		"9223372036854775808", "-9223372036854775809", "18446744073709551616", "[9223372036854775808]", "{1, -9223372036854775809}", strings.Repeat("9", 1000), "-" + strings.Repeat("1", 1000), strings.Repeat("0", 1000),
		// other words
		"True", "TRUE", "False", "t", "f", "tru", "fals", "truee", "falsee", "truefalse", "true false", "true, false", "nil", "null", "none", "yes", "x", "\"1\"", "'1'", "int", "1true", "true1", "-true", "[true false]", "[truefalse]", "[tru]", "{True}", "[true, fals]", "tr\u00fce", "true\x00",
		// bytes behind the end
		"1x", "1\x00", "[1]x", "[1]1", "[1]true", "{}x", "[],", "[]]", "{}}", "{}]", "[1]\xff", "true]", "false}", "true,", "\xff", "\xff[1]", "[\xff]", "[1\xff]",
	}
}

// TestReadNone: 6.3, texts of no value; what is put around one of them is read
// at most as the value whose text it is.
func TestReadNone(t *testing.T) {
	for _, s := range noTexts() {
		v, e := Read(s)
		if e != api.ErrForm {
			t.Errorf("Read(%.80q): %v", s, e)
		}
		is(t, "beside an error", v, api.Value{})
		for _, text := range []string{"[" + s + "]", "{1, " + s + "}", "[" + s + ", 1]", "[" + s, s + "}", s + s} {
			v, e := Read(text)
			if e == api.OK && Text(v) != text || e != api.OK && (e != api.ErrForm || dump(v) != dump(api.Value{})) {
				t.Errorf("Read(%.80q) = %.80s, %v", text, dump(v), e)
			}
		}
	}
}

// forms are all texts of right values of at most n bytes, the numbers of
// which have no other digits than 0 and 1.
func forms(n int) map[string]struct{} {
	texts := map[string]struct{}{"true": {}, "false": {}}
	row := []string{""}
	for range n {
		var longer []string
		for _, s := range row {
			longer = append(longer, s+"0", s+"1", s+"-")
		}
		for _, s := range longer {
			if i, err := strconv.Atoi(s); err == nil && strconv.Itoa(i) == s {
				texts[s] = struct{}{}
			}
		}
		row = longer
	}
	for most := 2; most <= n; most++ { // a text's members are shorter than it by two at least
		for list := range lists(texts, most-2) {
			texts["["+list+"]"] = struct{}{}
			texts["{"+list+"}"] = struct{}{}
		}
	}
	return texts
}

// lists are all rows of texts, parted as those of members, of at most n bytes.
func lists(texts map[string]struct{}, n int) map[string]struct{} {
	rows := map[string]struct{}{"": {}}
	var last []string
	for s := range texts {
		if len(s) <= n {
			last = append(last, s)
		}
	}
	firsts := last
	for len(last) > 0 {
		var longer []string
		for _, s := range last {
			rows[s] = struct{}{}
			for _, first := range firsts {
				if row := first + ", " + s; len(row) <= n {
					longer = append(longer, row)
				}
			}
		}
		last = longer
	}
	return rows
}

// TestReadAll: 6.3, all rows of up to six bytes of those that a text can have:
// just the texts are read, each as the value that it is of.
func TestReadAll(t *testing.T) {
	const longest = 6
	texts := forms(longest)
	found := 0
	var walk func(s string)
	walk = func(s string) {
		v, e := Read(s)
		_, ok := texts[s]
		if ok {
			found++
		}
		if ok && (e != api.OK || Text(v) != s || !Right(v)) {
			t.Errorf("Read(%q) = %s, %v", s, dump(v), e)
		}
		if !ok && (e != api.ErrForm || dump(v) != dump(api.Value{})) {
			t.Errorf("Read(%q) = %s, %v; want none", s, dump(v), e)
		}
		if len(s) < longest {
			for _, b := range "[]{}, 01-" {
				walk(s + string(b))
			}
		}
	}
	walk("")
	maps.DeleteFunc(texts, func(s string, _ struct{}) bool { return len(s) > longest || strings.ContainsAny(s, "tf") })
	if found != len(texts) {
		t.Errorf("of %d texts %d were found", len(texts), found)
	}
}

// TestReadSpoilt: 6.3, texts with a byte more, less, or another one: if they
// are read, then as the value whose text they are.
func TestReadSpoilt(t *testing.T) {
	for _, s := range rightSamples() {
		if len(s.text) > 50 {
			continue
		}
		var spoilt []string
		for i := range len(s.text) + 1 {
			for b := range 256 {
				spoilt = append(spoilt, s.text[:i]+string([]byte{byte(b)})+s.text[i:])
			}
			if i == len(s.text) {
				break
			}
			spoilt = append(spoilt, s.text[:i]+s.text[i+1:], s.text[:i])
			for b := range 256 {
				spoilt = append(spoilt, s.text[:i]+string([]byte{byte(b)})+s.text[i+1:])
			}
		}
		for _, text := range spoilt {
			v, e := Read(text)
			if e == api.OK && Text(v) != text || e != api.OK && (e != api.ErrForm || dump(v) != dump(api.Value{})) {
				t.Errorf("Read(%q) = %s, %v", text, dump(v), e)
			}
		}
	}
}

// TestExamples: 6.3, the chapter's.
func TestExamples(t *testing.T) {
	if s := Text(Arr(Int(1), Int(-2))); s != "[1, -2]" {
		t.Errorf("an array: %q", s)
	}
	if s := Text(Rec(Bool(true), Arr())); s != "{true, []}" {
		t.Errorf("a record: %q", s)
	}
	v, e := Read("[{1, true}, {-2, false}]")
	is(t, "an array of records", v, arr(rec(num(1), flag(1)), rec(num(-2), flag(0))))
	if e != api.OK || Size(v) != 7 || Deep(v) != 3 {
		t.Error("an array of records:", e, Size(v), Deep(v))
	}
}

// small are all right values of a size, of few numbers and the flags.
func small(size int) []api.Value {
	if size == 1 {
		return []api.Value{num(0), num(1), num(-1), num(10), flag(0), flag(1), arr(), rec()}
	}
	var l []api.Value
	for _, kids := range rows(size - 1) {
		l = append(l, arr(kids...), rec(kids...))
	}
	return l
}

// rows are all lists of small values of a size together.
func rows(size int) [][]api.Value {
	if size == 0 {
		return [][]api.Value{nil}
	}
	var l [][]api.Value
	for first := 1; first <= size; first++ {
		for _, v := range small(first) {
			for _, rest := range rows(size - first) {
				l = append(l, append([]api.Value{v}, rest...))
			}
		}
	}
	return l
}

// TestTextsUnlike: 6.4, right values are read from their texts, and of all
// small values, and all samples, no two unlike ones have one text.
func TestTextsUnlike(t *testing.T) {
	var all []api.Value
	for size := range 5 {
		all = append(all, small(size+1)...)
	}
	for _, s := range rightSamples() {
		all = append(all, s.v)
	}
	seen := map[string]api.Value{}
	for _, v := range all {
		text := Text(v)
		if w, ok := seen[text]; ok && dump(w) != dump(v) {
			t.Errorf("%q is the text of %s and of %s", text, dump(w), dump(v))
		}
		seen[text] = v
		back, e := Read(text)
		if e != api.OK || !Same(back, v) || dump(back) != dump(v) {
			t.Errorf("%s is read from %q as %s, %v", dump(v), text, dump(back), e)
		}
	}
	if len(all) < 20_000 {
		t.Error("too few values:", len(all))
	}
}

// TestManyBrackets: 6.3, P1, texts with many brackets in one another, closed
// and not.
func TestManyBrackets(t *testing.T) {
	const many = 1 << 18
	open := strings.Repeat("[{", many)
	for what, s := range map[string]string{
		"open": open, "closed": strings.Repeat("]", many), "too few": open + strings.Repeat("}]", many-1), "one too few": open + strings.Repeat("}]", many-1) + "}",
		"too many": open + strings.Repeat("}]", many) + "]", "not fitting": open + strings.Repeat("]}", many), "with commas": strings.Repeat("[1, ", many), "with bytes behind": open + strings.Repeat("}]", many) + " ",
	} {
		if v, e := Read(s); e != api.ErrForm || dump(v) != dump(api.Value{}) {
			t.Errorf("%s: %v", what, e)
		}
	}
	v, e := Read(open + strings.Repeat("}]", many))
	deep := 0
	for ; len(v.Kids) == 1 && v.Kind == api.ValArr+deep%2; v = v.Kids[0] {
		deep++
	}
	if e != api.OK || deep != 2*many-1 || len(v.Kids) != 0 || v.Kind != api.ValRec {
		t.Error("well closed:", e, deep)
	}
}

// TestDeepValues: P1, values with as many others in one another as may be.
func TestDeepValues(t *testing.T) {
	const many = 1 << 16
	v, w := tower(many-1, num(1)), tower(many-1, flag(2))
	if n := Deep(v); n != many {
		t.Error("Deep:", n)
	}
	if n := Size(v); n != many {
		t.Error("Size:", n)
	}
	if !Right(v) || Right(w) {
		t.Error("Right:", Right(v), Right(w))
	}
	if !Same(v, Clone(v)) || Same(v, w) {
		t.Error("Same:", Same(v, w))
	}
	if s := Text(w); s != "" {
		t.Error("Text of a wrong one:", len(s))
	}
	if back, e := Read(Text(v)); e != api.OK || !Same(v, back) {
		t.Error("Read of Text:", e)
	}
}

// TestManyKids: P1, a value with many Kids is told and read as it is.
func TestManyKids(t *testing.T) {
	v := rec(row(100_000), row(0), row(100_000))
	if Size(v) != 200_004 || Deep(v) != 3 || !Right(v) || !Same(v, Clone(v)) {
		t.Error(Size(v), Deep(v), Right(v))
	}
	if back, e := Read(Text(v)); e != api.OK || !Same(v, back) {
		t.Error("Read of Text:", e)
	}
}

// TestAsItWas: no call writes into the values that are handed in.
func TestAsItWas(t *testing.T) {
	for _, s := range samples() {
		kids := append(make([]api.Value, 0, len(s.v.Kids)+3), s.v.Kids...)
		behind := kids[:cap(kids)]
		v := api.Value{Kind: s.v.Kind, N: s.v.N, Kids: kids}
		was, rest := dump(v), dump(arr(behind...))
		Right(v)
		Size(v)
		Deep(v)
		Text(v)
		Same(v, s.v)
		Same(s.v, v)
		spoil(Clone(v))
		_ = append(Arr(v, v).Kids, num(1))
		_ = append(Rec(kids...).Kids, num(1))
		if dump(v) != was || dump(arr(behind...)) != rest {
			t.Errorf("%.80s was written into: %.80s", was, dump(v))
		}
	}
}
