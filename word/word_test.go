package word_test

import (
	"math"
	"slices"
	"strconv"
	"strings"
	"testing"

	"marline/api"
	"marline/word"
)

// order are the words in their order, as the chapter writes them.
const order = "rec iso fun merge main var if else while return fork join print new by int bool rev true false"

// ordered are the words in their order.
func ordered() []string { return strings.Split(order, " ") }

// given is a given function, and how many arguments it has.
type given struct {
	name string
	args int
}

// functions are the given functions.
func functions() []given {
	return []given{{"len", 1}, {"fill", 2}, {"input", 1}, {"inputs", 0}}
}

// sign is a sign: its number, how it is spelt, and how tightly it binds.
type sign struct {
	number   int
	spelling string
	bind     int
}

// signs are the signs.
func signs() []sign {
	return []sign{
		{1, "+", 4}, {2, "-", 4}, {3, "*", 5}, {4, "/", 5}, {5, "%", 5}, {6, "==", 3}, {7, "!=", 3},
		{8, "<", 3}, {9, "<=", 3}, {10, ">", 3}, {11, ">=", 3}, {12, "&&", 2}, {13, "||", 1}, {14, "!", 0},
	}
}

// alone are the marks that are no signs.
func alone() []string { return []string{"(", ")", "{", "}", "[", "]", ",", ";", ".", "="} }

// marks are all marks.
func marks() []string {
	l := alone()
	for _, s := range signs() {
		l = append(l, s.spelling)
	}
	return l
}

// everyByte are the texts of one byte.
func everyByte() []string {
	var l []string
	for b := range 256 {
		l = append(l, string([]byte{byte(b)}))
	}
	return l
}

// near are texts that are a given one, or nearly so: cut short at either end,
// with a byte more in each place, without one, with another one instead, with
// two that have changed places, in other letters, with blanks, and twice.
func near(s string) []string {
	l := []string{s, strings.ToUpper(s), strings.ToTitle(s[:1]) + s[1:], s + s, s + " " + s, "\t" + s + "\n", s + "\r\n", "#" + s, s + "#", "\ufeff" + s, s + "\u0301"}
	for i := range len(s) + 1 {
		l = append(l, s[:i], s[i:])
		for _, b := range everyByte() {
			l = append(l, s[:i]+b+s[i:])
		}
	}
	for i := range len(s) {
		l = append(l, s[:i]+s[i+1:], s[:i]+strings.ToUpper(s[i:i+1])+s[i+1:])
		for _, b := range everyByte() {
			l = append(l, s[:i]+b+s[i+1:])
		}
	}
	for i := 1; i < len(s); i++ {
		l = append(l, s[:i-1]+s[i:i+1]+s[i-1:i]+s[i+1:])
	}
	return l
}

// short are all texts of up to two bytes.
func short() []string {
	l := append(everyByte(), "")
	for _, a := range everyByte() {
		for _, b := range everyByte() {
			l = append(l, a+b)
		}
	}
	return l
}

// long are texts that are very long, words and marks at their ends among them.
func long() []string {
	var l []string
	for _, s := range append(ordered(), marks()...) {
		l = append(l, strings.Repeat(s, 5000), s+strings.Repeat("a", 20000), strings.Repeat(" ", 20000)+s)
	}
	return l
}

// texts are texts of all sorts: each that the chapter names, and what is near.
func texts() []string {
	l := append(short(), long()...)
	l = append(l, order, strings.Join(marks(), ""), "a", "x1", "_main", "forks", "integer", "boolean", "nil", "for", "return;", "main{", "len(", "fill(", "Input", "output", "args", "===", "<=>", "&&&", "plus", "Plus", "\x00", "\u00d7", "\u2264", "\uff0b", "\u017fun", "\u212aind")
	for _, s := range ordered() {
		l = append(l, near(s)...)
	}
	for _, f := range functions() {
		l = append(l, near(f.name)...)
	}
	for _, s := range marks() {
		l = append(l, near(s)...)
	}
	return l
}

// none are numbers of no sign: all near by, at the edges, and those that would
// be a sign's, were they cut down to fewer bits, or turned round.
func none() []int {
	l := []int{math.MinInt, math.MinInt + 1, math.MaxInt, math.MaxInt - 1}
	for n := -1000; n <= 1000; n++ {
		if n < 1 || n > 14 {
			l = append(l, n)
		}
	}
	for bits := 4; bits < 64; bits++ {
		for n := range 16 {
			l = append(l, 1<<bits+n, -1<<bits+n, -(1<<bits)-n)
		}
	}
	return slices.DeleteFunc(l, func(n int) bool { return n >= 1 && n <= 14 })
}

// TestConstants: the numbers of the signs are those of package api.
func TestConstants(t *testing.T) {
	l := []int{api.Plus, api.Minus, api.Times, api.Over, api.Rest, api.Same, api.Apart, api.Less, api.Most, api.More, api.Least, api.And, api.Or, api.Not}
	for i, s := range signs() {
		if l[i] != s.number {
			t.Error(s.spelling, l[i])
		}
	}
}

// TestExample: the chapter's (9.3).
func TestExample(t *testing.T) {
	if got := word.Mark("<=b"); got != "<=" {
		t.Error(got)
	}
	if got := word.Mark("&b"); got != "" {
		t.Error(got)
	}
}

// TestAll: 9.1, the words in their order, however often they are asked for.
func TestAll(t *testing.T) {
	for range 3 {
		if got := word.All(); !slices.Equal(got, ordered()) {
			t.Fatal(got)
		}
	}
}

// TestAllNew: 9.1, new memory each time: what a caller writes into a list, or
// behind it, changes neither one that is there nor a later answer.
func TestAllNew(t *testing.T) {
	before := word.All()
	mine := word.All()
	for i := range mine {
		mine[i] = "x"
	}
	whole := mine[:cap(mine)]
	for i := range whole {
		whole[i] = "x"
	}
	_ = append(mine[:0], "y", "y")
	if !slices.Equal(before, ordered()) || !slices.Equal(word.All(), ordered()) {
		t.Error(before, word.All())
	}
	if word.Is("x") || word.Is("y") {
		t.Error("a word that was written into a list")
	}
	for _, w := range ordered() {
		if !word.Is(w) {
			t.Error(w)
		}
	}
}

// TestIs: 9.1, each word.
func TestIs(t *testing.T) {
	for _, w := range append(ordered(), word.All()...) {
		if !word.Is(w) {
			t.Error(w)
		}
	}
}

// TestIsNone: 9.1, texts that are no words: no bytes, words cut short, with a
// byte more, in other letters, with blanks; the given functions; marks.
func TestIsNone(t *testing.T) {
	l := []string{"", " ", "re", "i", "mai", "retur", "tru", "fals", "record", "isos", "ifs", "mainx", "main1", "main_", "_main", "int8", "Main", "MAIN", "True", "FALSE", "iF", " main", "main ", "ma in", "\tif", "if\n", "main\x00", "rec iso", "recs", "len", "fill", "input", "inputs", "(", "==", "+", "a", "1", order}
	for _, s := range l {
		if word.Is(s) {
			t.Errorf("%q", s)
		}
	}
	for _, f := range functions() {
		if word.Is(f.name) {
			t.Error(f.name)
		}
	}
}

// TestIsTexts: 9.1, of texts of all sorts just the words are words.
func TestIsTexts(t *testing.T) {
	l := ordered()
	for _, s := range texts() {
		if got, want := word.Is(s), slices.Contains(l, s); got != want {
			t.Fatalf("%.40q: %v", s, got)
		}
	}
}

// TestGiven: 9.1, each given function; one that has no argument is one, too.
func TestGiven(t *testing.T) {
	for _, f := range functions() {
		if n, ok := word.Given(f.name); n != f.args || !ok {
			t.Error(f.name, n, ok)
		}
	}
}

// TestGivenNone: 9.1, texts that are no given functions, words among them.
func TestGivenNone(t *testing.T) {
	l := append(ordered(), marks()...)
	l = append(l, "", " ", "le", "lens", "length", "Len", "LEN", " len", "len ", "len(", "len()", "fil", "fills", "Fill", "fill ", "inpu", "inputss", "Input", "inputS", " inputs", "in put", "input(0)", "input\x00", "output", "a", "x1", "0", "1")
	for _, s := range l {
		if n, ok := word.Given(s); n != 0 || ok {
			t.Errorf("%q: %d %v", s, n, ok)
		}
	}
}

// TestGivenTexts: 9.1, of texts of all sorts just the given functions are
// given.
func TestGivenTexts(t *testing.T) {
	for _, s := range texts() {
		want, is := 0, false
		for _, f := range functions() {
			if f.name == s {
				want, is = f.args, true
			}
		}
		if n, ok := word.Given(s); n != want || ok != is {
			t.Fatalf("%.40q: %d %v", s, n, ok)
		}
	}
}

// TestSign: 9.2, the sign of each spelling.
func TestSign(t *testing.T) {
	for _, s := range signs() {
		if n, ok := word.Sign(s.spelling); n != s.number || !ok {
			t.Error(s.spelling, n, ok)
		}
	}
}

// TestSignNone: 9.2, texts that are no spellings: no bytes, marks that are no
// signs, spellings with something behind them, or ahead.
func TestSignNone(t *testing.T) {
	l := append(alone(), ordered()...)
	l = append(l, "", " ", "&", "|", "=!", "=<", "=>", "=+", "++", "--", "**", "//", "%%", "<<", ">>", "<>", "!!", "===", "!==", "&&&", "|||", "&|", "|&", "+ ", " +", "==b", "<=b", "+1", "-1", "!x", "< =", "= =", "& &", "! =", "+\x00", "a", "1", "plus")
	for _, s := range l {
		if n, ok := word.Sign(s); n != 0 || ok {
			t.Errorf("%q: %d %v", s, n, ok)
		}
	}
}

// TestSignTexts: 9.2, of texts of all sorts just the spellings are a sign's.
func TestSignTexts(t *testing.T) {
	for _, s := range texts() {
		want, is := 0, false
		for _, x := range signs() {
			if x.spelling == s {
				want, is = x.number, true
			}
		}
		if n, ok := word.Sign(s); n != want || ok != is {
			t.Fatalf("%.40q: %d %v", s, n, ok)
		}
	}
}

// TestSpell: 9.2, each sign's spelling, which is that sign's.
func TestSpell(t *testing.T) {
	for _, s := range signs() {
		if got := word.Spell(s.number); got != s.spelling {
			t.Error(s.number, got)
		}
		if n, ok := word.Sign(word.Spell(s.number)); n != s.number || !ok {
			t.Error(s.number, n, ok)
		}
	}
}

// TestSpellNone: 9.2, numbers of no sign, below and above.
func TestSpellNone(t *testing.T) {
	for _, n := range none() {
		if got := word.Spell(n); got != "" {
			t.Error(n, got)
		}
	}
}

// TestBind: 9.2, how tightly each sign binds; Not stands between no two.
func TestBind(t *testing.T) {
	for _, s := range signs() {
		if got := word.Bind(s.number); got != s.bind {
			t.Error(s.spelling, got)
		}
	}
}

// TestBindNone: 9.2, numbers of no sign, below and above.
func TestBindNone(t *testing.T) {
	for _, n := range none() {
		if got := word.Bind(n); got != 0 {
			t.Error(n, got)
		}
	}
}

// begun is the longest mark with which a text begins, by the chapter's words.
func begun(s string) string {
	for n := len(s); n > 0; n-- {
		if slices.Contains(marks(), s[:n]) {
			return s[:n]
		}
	}
	return ""
}

// TestMark: 9.3, written out: the longest mark, whatever stands behind it.
func TestMark(t *testing.T) {
	for _, c := range []struct{ s, want string }{
		{"", ""}, {"(", "("}, {"((", "("}, {"()", "("}, {")", ")"}, {"){", ")"}, {"{}", "{"}, {"}}", "}"}, {"[1]", "["}, {"];", "]"}, {",,", ","}, {";;", ";"}, {".x", "."}, {"..", "."},
		{"=", "="}, {"==", "=="}, {"===", "=="}, {"====", "=="}, {"= =", "="}, {"=!", "="}, {"=<", "="}, {"=>", "="}, {"=-1", "="}, {"=\n=", "="},
		{"!", "!"}, {"!=", "!="}, {"!==", "!="}, {"!!", "!"}, {"!!=", "!"}, {"! =", "!"}, {"!x", "!"},
		{"<", "<"}, {"<=", "<="}, {"<==", "<="}, {"<<", "<"}, {"<<=", "<"}, {"<>", "<"}, {"< =", "<"}, {"<-1", "<"},
		{">", ">"}, {">=", ">="}, {">==", ">="}, {">>", ">"}, {"><", ">"}, {">=1", ">="},
		{"&", ""}, {"&&", "&&"}, {"&&&", "&&"}, {"& &", ""}, {"&|", ""}, {"&=", ""}, {"|", ""}, {"||", "||"}, {"|||", "||"}, {"|&", ""}, {"||=", "||"},
		{"+", "+"}, {"++", "+"}, {"+=", "+"}, {"-", "-"}, {"--", "-"}, {"->", "-"}, {"*", "*"}, {"**", "*"}, {"*/", "*"}, {"/", "/"}, {"//", "/"}, {"/=", "/"}, {"%", "%"}, {"%=", "%"},
		{"a", ""}, {"a=", ""}, {"main", ""}, {"1", ""}, {"_", ""}, {" ", ""}, {" =", ""}, {"\t(", ""}, {"\n{", ""}, {"#=", ""}, {"\"", ""}, {"'", ""}, {":", ""}, {"?", ""}, {"@", ""}, {"^", ""}, {"~", ""}, {"`", ""}, {"$", ""}, {"\\", ""},
		{"\x00=", ""}, {"\xff", ""}, {"\u00d7", ""}, {"\u2264", ""}, {"\uff0b", ""}, {"=\xff", "="}, {"==\u0338", "=="}, {"<\x00=", "<"},
	} {
		if got := word.Mark(c.s); got != c.want {
			t.Errorf("%q: %q", c.s, got)
		}
	}
}

// TestMarkEach: 9.3, each mark alone, with whatever byte behind it, and ahead
// of every other one.
func TestMarkEach(t *testing.T) {
	for _, m := range marks() {
		if got := word.Mark(m); got != m {
			t.Errorf("%q: %q", m, got)
		}
		for _, b := range everyByte() {
			want := m
			if strings.Contains(" == != <= >= ", " "+m+b+" ") {
				want = m + b
			}
			if got := word.Mark(m + b); got != want {
				t.Errorf("%q: %q", m+b, got)
			}
		}
		for _, n := range marks() {
			if got, want := word.Mark(m+n), begun(m+n); got != want {
				t.Errorf("%q: %q", m+n, got)
			}
		}
	}
}

// TestMarkShort: 9.3, every byte and every pair of bytes.
func TestMarkShort(t *testing.T) {
	for _, s := range short() {
		want := ""
		switch {
		case s != "" && strings.Contains(" == != <= >= && || ", " "+s+" ") && s[0] != ' ' && len(s) == 2:
			want = s
		case s != "" && strings.IndexByte("(){}[],;.=+-*/%<>!", s[0]) >= 0:
			want = s[:1]
		}
		if got := word.Mark(s); got != want {
			t.Errorf("%q: %q", s, got)
		}
	}
}

// TestMarkRows: 9.3, every row of three of those bytes that marks have, and of
// some others.
func TestMarkRows(t *testing.T) {
	const bytes = "(){}[],;.=+-*/%<>!&| \n#a0_\x00\xff"
	for i := range len(bytes) {
		for j := range len(bytes) {
			for k := range len(bytes) {
				s := string([]byte{bytes[i], bytes[j], bytes[k]})
				if got, want := word.Mark(s), begun(s); got != want {
					t.Errorf("%q: %q", s, got)
				}
			}
		}
	}
}

// TestMarkLong: 9.3, P1, marks with very much behind them, or blanks ahead.
func TestMarkLong(t *testing.T) {
	for _, m := range marks() {
		if got := word.Mark(m + strings.Repeat("a", 1<<20)); got != m {
			t.Errorf("%q: %q", m, got)
		}
		if got := word.Mark(" " + strings.Repeat(m, 1<<18)); got != "" {
			t.Errorf("%q: %q", m, got)
		}
	}
}

// TestApart: 9.1 to 9.3, no text is two of a word, a given function and a
// mark; each spelling is a mark, and each mark a sign's, or one of the others.
func TestApart(t *testing.T) {
	seen := map[string]int{}
	for _, w := range word.All() {
		seen[w]++
	}
	for _, f := range functions() {
		seen[f.name]++
	}
	for _, m := range marks() {
		seen[m]++
	}
	for s, n := range seen {
		if n != 1 {
			t.Error(s, n)
		}
	}
	for n := 1; n <= 14; n++ {
		if s := word.Spell(n); s == "" || word.Mark(s) != s {
			t.Error(strconv.Itoa(n), s)
		}
	}
}
