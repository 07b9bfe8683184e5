package lex_test

import (
	"regexp"
	"slices"
	"strconv"
	"strings"
	"testing"

	"marline/api"
	"marline/lex"
)

// words are the words, given functions those that are none, marks the marks,
// as the chapters write them.
const (
	words = "rec iso fun merge main var if else while return fork join print new by int bool rev true false"
	given = "len fill input inputs"
	marks = "( ) { } [ ] , ; . = + - * / % == != < <= > >= && || !"
)

// most is the greatest number, in digits.
const most = "9223372036854775807"

// name, word, sign, num and end are tokens, moved is one that stands further
// behind; list is a list of tokens, rep a text n times, single one byte.
func name(at int, s string) api.Token     { return api.Token{Kind: 1, At: at, Text: s} }
func num(at, n int, s string) api.Token   { return api.Token{Kind: 2, At: at, N: n, Text: s} }
func word(at int, s string) api.Token     { return api.Token{Kind: 3, At: at, Text: s} }
func sign(at int, s string) api.Token     { return api.Token{Kind: 4, At: at, Text: s} }
func end(at int) api.Token                { return api.Token{Kind: 0, At: at} }
func list(l ...api.Token) []api.Token     { return l }
func rep(s string, n int) string          { return strings.Repeat(s, n) }
func single(b int) string                 { return string([]byte{byte(b)}) }
func moved(by int, t api.Token) api.Token { t.At += by; return t }

// What a text may begin with, as the chapter tells it.
var (
	blankSort  = regexp.MustCompile(`^(?:[ \t\n\r]|#[^\n]*)+`)
	nameSort   = regexp.MustCompile(`^[A-Za-z_][A-Za-z_0-9]*`)
	numberSort = regexp.MustCompile(`^[0-9]+`)
	markSort   = regexp.MustCompile(`^(?:==|!=|<=|>=|&&|\|\||[(){}\[\],;.=+*/%<>!-])`)
)

// cut is what All is to tell, by the chapter's words.
func cut(src string) ([]api.Token, int, api.Errno) {
	if len(src) > 16384 {
		return nil, 16384, api.ErrLong
	}
	var l []api.Token
	rest := src
	for {
		rest = rest[len(blankSort.FindString(rest)):]
		at := len(src) - len(rest)
		if rest == "" {
			return append(l, end(at)), 0, api.OK
		}
		t := api.Token{At: at}
		if s := nameSort.FindString(rest); s != "" {
			if len(s) > 32 {
				return nil, at, api.ErrLong
			}
			t.Kind, t.Text = 1, s
			if slices.Contains(strings.Fields(words), s) {
				t.Kind = 3
			}
		} else if s := numberSort.FindString(rest); s != "" {
			n, err := strconv.ParseInt(s, 10, 64)
			if err != nil {
				return nil, at, api.ErrRange
			}
			t.Kind, t.Text, t.N = 2, s, int(n)
		} else if s := markSort.FindString(rest); s != "" {
			t.Kind, t.Text = 4, s
		} else {
			return nil, at, api.ErrForm
		}
		l = append(l, t)
		rest = rest[len(t.Text):]
	}
}

// holds: does All tell these tokens of a source, and nothing beside them?
func holds(t *testing.T, src string, want ...api.Token) {
	t.Helper()
	if l, at, e := lex.All(src); !slices.Equal(l, want) || at != 0 || e != api.OK {
		t.Errorf("%.60q: %v, %d, %v; want %v", src, l, at, e, want)
	}
}

// fails: does All tell this error at this place, and nothing beside it?
func fails(t *testing.T, src string, at int, e api.Errno) {
	t.Helper()
	if l, gotAt, got := lex.All(src); len(l) != 0 || gotAt != at || got != e {
		t.Errorf("%.60q: %v, %d, %v; want %d, %v", src, l, gotAt, got, at, e)
	}
}

// alike: does All tell what the chapter's words do, and are these tokens told
// again of what is spelled?
func alike(t *testing.T, src string) {
	t.Helper()
	want, at, e := cut(src)
	if e != api.OK {
		fails(t, src, at, e)
		return
	}
	holds(t, src, want...)
	again(t, want)
}

// again: is what is spelled cut into tokens of the same kinds, numbers and
// texts? A source that is too long is none, whatever it is of.
func again(t *testing.T, l []api.Token) {
	t.Helper()
	s := lex.Spell(l)
	if len(s) > api.MaxSrc {
		fails(t, s, api.MaxSrc, api.ErrLong)
		return
	}
	got, at, e := lex.All(s)
	if at != 0 || e != api.OK || len(got) != len(l) {
		t.Fatalf("%.60q: %v, %d, %v", s, got, at, e)
	}
	for i, k := range got {
		if k.Kind != l[i].Kind || k.N != l[i].N || k.Text != l[i].Text {
			t.Errorf("%.60q: %v; want %v", s, k, l[i])
		}
	}
	if lex.Spell(got) != s {
		t.Errorf("%.60q: spelled again %.60q", s, lex.Spell(got))
	}
}

// samples are tokens of each kind, each as it stands alone.
func samples() []api.Token {
	var l []api.Token
	for _, s := range strings.Fields(words) {
		l = append(l, word(0, s))
	}
	for _, s := range strings.Fields(given + " a Z _ x1 __ _1 a_b9Z main2 If iff intx rec_ TRUE fork0 " + rep("q", 32)) {
		l = append(l, name(0, s))
	}
	for _, s := range strings.Fields(marks) {
		l = append(l, sign(0, s))
	}
	return append(l, num(0, 0, "0"), num(0, 7, "7"), num(0, 10, "10"), num(0, 7, "007"), num(0, 1234567890, "1234567890"), num(0, 1<<63-1, most), num(0, 0, rep("0", 40)))
}

// parters are blanks of all kinds, one and several.
func parters() []string {
	return []string{" ", "\t", "\n", "\r", "\r\n", "  ", " \t\n\r ", "#\n", "# # (\x00 \xff 99999999999999999999\n", "\n#\r\n#$\n\t", "#" + rep("x", 40) + "\n"}
}

// none are the bytes with which, alone, nothing begins.
func none() string {
	const some = " \t\n\r#(){}[],;.=+-*/%<>!_0123456789abcdefghijklmnopqrstuvwxyzABCDEFGHIJKLMNOPQRSTUVWXYZ"
	s := ""
	for b := range 256 {
		if !strings.Contains(some, single(b)) {
			s += single(b)
		}
	}
	return s
}

// TestConstants: kinds and limits are those of the document.
func TestConstants(t *testing.T) {
	kinds := []int{api.TokEnd, api.TokName, api.TokNum, api.TokWord, api.TokSign}
	if !slices.Equal(kinds, []int{0, 1, 2, 3, 4}) || api.MaxSrc != 16384 || api.MaxName != 32 {
		t.Error(kinds, api.MaxSrc, api.MaxName)
	}
	if n := len(none()); n != 256-4-1-18-63 {
		t.Error(n)
	}
}

// TestExample: the chapter's (10.1, 10.2).
func TestExample(t *testing.T) {
	holds(t, "x1 = 07; # end", name(0, "x1"), sign(3, "="), num(5, 7, "07"), sign(7, ";"), end(14))
	l, _, _ := lex.All("x1 = 07; # end")
	if s := lex.Spell(l); s != "x1 = 07 ;" {
		t.Error(s)
	}
}

// TestProgram: 10.1, 10.2, one of ordinary programs, over several lines.
func TestProgram(t *testing.T) {
	src := "iso c int by add;\nfun f() { c=c+1; }\r\n\tmain{if a[0]<=1&&!b{print len(x);}} # end\n"
	holds(t, src,
		word(0, "iso"), name(4, "c"), word(6, "int"), word(10, "by"), name(13, "add"), sign(16, ";"),
		word(18, "fun"), name(22, "f"), sign(23, "("), sign(24, ")"), sign(26, "{"), name(28, "c"), sign(29, "="), name(30, "c"), sign(31, "+"), num(32, 1, "1"), sign(33, ";"), sign(35, "}"),
		word(39, "main"), sign(43, "{"), word(44, "if"), name(47, "a"), sign(48, "["), num(49, 0, "0"), sign(50, "]"), sign(51, "<="), num(53, 1, "1"), sign(54, "&&"), sign(56, "!"), name(57, "b"), sign(58, "{"),
		word(59, "print"), name(65, "len"), sign(68, "("), name(69, "x"), sign(70, ")"), sign(71, ";"), sign(72, "}"), sign(73, "}"), end(81))
	l, _, _ := lex.All(src)
	if s := lex.Spell(l); s != "iso c int by add ; fun f ( ) { c = c + 1 ; } main { if a [ 0 ] <= 1 && ! b { print len ( x ) ; } }" {
		t.Error(s)
	}
	alike(t, src)
}

// TestEmpty: 10.1, of no bytes there is the last token alone, at 0.
func TestEmpty(t *testing.T) {
	holds(t, "", end(0))
	alike(t, "")
}

// TestBlanks: 10.1, blanks alone, of each kind and of all of them, in any
// number: the last token stands at the end, not where they begin.
func TestBlanks(t *testing.T) {
	for _, s := range []string{" ", "\t", "\n", "\r", "#", "#\n", "# ", "##", "#\r", "#\r\n", "# a", "#a\n", "#a\n#b", "#a\n#b\n", " #", "\n#", "# main { }\n", "#\x00\xff$\n", " \t\n\r", "\r\n\r\n", " \t \n#( 1 x\n\r #", "#" + rep("x", 100), "#99999999999999999999"} {
		holds(t, s, end(len(s)))
		holds(t, rep(s, 3), end(3*len(s)))
	}
	for _, a := range parters() {
		for _, b := range parters() {
			holds(t, a+b, end(len(a+b)))
		}
	}
}

// TestNoBlanks: 10.1, bytes that part lines or words elsewhere are none here.
func TestNoBlanks(t *testing.T) {
	for _, s := range []string{"\v", "\f", "\x00", "\b", "\x1b", "\x7f", "\u0085", "\u00a0", "\u2028", "\u3000", "\ufeff", "\x85", "\xa0", "\\\n", ":", "'"} {
		fails(t, s, 0, api.ErrForm)
		fails(t, "a"+s+"b", 1, api.ErrForm)
		fails(t, "a "+s+" b", 2, api.ErrForm)
		holds(t, "#"+s+"\na", name(len(s)+2, "a"), end(len(s)+3))
	}
}

// TestComments: 10.1, from a # up to the next line feed, or to the end, in
// front, between two tokens and behind, with or without blanks ahead.
func TestComments(t *testing.T) {
	holds(t, "#\na", name(2, "a"), end(3))
	holds(t, "#c\na", name(3, "a"), end(4))
	holds(t, "#c\n\na", name(4, "a"), end(5))
	holds(t, "#c\r a", end(5))
	holds(t, "#c\ta", end(4))
	holds(t, "a#", name(0, "a"), end(2))
	holds(t, "a#b", name(0, "a"), end(3))
	holds(t, "a#b\n", name(0, "a"), end(4))
	holds(t, "a#b\nb", name(0, "a"), name(4, "b"), end(5))
	holds(t, "a#\nb", name(0, "a"), name(3, "b"), end(4))
	holds(t, "1#2\n3", num(0, 1, "1"), num(4, 3, "3"), end(5))
	holds(t, "=#=\n=", sign(0, "="), sign(4, "="), end(5))
	holds(t, "if#else\nif", word(0, "if"), word(8, "if"), end(10))
	holds(t, "a # b # c\n # d\n # e\n b # f", name(0, "a"), name(21, "b"), end(26))
	holds(t, "#a\nb\n#c\nd", name(3, "b"), name(8, "d"), end(9))
	holds(t, "a#"+none()+rep("x", 50)+rep("9", 50)+"\nb", name(0, "a"), name(103+len(none()), "b"), end(104+len(none())))
	fails(t, "#a\n$", 3, api.ErrForm)
	fails(t, "a#$\n$#", 4, api.ErrForm)
}

// TestAlone: 10.1, each token alone, behind blanks, ahead of them, and with
// others of its kind.
func TestAlone(t *testing.T) {
	for _, k := range samples() {
		n := len(k.Text)
		holds(t, k.Text, k, end(n))
		alike(t, k.Text+k.Text+k.Text)
		for _, p := range parters() {
			holds(t, p+k.Text, moved(len(p), k), end(len(p)+n))
			holds(t, k.Text+p, k, end(n+len(p)))
			holds(t, p+k.Text+p+k.Text+p, moved(len(p), k), moved(2*len(p)+n, k), end(3*len(p)+2*n))
		}
		holds(t, k.Text+"#"+k.Text, k, end(2*n+1))
		again(t, list(k, end(n)))
	}
}

// TestParted: 10.1, 10.3, any two tokens, with blanks of each kind between.
func TestParted(t *testing.T) {
	for _, a := range samples() {
		for _, b := range samples() {
			for _, p := range parters() {
				at := len(a.Text) + len(p)
				holds(t, a.Text+p+b.Text, a, moved(at, b), end(at+len(b.Text)))
			}
			again(t, list(a, b, end(0)))
		}
	}
}

// TestBeside: 10.1, any two tokens, and any three of some, with nothing
// between.
func TestBeside(t *testing.T) {
	for _, a := range samples() {
		for _, b := range samples() {
			alike(t, a.Text+b.Text)
		}
	}
	some := strings.Fields("a if x1 7 00 ( } = == < <= ! != && || - . _ true Z9")
	for _, a := range some {
		for _, b := range some {
			for _, c := range some {
				alike(t, a+b+c)
			}
		}
	}
}

// TestNames: 10.1, letters and digits that follow at once are a name's, all of
// them; a digit begins a number, and what follows it is a name.
func TestNames(t *testing.T) {
	for _, s := range strings.Fields("a z A Z _ __ a1 a0 a9 _0 x_y X_9_y abc ABC aBc a1b2c3 o0O l1I main_ e10 x0f") {
		holds(t, s, name(0, s), end(len(s)))
		holds(t, "("+s+")", sign(0, "("), name(1, s), sign(len(s)+1, ")"), end(len(s)+2))
	}
	for b := range 256 {
		alike(t, "a"+single(b)+"b")
		alike(t, "_"+single(b))
		alike(t, single(b)+"Z")
	}
	holds(t, "a b", name(0, "a"), name(2, "b"), end(3))
	holds(t, "a.b", name(0, "a"), sign(1, "."), name(2, "b"), end(3))
	holds(t, "a-b", name(0, "a"), sign(1, "-"), name(2, "b"), end(3))
	fails(t, "a\u00e9", 1, api.ErrForm)
	fails(t, "\u0430", 0, api.ErrForm)
	fails(t, "a$", 1, api.ErrForm)
	fails(t, "a'", 1, api.ErrForm)
}

// TestWords: 10.1, words as they are written, whole; names that have a word
// in them are none, and given functions are none.
func TestWords(t *testing.T) {
	for _, s := range strings.Fields(words) {
		n := len(s)
		holds(t, s, word(0, s), end(n))
		holds(t, s+" "+s, word(0, s), word(n+1, s), end(2*n+1))
		holds(t, s+"("+s, word(0, s), sign(n, "("), word(n+1, s), end(2*n+1))
		holds(t, "7"+s, num(0, 7, "7"), word(1, s), end(n+1))
		for _, k := range []string{s + "x", s + "1", s + "_", "x" + s, "_" + s, s + s, s + "main", strings.ToUpper(s), strings.ToUpper(s[:1]) + s[1:], s[:n-1] + strings.ToUpper(s[n-1:]), s + "9a"} {
			holds(t, k, name(0, k), end(len(k)))
		}
	}
	for _, s := range strings.Fields(given) {
		holds(t, s, name(0, s), end(len(s)))
		holds(t, s+"(", name(0, s), sign(len(s), "("), end(len(s)+1))
	}
}

// TestNumbers: 10.1, noughts ahead don't matter to the number, and stand in
// the text; what is no digit is not the number's.
func TestNumbers(t *testing.T) {
	for i, s := range strings.Fields("0 1 2 3 4 5 6 7 8 9 10 11 12") {
		holds(t, s, num(0, i, s), end(len(s)))
		holds(t, "0"+s, num(0, i, "0"+s), end(len(s)+1))
		holds(t, rep("0", 1000)+s, num(0, i, rep("0", 1000)+s), end(len(s)+1000))
	}
	holds(t, "00", num(0, 0, "00"), end(2))
	holds(t, "08", num(0, 8, "08"), end(2))
	holds(t, "12ab", num(0, 12, "12"), name(2, "ab"), end(4))
	holds(t, "1x2", num(0, 1, "1"), name(1, "x2"), end(3))
	holds(t, "1_000", num(0, 1, "1"), name(1, "_000"), end(5))
	holds(t, "0x1F", num(0, 0, "0"), name(1, "x1F"), end(4))
	holds(t, "0b1", num(0, 0, "0"), name(1, "b1"), end(3))
	holds(t, "1e5", num(0, 1, "1"), name(1, "e5"), end(3))
	holds(t, "1.5", num(0, 1, "1"), sign(1, "."), num(2, 5, "5"), end(3))
	holds(t, "-5", sign(0, "-"), num(1, 5, "5"), end(2))
	holds(t, "+5", sign(0, "+"), num(1, 5, "5"), end(2))
	holds(t, "1 2", num(0, 1, "1"), num(2, 2, "2"), end(3))
	holds(t, "1true", num(0, 1, "1"), word(1, "true"), end(5))
	fails(t, "1\u0662", 1, api.ErrForm)
	fails(t, "\uff11", 0, api.ErrForm)
}

// TestNumbersEdge: 10.1, the greatest number, and those just above, however
// many noughts are ahead, and those that go round.
func TestNumbersEdge(t *testing.T) {
	for _, ahead := range []string{"", "0", rep("0", 500)} {
		for i, s := range []string{"9223372036854775807", "9223372036854775806", "9223372036854775800", "8999999999999999999", "9223372036854775799", "9199999999999999999"} {
			n := []int{1<<63 - 1, 1<<63 - 2, 1<<63 - 8, 8999999999999999999, 1<<63 - 9, 9199999999999999999}[i]
			holds(t, ahead+s, num(0, n, ahead+s), end(len(ahead)+19))
			holds(t, "("+ahead+s+"a", sign(0, "("), num(1, n, ahead+s), name(len(ahead)+20, "a"), end(len(ahead)+21))
		}
		for _, s := range []string{"9223372036854775808", "9223372036854775809", "9223372036854775810", "9300000000000000000", "9999999999999999999", "10000000000000000000", "18446744073709551615", "18446744073709551616", "18446744073709551617", "92233720368547758070", rep("9", 100), rep("1", 15000)} {
			fails(t, ahead+s, 0, api.ErrRange)
			fails(t, "x = "+ahead+s+";", 4, api.ErrRange)
			fails(t, "-"+ahead+s+"a", 1, api.ErrRange)
			fails(t, "a\n"+ahead+s, 2, api.ErrRange)
		}
	}
	holds(t, rep("0", 16384), num(0, 0, rep("0", 16384)), end(16384))
	holds(t, rep("0", 16365)+most, num(0, 1<<63-1, rep("0", 16365)+most), end(16384))
	fails(t, rep("9", 16384), 0, api.ErrRange)
}

// TestMarks: 10.1, the longest mark that stands there, from the left on.
func TestMarks(t *testing.T) {
	for src, texts := range map[string]string{
		"===": "== =", "====": "== ==", "= =": "= =", "=#\n=": "= =", "!==": "!= =", "!!=": "! !=", "!=!": "!= !", "=!=": "= !=", "==!": "== !",
		"<==": "<= =", "<<=": "< <=", "<=>": "<= >", "<>": "< >", "><": "> <", ">==": ">= =", ">>=": "> >=", ">=<=": ">= <=", "=<": "= <", "=>": "= >", "=>=": "= >=",
		"&&&&": "&& &&", "||||": "|| ||", "&&||": "&& ||", "||!": "|| !", "&&!=": "&& !=", "++": "+ +", "--": "- -", "->": "- >", "-=": "- =", "+=": "+ =", "//": "/ /", "/*": "/ *", "**": "* *", "%%": "% %",
		"()": "( )", "(){}[]": "( ) { } [ ]", ",,;;..": ", , ; ; . .", "..=": ". . =", "[]=": "[ ] =", "!(": "! (", "(<=)": "( <= )", "=-1": "= - 1", "<-1": "< - 1", "a<=b": "a <= b", "a!=b": "a != b", "!a": "! a", "a=!b": "a = ! b", "f(-1)": "f ( - 1 )", "x.y[1]=2;": "x . y [ 1 ] = 2 ;",
	} {
		l, at, e := lex.All(src)
		if lex.Spell(l) != texts || at != 0 || e != api.OK {
			t.Errorf("%q: %q, %d, %v", src, lex.Spell(l), at, e)
		}
		alike(t, src)
	}
}

// TestHalfMarks: 10.1, & and | alone are no marks, wherever they stand.
func TestHalfMarks(t *testing.T) {
	for src, at := range map[string]int{"&": 0, "|": 0, "& &": 0, "| |": 0, "&|": 0, "|&": 0, "&=": 0, "|=": 0, "&&&": 2, "|||": 2, "&&|": 2, "||&": 2, "&&&&&": 4, "a&b": 1, "a &b": 2, "a&": 1, "a|b": 1, "a||": -1, "a&&": -1, "&#\n&": 0, "x==&": 3, "(|)": 1, "&\n&": 0} {
		if at < 0 {
			alike(t, src)
			continue
		}
		fails(t, src, at, api.ErrForm)
	}
}

// TestRows: 10.1, 10.3, every row of three of a mark's bytes, and of some
// others.
func TestRows(t *testing.T) {
	const bytes = "(){}[],;.=+-*/%<>!&| \n\r\t#a0_Z9$\x00\xff"
	for i := range len(bytes) {
		for j := range len(bytes) {
			for k := range len(bytes) {
				alike(t, string([]byte{bytes[i], bytes[j], bytes[k]}))
			}
		}
	}
}

// TestShort: 10.1, 10.3, all texts of up to two bytes, and all of up to seven
// bytes of which each begins, or ends, something else.
func TestShort(t *testing.T) {
	for a := range 256 {
		alike(t, single(a))
		for b := range 256 {
			alike(t, single(a)+single(b))
		}
	}
	row := []string{""}
	for range 7 {
		var longer []string
		for _, s := range row {
			longer = append(longer, s+"a", s+"0", s+"=", s+"&", s+"\n", s+"#")
		}
		for _, s := range longer {
			alike(t, s)
		}
		row = longer
	}
}

// TestNameLong: 10.1, a name of MaxName bytes is one, a longer one is none,
// whatever letters and digits it has, wherever it stands.
func TestNameLong(t *testing.T) {
	for _, s := range []string{rep("a", 32), rep("Z", 32), rep("_", 32), "a" + rep("1", 31), rep("main", 8), rep("ab_9", 8), "input" + rep("s", 27), "_" + rep("0", 30) + "z"} {
		holds(t, s, name(0, s), end(32))
		holds(t, "-"+s+"-", sign(0, "-"), name(1, s), sign(33, "-"), end(34))
		holds(t, s+" "+s, name(0, s), name(33, s), end(65))
		holds(t, s+"#"+s, name(0, s), end(65))
		holds(t, "12"+s, num(0, 12, "12"), name(2, s), end(34))
		for _, more := range []string{"a", "Z", "_", "0", "9", "aa", rep("a", 32), rep("7", 1000), rep("b", 15000)} {
			fails(t, s+more, 0, api.ErrLong)
			fails(t, s+more+" ", 0, api.ErrLong)
			fails(t, "ab "+s+more+";", 3, api.ErrLong)
			fails(t, "#\n\n"+s+more, 3, api.ErrLong)
			fails(t, "1"+s+more, 1, api.ErrLong)
			fails(t, s+"="+s+more, 33, api.ErrLong)
			holds(t, "#"+s+more, end(33+len(more)))
		}
	}
	holds(t, rep(" ", 16352)+rep("a", 32), name(16352, rep("a", 32)), end(16384))
	fails(t, rep(" ", 16351)+rep("a", 33), 16351, api.ErrLong)
	fails(t, rep("a", 16384), 0, api.ErrLong)
}

// wholes are sources of a number of bytes, of all sorts: right ones and wrong
// ones.
func wholes(n int) []string {
	l := []string{"#" + rep("x", n-1), "#" + rep("$", n-1), rep("a", n), rep("9", n), rep("0", n), rep("$", n), "$" + rep(" ", n-1), rep(" ", n-1) + "$", rep("\x00", n), rep("\xff", n), rep(" ", n-1) + "#", rep(" ", n-33) + rep("a", 33), rep("1", 20) + rep(" ", n-20), rep(" ", n-2) + "==", rep(" ", n-1) + "&"}
	for _, s := range []string{" ", "\t", "\n", "\r", "a ", "1 ", "a\n", "=", "==", "if ", "(", "!=", "x1=07;", "#\n", "# x\n", "1a ", "\r\n"} {
		l = append(l, rep(s, n)[:n])
	}
	return l
}

// TestSourceLong: 10.1, a source of MaxSrc bytes is one; of one that has more,
// whatever it holds, that alone is told, at MaxSrc.
func TestSourceLong(t *testing.T) {
	for n := api.MaxSrc - 2; n <= api.MaxSrc; n++ {
		for _, src := range wholes(n) {
			alike(t, src)
		}
	}
	for _, n := range []int{api.MaxSrc + 1, api.MaxSrc + 2, 2 * api.MaxSrc, 1 << 16, 1 << 20} {
		for _, src := range wholes(n) {
			fails(t, src, 16384, api.ErrLong)
		}
	}
	holds(t, rep(" ", 16384), end(16384))
	l, at, e := lex.All(rep("(", 16384))
	if len(l) != 16385 || at != 0 || e != api.OK || l[16383] != sign(16383, "(") || l[16384] != end(16384) {
		t.Error(len(l), at, e)
	}
}

// TestNothing: 10.1, each byte with which nothing begins, and its place:
// alone, at both ends, between tokens and beside them, with blanks ahead.
func TestNothing(t *testing.T) {
	bytes := none()
	for i := range len(bytes) {
		s := bytes[i : i+1]
		fails(t, s, 0, api.ErrForm)
		fails(t, s+" a", 0, api.ErrForm)
		fails(t, "a "+s, 2, api.ErrForm)
		fails(t, "a"+s, 1, api.ErrForm)
		fails(t, "12"+s, 2, api.ErrForm)
		fails(t, "<"+s, 1, api.ErrForm)
		fails(t, "=="+s+"b", 2, api.ErrForm)
		fails(t, "if"+s+"b", 2, api.ErrForm)
		fails(t, "a "+s+" b", 2, api.ErrForm)
		fails(t, " \t\r\n#x\n"+s, 7, api.ErrForm)
		fails(t, "x = 1;\n"+s+"\n", 7, api.ErrForm)
		fails(t, rep(" ", 16383)+s, 16383, api.ErrForm)
		holds(t, "#"+s, end(2))
		holds(t, "a#"+s+"\nb", name(0, "a"), name(4, "b"), end(5))
	}
}

// TestFirst: 10.1, of several errors that from the left is told, with no
// tokens, whatever comes ahead of it, or behind.
func TestFirst(t *testing.T) {
	errors := []struct {
		text string
		e    api.Errno
	}{{rep("a", 33), api.ErrLong}, {rep("x1", 500), api.ErrLong}, {"9223372036854775808", api.ErrRange}, {rep("7", 40), api.ErrRange}, {"$", api.ErrForm}, {"\x00", api.ErrForm}, {"\xff", api.ErrForm}, {"&", api.ErrForm}, {"|", api.ErrForm}}
	for _, a := range errors {
		for _, b := range errors {
			for _, p := range parters() {
				fails(t, a.text+p+b.text, 0, a.e)
				fails(t, "ok(1)"+p+a.text+p+b.text+p+a.text, 5+len(p), a.e)
			}
			fails(t, a.text+";"+b.text, 0, a.e)
			fails(t, "#"+b.text+"\n"+a.text+" "+b.text, len(b.text)+2, a.e)
		}
		fails(t, a.text+rep(" ", 16384), 16384, api.ErrLong)
	}
	fails(t, "99999999999999999999"+rep("a", 33), 0, api.ErrRange)
	fails(t, rep("a", 33)+"$", 0, api.ErrLong)
	fails(t, "$"+rep("a", 33), 0, api.ErrForm)
	fails(t, "1"+rep("a", 33)+"$", 1, api.ErrLong)
}

// TestMixed: 10.1, 10.3, long sources of tokens and blanks in many orders,
// with an error now and then.
func TestMixed(t *testing.T) {
	pieces := append(parters(), "", "", " ", "\n")
	for _, k := range samples() {
		pieces = append(pieces, k.Text)
	}
	seed := uint64(1)
	next := func(n int) int {
		seed = seed*6364136223846793005 + 1442695040888963407
		return int(seed >> 33 % uint64(n))
	}
	for i := range 4000 {
		var b strings.Builder
		for range next(60) {
			b.WriteString(pieces[next(len(pieces))])
			if next(3) > 0 {
				b.WriteString(pieces[next(14)])
			}
			if i%4 == 0 && next(40) == 0 {
				b.WriteString([]string{"&", "$", rep("b", 33), rep("8", 20)}[next(4)])
			}
		}
		alike(t, b.String())
	}
}

// TestPlaces: 10.1, each token is what stands at its place, what lies between
// two is blanks, and the last token stands at the end.
func TestPlaces(t *testing.T) {
	for _, src := range append(wholes(500), "a", "a # b", " main { print 1 ; } ", "x=1;#\r\n\ty==2;\n#") {
		l, _, e := lex.All(src)
		if e != api.OK {
			continue
		}
		behind := 0
		for i, k := range l {
			if k.At < behind || src[k.At:k.At+len(k.Text)] != k.Text || (k.Kind == api.TokEnd) != (i == len(l)-1) || (k.Text == "") != (i == len(l)-1) {
				t.Fatalf("%.60q: %v", src, k)
			}
			if blankSort.FindString(src[behind:k.At]) != src[behind:k.At] {
				t.Fatalf("%.60q: %q is left out", src, src[behind:k.At])
			}
			behind = k.At + len(k.Text)
		}
		if behind != len(src) {
			t.Fatalf("%.60q: ends at %d", src, behind)
		}
	}
}

// TestNew: 10.1, the tokens are in new memory: what is written into them, or
// behind them, changes no other answer, ahead or later.
func TestNew(t *testing.T) {
	for _, src := range []string{"", "a", "if x == 07 { }", "# b"} {
		want, _, _ := cut(src)
		before, _, _ := lex.All(src)
		mine, _, _ := lex.All(src)
		whole := mine[:cap(mine)]
		for i := range whole {
			whole[i] = sign(99, "$")
		}
		if !slices.Equal(before, want) {
			t.Errorf("%q: %v", src, before)
		}
		holds(t, src, want...)
	}
}

// TestSpell: 10.2, one blank between any two, and none at the ends; tokens of
// the kind TokEnd are left out with theirs, wherever they stand.
func TestSpell(t *testing.T) {
	a, b, c := name(0, "a"), num(7, 7, "07"), sign(3, "==")
	for _, x := range []struct {
		l    []api.Token
		want string
	}{
		{nil, ""}, {list(), ""}, {list(end(0)), ""}, {list(end(0), end(5), end(0)), ""},
		{list(a), "a"}, {list(b), "07"}, {list(c), "=="}, {list(word(0, "if")), "if"},
		{list(a, a), "a a"}, {list(a, b), "a 07"}, {list(b, a), "07 a"}, {list(c, c), "== =="}, {list(a, b, c), "a 07 =="}, {list(c, b, a, b), "== 07 a 07"},
		{list(a, end(1)), "a"}, {list(end(1), a), "a"}, {list(end(0), a, end(1)), "a"}, {list(a, end(1), b), "a 07"}, {list(a, end(1), end(1), b), "a 07"},
		{list(end(0), end(0), a, end(1), b, end(0), c, end(0), end(0)), "a 07 =="}, {list(end(0), a, b), "a 07"}, {list(a, b, end(0)), "a 07"},
	} {
		if got := lex.Spell(x.l); got != x.want {
			t.Errorf("%v: %q; want %q", x.l, got, x.want)
		}
	}
}

// TestSpellAny: 10.2, tokens that no source has: the kind TokEnd alone counts,
// and texts stand as they are.
func TestSpellAny(t *testing.T) {
	for _, kind := range []int{-1 << 63, -4, -1, 1, 2, 3, 4, 5, 8, 256, 1 << 32, 1<<63 - 1} {
		k := api.Token{Kind: kind, At: -3, N: 12, Text: "x"}
		if got := lex.Spell(list(k, end(2), k)); got != "x x" {
			t.Error(kind, got)
		}
	}
	for _, x := range []struct {
		l    []api.Token
		want string
	}{
		{list(api.Token{Text: "gone"}), ""}, {list(api.Token{Text: "gone"}, name(0, "a"), api.Token{Text: "gone", N: 4}), "a"},
		{list(name(0, "")), ""}, {list(name(0, ""), name(0, "")), " "}, {list(name(0, ""), name(0, "a")), " a"}, {list(name(0, "a"), sign(0, "")), "a "}, {list(name(0, "a"), num(0, 5, ""), name(0, "b")), "a  b"},
		{list(num(0, 8, "7")), "7"}, {list(num(0, 8, ""), num(0, 9, "x")), " x"}, {list(name(0, "a b"), name(0, " "), name(0, "#\n")), "a b   #\n"}, {list(sign(0, "\x00"), word(0, "\xff")), "\x00 \xff"},
	} {
		if got := lex.Spell(x.l); got != x.want {
			t.Errorf("%v: %q; want %q", x.l, got, x.want)
		}
	}
}

// TestSpellLong: 10.2, very many tokens, and very long texts.
func TestSpellLong(t *testing.T) {
	many := slices.Repeat(list(name(0, "ab"), end(3), sign(0, "(")), 200000)
	if got := lex.Spell(many); got != strings.TrimSpace(rep("ab ( ", 200000)) {
		t.Error(len(got))
	}
	if got := lex.Spell(list(name(0, rep("a", 1<<20)), end(0), name(0, rep("b", 1<<20)))); got != rep("a", 1<<20)+" "+rep("b", 1<<20) {
		t.Error(len(got))
	}
}

// TestSpellKeeps: 10.2, the list that is handed in, and what lies behind its
// members, stays as it was.
func TestSpellKeeps(t *testing.T) {
	row := list(end(0), name(0, "a"), end(4), num(2, 7, "07"), sign(5, ";"), end(9))
	kept := slices.Clone(row)
	if got := lex.Spell(row[:4]); got != "a 07" || !slices.Equal(row, kept) {
		t.Error(got, row)
	}
}

// TestSpelledAgain: 10.3, what a source spells is cut into the same tokens,
// which are spelled likewise; if it has more than MaxSrc bytes, it is too long.
func TestSpelledAgain(t *testing.T) {
	for src, want := range map[string]string{"": "", "# a": "", "a": "a", "12ab": "12 ab", "a<==b#c\nd": "a <= = b d", "\tmain{print-1;}\n": "main { print - 1 ; }", "007 x": "007 x", "= =": "= =", "==": "==", "!!=": "! !="} {
		l, _, _ := lex.All(src)
		if got := lex.Spell(l); got != want {
			t.Errorf("%q: %q", src, got)
		}
		again(t, l)
	}
	for _, n := range []int{8191, 8192, 8193, 16384} {
		l, _, _ := lex.All(rep("(", n))
		if got := lex.Spell(l); len(got) != 2*n-1 {
			t.Error(n, len(got))
		}
		again(t, l)
	}
}
