package parse_test

import (
	"testing"

	"marline/api"
	"marline/parse"
)

// wrong are sources that are not read, with a mark at the place that is told, and
// the error there: those of lex, those of nest, and those of form.
var wrong = []struct {
	line, src string
	why       api.Errno
}{
	// What no token begins with.
	{"prog", "»&", api.ErrForm},
	{"prog", "»|", api.ErrForm},
	{"prog", "main { x = a »& b; }", api.ErrForm},
	{"prog", "main { x = a »| b; }", api.ErrForm},
	{"prog", "main { } »@", api.ErrForm},
	{"prog", "main { »$ }", api.ErrForm},
	{"prog", "main »\\ { }", api.ErrForm},
	{"prog", "main { print »\"a\"; }", api.ErrForm},
	{"prog", "main {\n»'a' }", api.ErrForm},
	{"prog", "»\x00main { }", api.ErrForm},
	{"prog", "main { }»\x00", api.ErrForm},
	{"prog", "»\xef\xbb\xbfmain { }", api.ErrForm},
	{"prog", "main { print m»\u00e4; }", api.ErrForm},
	{"prog", "main { »/* a */ }", api.ErrForm},
	{"prog", "main { } »// a", api.ErrForm},
	{"prog", "main»\v{ }", api.ErrForm},
	{"prog", "main { a &&»& b; }", api.ErrForm},
	{"prog", "main { »? }", api.ErrForm},
	{"prog", "main {\n} »~ ~ ~", api.ErrForm},
	{"prog", "main { x »:= 1; }", api.ErrForm},
	{"expr", "»&", api.ErrForm},
	{"expr", "a »& b", api.ErrForm},
	{"expr", "a &&»& b", api.ErrForm},
	{"expr", "a || »| b", api.ErrForm},
	{"expr", "1»\u00e4", api.ErrForm},
	{"expr", "a\n + »'b'", api.ErrForm},
	{"expr", "a »^ b", api.ErrForm},
	{"expr", "a»\f", api.ErrForm},
	{"expr", "a # b\n »`c`", api.ErrForm},
	{"expr", "»~a", api.ErrForm},
	// Numbers that are out of range, names that are too long.
	{"prog", "main { x = »9223372036854775808; }", api.ErrRange},
	{"prog", "iso x[»18446744073709551616] int; main { }", api.ErrRange},
	{"prog", "main { x = 1; y =\n»99999999999999999999; }", api.ErrRange},
	{"prog", "main { print -»9223372036854775808; }", api.ErrRange},
	{"prog", "main { } »9223372036854775808", api.ErrRange},
	{"prog", "»00009223372036854775808", api.ErrRange},
	{"expr", "»9223372036854775808", api.ErrRange},
	{"expr", "-»9223372036854775808", api.ErrRange},
	{"expr", "f(1, »10000000000000000000, 2)", api.ErrRange},
	{"expr", "1 + »9223372036854775808a", api.ErrRange},
	{"prog", "main { »aaaaaaaaaaaaaaaaaaaaaaaaaaaaaaaaa = 1; }", api.ErrLong},
	{"prog", "fun »f23456789012345678901234567890123() { } main { }", api.ErrLong},
	{"prog", "main { } »_23456789012345678901234567890123", api.ErrLong},
	{"prog", "»mainnnnnnnnnnnnnnnnnnnnnnnnnnnnnn { }", api.ErrLong},
	{"expr", "»aaaaaaaaaaaaaaaaaaaaaaaaaaaaaaaaa", api.ErrLong},
	{"expr", "a.b\n.»B23456789012345678901234567890123", api.ErrLong},
	{"expr", "f(»f23456789012345678901234567890123(), 1)", api.ErrLong},
	// Programs that end too early.
	{"prog", "»", api.ErrForm},
	{"prog", "main»", api.ErrForm},
	{"prog", "main {»", api.ErrForm},
	{"prog", "main { x = 1; »", api.ErrForm},
	{"prog", "main { { }\n»", api.ErrForm},
	{"prog", "iso x int;»", api.ErrForm},
	{"prog", "fun f() { }\n\n»", api.ErrForm},
	{"prog", "fun f(a int, »", api.ErrForm},
	{"prog", "rec P { a int; »", api.ErrForm},
	{"prog", "merge m(a int, b int »", api.ErrForm},
	{"prog", "main { if a { } else »", api.ErrForm},
	{"prog", "main { while a »", api.ErrForm},
	{"prog", "main { x = a + »", api.ErrForm},
	{"prog", "main { f(a # b »", api.ErrForm},
	{"prog", "main { return»", api.ErrForm},
	{"prog", "iso x int by»", api.ErrForm},
	{"prog", "main { x[1»", api.ErrForm},
	// Programs that go on wrongly, with tokens behind.
	{"prog", "»; main { }", api.ErrForm},
	{"prog", "»}", api.ErrForm},
	{"prog", "»x = 1;", api.ErrForm},
	{"prog", "»{ }", api.ErrForm},
	{"prog", "»7", api.ErrForm},
	{"prog", "»var a = 1; main { }", api.ErrForm},
	{"prog", "main »( ) { }", api.ErrForm},
	{"prog", "main { }»;", api.ErrForm},
	{"prog", "main { } »main { }", api.ErrForm},
	{"prog", "main { } »iso x int;", api.ErrForm},
	{"prog", "main { } »}", api.ErrForm},
	{"prog", "main { } »x", api.ErrForm},
	{"prog", "main { } »7 x", api.ErrForm},
	{"prog", "main { x»; }", api.ErrForm},
	{"prog", "main {\n  x = 1\n»}", api.ErrForm},
	{"prog", "main { x = »; }", api.ErrForm},
	{"prog", "main { x = a »b; }", api.ErrForm},
	{"prog", "main { x = a < b »< c; }", api.ErrForm},
	{"prog", "main { x »== 1; }", api.ErrForm},
	{"prog", "main { »1 = 1; }", api.ErrForm},
	{"prog", "main { f()»[1] = 1; }", api.ErrForm},
	{"prog", "main { f(a,»); }", api.ErrForm},
	{"prog", "main { f(a »b); }", api.ErrForm},
	{"prog", "main { x.»1 = 1; }", api.ErrForm},
	{"prog", "main { x[»] = 1; }", api.ErrForm},
	{"prog", "main { x = (1»]; }", api.ErrForm},
	{"prog", "main { var »1 = 2; }", api.ErrForm},
	{"prog", "main { var a»; }", api.ErrForm},
	{"prog", "main { var »int = 2; }", api.ErrForm},
	{"prog", "main { if »{ } }", api.ErrForm},
	{"prog", "main { if a »x = 1; }", api.ErrForm},
	{"prog", "main { if a { } else »x = 1; }", api.ErrForm},
	{"prog", "main { »else { } }", api.ErrForm},
	{"prog", "main { while »{ } }", api.ErrForm},
	{"prog", "main { return »} ", api.ErrForm},
	{"prog", "main { return »int; }", api.ErrForm},
	{"prog", "main { join »1; }", api.ErrForm},
	{"prog", "main { join h»[0]; }", api.ErrForm},
	{"prog", "main { print »; }", api.ErrForm},
	{"prog", "main { print 1 »2; }", api.ErrForm},
	{"prog", "main { »rec P { a int; } }", api.ErrForm},
	{"prog", "main { »; }", api.ErrForm},
	{"prog", "main { »fork f(); }", api.ErrForm},
	{"prog", "rec P { »} main { }", api.ErrForm},
	{"prog", "rec P { a »; } main { }", api.ErrForm},
	{"prog", "rec »1 { a int; } main { }", api.ErrForm},
	{"prog", "rec P { a int»} main { }", api.ErrForm},
	{"prog", "iso x[»0] int; main { }", api.ErrForm},
	{"prog", "iso x[»a] int; main { }", api.ErrForm},
	{"prog", "iso x »= 1; main { }", api.ErrForm},
	{"prog", "iso x int by »1; main { }", api.ErrForm},
	{"prog", "iso x int »main { }", api.ErrForm},
	{"prog", "iso x [][»3]int; main { }", api.ErrForm},
	{"prog", "fun f »{ } main { }", api.ErrForm},
	{"prog", "fun »main() { }", api.ErrForm},
	{"prog", "fun f(»int a) { } main { }", api.ErrForm},
	{"prog", "fun f() »; main { }", api.ErrForm},
	{"prog", "fun f() { } »; main { }", api.ErrForm},
	{"prog", "merge m(a int, b int») { } main { }", api.ErrForm},
	{"prog", "merge m(a int, b int, c int) { }»", api.ErrForm},
	{"prog", "merge m(a int, b int, c int) »int { } main { }", api.ErrForm},
	{"prog", "merge m(a int, b int, c int», d int) { } main { }", api.ErrForm},
	// Expressions that end too early.
	{"expr", "»", api.ErrForm},
	{"expr", "a +»", api.ErrForm},
	{"expr", "a +  »", api.ErrForm},
	{"expr", "-»", api.ErrForm},
	{"expr", "!\n»", api.ErrForm},
	{"expr", "(»", api.ErrForm},
	{"expr", "(a»", api.ErrForm},
	{"expr", "a[»", api.ErrForm},
	{"expr", "a[1»", api.ErrForm},
	{"expr", "a.»", api.ErrForm},
	{"expr", "f(»", api.ErrForm},
	{"expr", "f(a,»", api.ErrForm},
	{"expr", "fork»", api.ErrForm},
	{"expr", "fork f»", api.ErrForm},
	{"expr", "new»", api.ErrForm},
	{"expr", "new P»", api.ErrForm},
	{"expr", "new []»", api.ErrForm},
	{"expr", "new [»", api.ErrForm},
	{"expr", "a == # b»", api.ErrForm},
	{"expr", "a || # b\n»", api.ErrForm},
	// Expressions that go on wrongly, with tokens behind.
	{"expr", "»)", api.ErrForm},
	{"expr", "»+ a", api.ErrForm},
	{"expr", "»* a", api.ErrForm},
	{"expr", "»int", api.ErrForm},
	{"expr", "»; a", api.ErrForm},
	{"expr", "»[1]", api.ErrForm},
	{"expr", "»{ }", api.ErrForm},
	{"expr", "».a", api.ErrForm},
	{"expr", "a + »)", api.ErrForm},
	{"expr", "a + »* b", api.ErrForm},
	{"expr", "a + »int b", api.ErrForm},
	{"expr", "a && »&& b", api.ErrForm},
	{"expr", "(») a", api.ErrForm},
	{"expr", "(a»] b", api.ErrForm},
	{"expr", "(a »b)", api.ErrForm},
	{"expr", "(a», b)", api.ErrForm},
	{"expr", "a[»] b", api.ErrForm},
	{"expr", "a[1») b", api.ErrForm},
	{"expr", "a[1», 2]", api.ErrForm},
	{"expr", "a.»1 b", api.ErrForm},
	{"expr", "a.»int", api.ErrForm},
	{"expr", "a.».b", api.ErrForm},
	{"expr", "f(»,a)", api.ErrForm},
	{"expr", "f(a,») b", api.ErrForm},
	{"expr", "f(a»; b)", api.ErrForm},
	{"expr", "fork »1(a)", api.ErrForm},
	{"expr", "fork »new P()", api.ErrForm},
	{"expr", "fork f »+ 1", api.ErrForm},
	{"expr", "fork »(f)()", api.ErrForm},
	{"expr", "new »1()", api.ErrForm},
	{"expr", "new »main()", api.ErrForm},
	{"expr", "new [»1]int()", api.ErrForm},
	{"expr", "new []»(1)", api.ErrForm},
	{"expr", "new P»[1]", api.ErrForm},
	{"expr", "new P »+ 1", api.ErrForm},
	{"expr", "new P(a »b)", api.ErrForm},
	{"expr", "(a < b »< c)", api.ErrForm},
	// Tokens behind an expression.
	{"expr", "a »b", api.ErrForm},
	{"expr", "a »1", api.ErrForm},
	{"expr", "a »true", api.ErrForm},
	{"expr", "a »fork f()", api.ErrForm},
	{"expr", "a »int", api.ErrForm},
	{"expr", "a »)", api.ErrForm},
	{"expr", "a »] b", api.ErrForm},
	{"expr", "a »{ }", api.ErrForm},
	{"expr", "a »} }", api.ErrForm},
	{"expr", "a »,", api.ErrForm},
	{"expr", "a», b", api.ErrForm},
	{"expr", "a »;", api.ErrForm},
	{"expr", "a »= b", api.ErrForm},
	{"expr", "a »!b", api.ErrForm},
	{"expr", "1 »(2)", api.ErrForm},
	{"expr", "1»a", api.ErrForm},
	{"expr", "01 »02", api.ErrForm},
	{"expr", "true »false", api.ErrForm},
	{"expr", "f() »(a)", api.ErrForm},
	{"expr", "f()\n\t»f()", api.ErrForm},
	{"expr", "a.b »(c)", api.ErrForm},
	{"expr", "a[1] »(c)", api.ErrForm},
	{"expr", "(a) »(c)", api.ErrForm},
	{"expr", "a < b »< c", api.ErrForm},
	{"expr", "a == b »!= c", api.ErrForm},
	{"expr", "a + b »c", api.ErrForm},
	{"expr", "a + b») + c", api.ErrForm},
	{"expr", "new P() »new P()", api.ErrForm},
	{"expr", "a »main { }", api.ErrForm},
	{"expr", "a»;;;", api.ErrForm},
	{"expr", "a # b\n»c # d", api.ErrForm},
}

// TestWrong: 15.1, each error at its place.
func TestWrong(t *testing.T) {
	for _, x := range wrong {
		src, at := marked(t, x.src)
		fails(t, x.line, src, at, x.why)
	}
}

// TestWrongAround: 15.1, the same with blanks of all kinds ahead, and with more
// behind, that is right by itself: what stands behind the place does not count,
// but for lex.
func TestWrongAround(t *testing.T) {
	for _, x := range wrong {
		src, at := marked(t, x.src)
		for _, ahead := range []string{" ", "\n", "\r\n\t", "# a ; & \xff\n", "\n\n\n  "} {
			fails(t, x.line, ahead+src, len(ahead)+at, x.why)
			if at < len(src) {
				fails(t, x.line, ahead+src+"\n x 1", len(ahead)+at, x.why)
				fails(t, x.line, ahead+src+"# ", len(ahead)+at, x.why)
			} else {
				fails(t, x.line, ahead+src+"\n", len(ahead)+at+1, x.why)
			}
		}
	}
}

// TestPlaces: 15.1, the line and the column of a place.
func TestPlaces(t *testing.T) {
	for _, x := range []struct {
		line, src    string
		at, row, col int
		why          api.Errno
	}{
		// On the first line.
		{"prog", "", 0, 1, 1, api.ErrForm},
		{"prog", ";", 0, 1, 1, api.ErrForm},
		{"prog", "main ;", 5, 1, 6, api.ErrForm},
		{"prog", "main { } ;", 9, 1, 10, api.ErrForm},
		{"prog", "main { x = 9223372036854775808; }", 11, 1, 12, api.ErrRange},
		// Behind line feeds.
		{"prog", "\n;", 1, 2, 1, api.ErrForm},
		{"prog", "\n\n\n;", 3, 4, 1, api.ErrForm},
		{"prog", "main\n{\n x = 1\n}", 14, 4, 1, api.ErrForm},
		{"prog", "main {\n  x = ;\n}\n", 13, 2, 7, api.ErrForm},
		{"prog", "main {\n  x = 1;\n  y = @;\n}\n", 22, 3, 7, api.ErrForm},
		{"prog", "main {\n\n  x = 9223372036854775808;\n}", 14, 3, 7, api.ErrRange},
		{"prog", "\nmain {\n" + rep("a", 33), 8, 3, 1, api.ErrLong},
		{"prog", "\n" + rep("(", 60) + "\n\n (", 64, 4, 2, api.ErrDeep},
		{"prog", rep("(\n", 61), 120, 61, 1, api.ErrDeep},
		{"prog", rep("-\n", 61), 120, 61, 1, api.ErrDeep},
		// On the last line, with and without a line feed at its end.
		{"prog", "main {\n;", 7, 2, 1, api.ErrForm},
		{"prog", "main {\n;\n", 7, 2, 1, api.ErrForm},
		{"prog", "main {\n} }", 9, 2, 3, api.ErrForm},
		{"prog", "main {\n} }\n", 9, 2, 3, api.ErrForm},
		// At the end of the source.
		{"prog", "main", 4, 1, 5, api.ErrForm},
		{"prog", "main ", 5, 1, 6, api.ErrForm},
		{"prog", "main {\n  ", 9, 2, 3, api.ErrForm},
		{"prog", "main\n", 5, 2, 1, api.ErrForm},
		{"prog", "main {\n\n", 8, 3, 1, api.ErrForm},
		{"prog", "main {\n # a", 11, 2, 5, api.ErrForm},
		{"prog", "main {\n # a\n", 12, 3, 1, api.ErrForm},
		{"prog", "\n", 1, 2, 1, api.ErrForm},
		// With carriage returns, tabs, comments and bytes above 127 ahead.
		{"prog", "\r;", 1, 1, 2, api.ErrForm},
		{"prog", "\r\n;", 2, 2, 1, api.ErrForm},
		{"prog", "main\r\n\r\n;", 8, 3, 1, api.ErrForm},
		{"prog", "main {\r x = ;", 12, 1, 13, api.ErrForm},
		{"prog", "\t\t;", 2, 1, 3, api.ErrForm},
		{"prog", "\n\t;", 2, 2, 2, api.ErrForm},
		{"prog", "# a ; b\n;", 8, 2, 1, api.ErrForm},
		{"prog", "main # a\n# b\n ;", 14, 3, 2, api.ErrForm},
		{"prog", "# \u00e4\u2212\n ;", 9, 2, 2, api.ErrForm},
		{"prog", "main # \u00e4", 9, 1, 10, api.ErrForm},
		{"prog", "# \xff\xfe\n#\xff;", 8, 2, 4, api.ErrForm},
		{"prog", "# \u2028\u0085\nmain\xe4", 12, 2, 5, api.ErrForm},
		{"prog", "#\x00\n\x00", 3, 2, 1, api.ErrForm},
		// The same of expressions.
		{"expr", "", 0, 1, 1, api.ErrForm},
		{"expr", " )", 1, 1, 2, api.ErrForm},
		{"expr", "a b", 2, 1, 3, api.ErrForm},
		{"expr", "a\nb\n", 2, 2, 1, api.ErrForm},
		{"expr", "a +\n", 4, 2, 1, api.ErrForm},
		{"expr", "\n\n\ta\n + # \u00e4\n\t", 14, 5, 2, api.ErrForm},
		{"expr", "\na\r\n\r\tb", 6, 3, 3, api.ErrForm},
		{"expr", "#\xff\n@", 3, 2, 1, api.ErrForm},
		{"expr", "f(\n 9223372036854775808)", 4, 2, 2, api.ErrRange},
		{"expr", "f(\n1,\n" + rep("b", 33), 6, 3, 1, api.ErrLong},
		{"expr", rep("a[\n", 61), 181, 61, 2, api.ErrDeep},
		{"expr", rep("!\n ", 61), 180, 61, 2, api.ErrDeep},
	} {
		want := parse.Fault{At: x.at, Line: x.row, Col: x.col, Why: x.why}
		holds(t, x.line, x.src, api.Node{}, want)
		both(t, x.src)
	}
}

// TestNothing: 15.1, sources without a token: what is told stands at their end.
func TestNothing(t *testing.T) {
	for _, src := range []string{"", " ", "\n", "\t", "\r", "\r\n", " \n ", "#", "# a", "#\n", "# main { }", "# main { }\n", "#a\n#b\n", "#\xff", "\n\n#\n\n", rep("\n", 100) + "#"} {
		for _, line := range []string{"prog", "expr"} {
			fails(t, line, src, len(src), api.ErrForm)
		}
	}
}
