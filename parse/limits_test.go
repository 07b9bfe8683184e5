package parse_test

import (
	"strings"
	"testing"

	"marline/api"
	"marline/parse"
)

// nested are texts that open brackets and shut them again, with what is in the
// middle: so many times as may be; one time more, and the bracket with the mark
// is too deep, as it is opened last.
var nested = []struct {
	line, ahead, open, middle, shut, behind string
	most                                    int
}{
	{"expr", "", "»(", "a", ")", "", 60},
	{"expr", "1 + ", "»(", "a", ")", " * 2", 60},
	{"expr", "", "a»[", "1", "]", "", 60},
	{"expr", "-b[0] + (1) +\n", "a»[ ", "1", " ]", ".x[0]", 60},
	{"expr", "", "f»(", "", ")", "", 60},
	{"expr", "", "g»(1,\n", "h", "\n, 2)", "", 60},
	{"expr", "", "g(»(1), ", "h", ", 2)", "", 59},
	{"expr", "", "fork f»(", "", ")", "", 60},
	{"expr", "", "new P»(", "true", ")", "", 60},
	{"expr", "", "a.b»[c", "", "]", "", 60},
	{"expr", "", "»(a[", "b", "])", ".c", 30},
	{"expr", "", "f»(-new []int(!", "b", "))", "[1]", 30},
	{"prog", "main ", "»{", "", "}", "", 60},
	{"prog", "rec P { a []int; } main\n", "{ f»(); ", "x = 1;", " }", "# {", 59},
	{"prog", "fun f() ", "»{\n", "", "}", " main { }", 60},
	{"prog", "main ", "{ ", "return »(o);", "}", " # {", 59},
	{"prog", "merge m(o int, a int, b int) ", "{ ", "x»[1] = 1;", "}", " main { { } }", 59},
	{"prog", "main ", "{ if a ", "»{ } else { }", " }", "", 59},
	{"prog", "main ", "{ while f»() ", "{ }", "}", "", 59},
}

// TestBrackets: 15.1, as many open brackets as may be, and one more: it is the
// place of that one that is told, whatever is behind it.
func TestBrackets(t *testing.T) {
	for _, x := range nested {
		open, middle := strings.Replace(x.open, "»", "", 1), strings.Replace(x.middle, "»", "", 1)
		around := func(n int) string {
			return x.ahead + rep(open, n) + middle + rep(x.shut, n) + x.behind
		}
		for _, n := range []int{1, 2, x.most - 1, x.most} {
			passes(t, x.line, around(n))
		}
		at := len(x.ahead) + x.most*len(open) + strings.Index(x.open, "»")
		if i := strings.Index(x.middle, "»"); i >= 0 {
			at = len(x.ahead) + (x.most+1)*len(open) + i
		}
		deep := around(x.most + 1)
		fails(t, x.line, deep, at, api.ErrDeep)
		fails(t, x.line, deep[:at+1], at, api.ErrDeep)
		fails(t, x.line, deep[:at+1]+"\n(;", at, api.ErrDeep)
		alike(t, x.line, deep[:at])
	}
}

// TestBracketsAlone: 15.1, brackets of each kind in a row: one more than may be is
// too deep, whatever shuts; with as many as may be, it is the form that counts.
func TestBracketsAlone(t *testing.T) {
	for _, open := range []string{"(", "[", "{"} {
		for _, shut := range []string{")", "]", "}"} {
			for _, line := range []string{"expr", "prog"} {
				full := rep(open, 60)
				fails(t, line, full+open, 60, api.ErrDeep)
				fails(t, line, full+open+rep(shut, 61), 60, api.ErrDeep)
				fails(t, line, full+shut+open+open, 62, api.ErrDeep)
				fails(t, line, "main { }"+shut+" f "+full+open, 72, api.ErrDeep)
				fails(t, line, rep(shut, 200)+"\n"+full+" "+open, 262, api.ErrDeep)
				fails(t, line, full+"#"+open+"\n"+open, 63, api.ErrDeep)
				alike(t, line, full)
				alike(t, line, full+rep(shut, 60))
				alike(t, line, full+"a"+rep(shut, 60))
			}
		}
	}
	fails(t, "expr", rep("(", 60), 60, api.ErrForm)
	fails(t, "expr", rep("{", 60), 0, api.ErrForm)
	fails(t, "expr", rep("(", 60)+rep("]", 60), 60, api.ErrForm)
	fails(t, "prog", rep("{", 60)+rep("}", 60), 0, api.ErrForm)
	fails(t, "prog", "main "+rep("{", 60), 65, api.ErrForm)
	fails(t, "prog", "main {"+rep("[", 59)+rep("]", 60), 6, api.ErrForm)
	passes(t, "prog", "main {"+rep(" {} f(); x[0] = (1);", 500)+"}")
	passes(t, "prog", "iso x "+rep("[]", 5000)+"int; main { }")
	passes(t, "expr", rep("(a)+", 4000)+"a")
	passes(t, "expr", "a"+rep("[0].b", 3000))
}

// TestSigns: 15.1, as many signs in a row as may be, and one more: it is the place
// of that one that is told, whatever is behind it.
func TestSigns(t *testing.T) {
	for _, x := range []struct{ line, ahead, behind string }{
		{"expr", "", "a"},
		{"expr", "b * ", "7 + 1"},
		{"expr", "(", "f())"},
		{"expr", "-a + !b &&\n", "(c)"},
		{"prog", "main { x = ", "1; }"},
		{"prog", "main { print 1 + ", "y - 1; }\n"},
		{"prog", "fun f() int { return\n", "1; } main { }"},
		{"prog", "main { if ", "a { } else { f(-1); } }"},
	} {
		for _, row := range []string{rep("-", 60), rep("!", 60), rep("-!", 30), rep("!-", 30)} {
			passes(t, x.line, x.ahead+row[1:]+x.behind)
			passes(t, x.line, x.ahead+row+x.behind)
			passes(t, x.line, x.ahead+strings.ReplaceAll(row, "-", "- #!\n")+x.behind)
			for _, one := range []string{"-", "!"} {
				fails(t, x.line, x.ahead+row+one+x.behind, len(x.ahead)+60, api.ErrDeep)
				fails(t, x.line, x.ahead+row+"\n "+one+x.behind, len(x.ahead)+62, api.ErrDeep)
				fails(t, x.line, x.ahead+row+one+row+x.behind, len(x.ahead)+60, api.ErrDeep)
				fails(t, x.line, x.ahead+row+one, len(x.ahead)+60, api.ErrDeep)
				fails(t, x.line, x.ahead+row+one+";;", len(x.ahead)+60, api.ErrDeep)
			}
			alike(t, x.line, x.ahead+row)
		}
	}
	passes(t, "expr", "a"+rep("-", 60)+"b")
	fails(t, "expr", "a"+rep("-", 61)+"b", 61, api.ErrDeep)
	passes(t, "expr", rep("a-", 8000)+"b")
	passes(t, "expr", rep("-(!", 60)+"b"+rep(")", 60))
	fails(t, "expr", rep("-", 60), 60, api.ErrForm)
	fails(t, "prog", rep("-", 60), 0, api.ErrForm)
	fails(t, "prog", rep("-", 61), 60, api.ErrDeep)
}

// TestNames: 15.1, names just as long as they may be, and longer ones; numbers at
// their edge.
func TestNames(t *testing.T) {
	for _, n := range []int{1, 31, 32} {
		passes(t, "expr", rep("n", n))
		passes(t, "expr", "f."+rep("Z", n)+"[1]")
		passes(t, "prog", "fun "+rep("_", n)+"() { } main { "+rep("m", n)+" = 1; }")
	}
	for _, n := range []int{33, 34, 100, 5000} {
		fails(t, "expr", rep("n", n), 0, api.ErrLong)
		fails(t, "expr", "f."+rep("Z", n)+"[1]", 2, api.ErrLong)
		fails(t, "prog", "fun "+rep("_", n)+"() { } main { }", 4, api.ErrLong)
		fails(t, "prog", "fun f() {\n} main { "+rep("m", n)+" = 1; }", 19, api.ErrLong)
	}
	for _, n := range []string{"0", "9223372036854775807", rep("0", 100) + "9223372036854775807"} {
		passes(t, "expr", n)
		passes(t, "prog", "main { x["+n+"] = "+n+"; }")
	}
	for _, n := range []string{"9223372036854775808", "18446744073709551617", rep("9", 100), rep("0", 100) + "9223372036854775808"} {
		fails(t, "expr", n, 0, api.ErrRange)
		fails(t, "prog", "main { x["+n+"] = "+n+"; }", 9, api.ErrRange)
	}
}

// TestLong: 15.1, sources of just as many bytes as may be, and of one more: then
// it is the place behind these that is told, with its line and column.
func TestLong(t *testing.T) {
	for _, x := range []struct{ line, src string }{
		{"prog", "main { }"},
		{"prog", "main {\n  print 1 + 2;\n}\n"},
		{"expr", "a + b"},
		{"expr", "f(1)\n"},
	} {
		for _, fill := range []string{" ", "\n", "\t", "\r", "\r\n", "#\n", "# a\n\n"} {
			pad := rep(fill, mostSrc)
			free := mostSrc - len(x.src)
			passes(t, x.line, x.src+pad[:free-1])
			passes(t, x.line, x.src+pad[:free])
			passes(t, x.line, pad[:free-free%len(fill)]+x.src)
			for _, n := range []int{1, 2, 3, 100, mostSrc} {
				fails(t, x.line, x.src+(pad + pad)[:free+n], mostSrc, api.ErrLong)
				fails(t, x.line, pad[:free]+rep(" ", n)+x.src, mostSrc, api.ErrLong)
			}
		}
		passes(t, x.line, "#"+rep("\xff", mostSrc-2-len(x.src))+"\n"+x.src)
		passes(t, x.line, x.src+"#"+rep("\xff", mostSrc-1-len(x.src)))
		fails(t, x.line, x.src+"#"+rep("\xff", mostSrc-len(x.src)), mostSrc, api.ErrLong)
	}
}

// TestLongLine: 15.1, where a source is too long: a line feed as the last byte
// that may be, at the place that is told, behind it, and at other places.
func TestLongLine(t *testing.T) {
	for _, x := range []struct {
		src       string
		line, col int
	}{
		{rep(" ", mostSrc+1), 1, mostSrc + 1},
		{rep("\n", mostSrc+1), mostSrc + 1, 1},
		{rep("\n", mostSrc) + ";", mostSrc + 1, 1},
		{rep(" ", mostSrc-1) + "\n;", 2, 1},
		{rep(" ", mostSrc) + "\n", 1, mostSrc + 1},
		{rep(" ", mostSrc) + "\n\n;", 1, mostSrc + 1},
		{rep(" ", mostSrc-1) + "\n\n", 2, 1},
		{rep(" ", mostSrc-2) + "\n;;", 2, 2},
		{rep(" ", mostSrc) + ";\n", 1, mostSrc + 1},
		{"\n" + rep("a", mostSrc), 2, mostSrc},
		{rep("a", mostSrc) + "\n", 1, mostSrc + 1},
		{rep("\r", mostSrc+1), 1, mostSrc + 1},
		{rep("\r\n", mostSrc), mostSrc/2 + 1, 1},
		{"\r" + rep("\r\n", mostSrc), mostSrc / 2, 2},
		{"main { }" + rep("#\xff\n", mostSrc), 5459, 3},
		{rep("\xc3\xa4", mostSrc), 1, mostSrc + 1},
		{rep("\n", 1<<22), mostSrc + 1, 1},
		{rep("\xff", 1<<22), 1, mostSrc + 1},
	} {
		want := parse.Fault{At: mostSrc, Line: x.line, Col: x.col, Why: api.ErrLong}
		holds(t, "prog", x.src, api.Node{}, want)
		holds(t, "expr", x.src, api.Node{}, want)
		both(t, x.src)
	}
}

// TestLongFirst: 15.1, that a source is too long is told ahead of all else; in
// one that is just not, each error is told at its place, up to the last byte.
func TestLongFirst(t *testing.T) {
	for _, x := range wrong {
		src, at := marked(t, x.src)
		free := mostSrc - len(src)
		fails(t, x.line, rep("\n", free)+src, free+at, x.why)
		fails(t, x.line, rep("\n", free+1)+src, mostSrc, api.ErrLong)
		fails(t, x.line, src+rep("\n", free+1), mostSrc, api.ErrLong)
		fails(t, x.line, rep(" ", mostSrc)+src+" ", mostSrc, api.ErrLong)
		if at < len(src) {
			fails(t, x.line, src+rep("\n", free), at, x.why)
		} else {
			fails(t, x.line, src+rep("\n", free), mostSrc, x.why)
		}
	}
	fails(t, "prog", rep(" ", mostSrc-1)+"&", mostSrc-1, api.ErrForm)
	fails(t, "expr", "1"+rep("\n", mostSrc-2)+"2", mostSrc-1, api.ErrForm)
	fails(t, "expr", "1"+rep("\n", mostSrc-2)+"+", mostSrc, api.ErrForm)
	fails(t, "prog", rep("{", mostSrc), 60, api.ErrDeep)
	fails(t, "prog", rep("a", mostSrc), 0, api.ErrLong)
	fails(t, "expr", rep("1", mostSrc), 0, api.ErrRange)
}

// TestGreat: 15.1, programs and expressions of as many tokens as may be, far into
// one another where no bracket does it.
func TestGreat(t *testing.T) {
	passes(t, "prog", "main { if a { }"+rep("else if a{}", 1480)+" }")
	passes(t, "prog", rep("iso a int;", 1600)+"main{}")
	passes(t, "prog", "main{"+rep("a=1;", 4090)+"}")
	passes(t, "prog", "main{"+rep("{}", 8180)+"}")
	passes(t, "prog", "fun f("+rep("a b,", 4080)+"a b){}main{}")
	passes(t, "expr", rep("a+", 8191)+"a")
	passes(t, "expr", rep("a||b&&", 2730)+"a")
	passes(t, "expr", "a"+rep(".a", 8191))
	passes(t, "expr", "a"+rep("[0]", 5461))
	passes(t, "expr", "f("+rep("a,", 8189)+"a)")
	passes(t, "expr", "new "+rep("[]", 8180)+"a()")
	fails(t, "prog", "main{"+rep("a=1;", 4090), 16365, api.ErrForm)
	fails(t, "expr", rep("a+", 8191)+"+", 16382, api.ErrForm)
}
