package nest_test

import (
	"math"
	"slices"
	"strings"
	"testing"

	"marline/api"
	"marline/lex"
	"marline/nest"
)

// What opens, what shuts, the signs that count in a row, and the marks that
// are none of these, as the chapters write them.
const (
	opening  = "( [ {"
	shutting = ") ] }"
	signs    = "- !"
	others   = ", ; . = + * / % == != < <= > >= && ||"
)

// most is how many brackets may be open, and how many signs may stand in a row.
const most = 60

// tok, mark and list make tokens, rep is a text n times.
func tok(kind int, s string) api.Token { return api.Token{Kind: kind, Text: s} }
func mark(s string) api.Token          { return tok(4, s) }
func list(l ...api.Token) []api.Token  { return l }
func rep(s string, n int) string       { return strings.Repeat(s, n) }

// placed are tokens, each at a place that is no other one's and not its number.
func placed(l ...[]api.Token) []api.Token {
	all := slices.Concat(l...)
	for i := range all {
		all[i].At = 7*i + 100
	}
	return all
}

// row are the tokens of a text whose bytes are a token each: a letter a name, a
// digit a number, $ the end, all others marks.
func row(s string) []api.Token {
	var l []api.Token
	for _, r := range s {
		kind, text := 4, string(r)
		switch {
		case r == '$':
			kind, text = 0, ""
		case r >= 'a' && r <= 'z':
			kind = 1
		case r >= '0' && r <= '9':
			kind = 2
		}
		l = append(l, tok(kind, text))
	}
	return placed(l)
}

// plain are tokens that are neither brackets nor signs in a row, with one of
// each other mark and of each other kind, some with the text of a bracket or a
// sign, or with one that is nearly such a text.
func plain() []api.Token {
	var l []api.Token
	for _, s := range strings.Fields(others) {
		l = append(l, mark(s))
	}
	for _, s := range []string{"", " ", "((", "()", "( ", " (", "[]", "]]", "{}", "--", "-!", "!-", "!!", "- ", " -", "-1", "!a", "\x00", "-\x00", "a", "0", "if", "\u2212", "\uff01", "\uff08", "\xff"} {
		l = append(l, mark(s))
	}
	for _, kind := range []int{0, 1, 2, 3, 5, 6, -1, -4, 4 + 1<<8, 4 + 1<<16, 4 + 1<<32, math.MinInt, math.MaxInt} {
		for _, s := range append(strings.Fields(opening+" "+shutting+" "+signs), "", "a", "0", "while") {
			l = append(l, tok(kind, s))
		}
	}
	return append(l, api.Token{Kind: 2, N: 4, Text: "4"}, api.Token{Kind: 2, N: 61, Text: "61"}, api.Token{N: math.MinInt})
}

// sortOf is what a token is: o opens, s shuts, r is a sign in a row, x neither.
func sortOf(k api.Token) byte {
	for i, texts := range []string{opening, shutting, signs} {
		if k.Kind == 4 && slices.Contains(strings.Fields(texts), k.Text) {
			return "osr"[i]
		}
	}
	return 'x'
}

// told is what the chapter's words say of tokens: how many brackets are open
// and how many signs stand in a row at most, and the number of the first token
// that is too deep, or -1. What is open at a token is what was opened and not
// shut since the token behind which there were the fewest.
func told(l []api.Token) (int, int, int) {
	opened, signed, first := 0, 0, -1
	sum, fewest, plainAt := 0, 0, -1
	for i, k := range l {
		switch sortOf(k) {
		case 'o':
			sum++
		case 's':
			sum--
		}
		if sortOf(k) != 'r' {
			plainAt = i
		}
		fewest = min(fewest, sum)
		opened, signed = max(opened, sum-fewest), max(signed, i-plainAt)
		if first < 0 && (sum-fewest > most || i-plainAt > most) {
			first = i
		}
	}
	return opened, signed, first
}

// holds: does Most tell these numbers of tokens, and Check what follows from
// them, and are the tokens left as they are?
func holds(t *testing.T, l []api.Token, open, inRow int) {
	t.Helper()
	before := slices.Clone(l)
	if x, y := nest.Most(l); x != open || y != inRow {
		t.Errorf("%.90q: %d, %d; want %d, %d", text(l), x, y, open, inRow)
	}
	at, e := nest.Check(l)
	if open <= most && inRow <= most && (at != 0 || e != api.OK) {
		t.Errorf("%.90q: %d, %v; want none", text(l), at, e)
	}
	if (open > most || inRow > most) && e != api.ErrDeep {
		t.Errorf("%.90q: %d, %v; want deep", text(l), at, e)
	}
	if !slices.Equal(l, before) {
		t.Errorf("%.90q: was %.90q", text(l), text(before))
	}
}

// fails: does Check tell the token of this number, and none of those ahead?
func fails(t *testing.T, l []api.Token, first int) {
	t.Helper()
	if at, e := nest.Check(l); at != l[first].At || e != api.ErrDeep {
		t.Errorf("%.90q: %d, %v; want %d", text(l), at, e, l[first].At)
	}
	if at, e := nest.Check(l[:first]); at != 0 || e != api.OK {
		t.Errorf("%.90q: %d, %v ahead of %d", text(l), at, e, first)
	}
}

// alike: do Most and Check tell what the chapter's words do?
func alike(t *testing.T, l []api.Token) {
	t.Helper()
	open, inRow, first := told(l)
	holds(t, l, open, inRow)
	if first >= 0 {
		fails(t, l, first)
	}
}

// text is tokens as a text, to be told where they are wrong.
func text(l []api.Token) string {
	var b strings.Builder
	for _, k := range l {
		b.WriteString(" " + string("EN0WS"[min(max(k.Kind, 0), 4)]) + k.Text)
	}
	return b.String()
}

// TestConstants: kinds, limits and errors are those of the document.
func TestConstants(t *testing.T) {
	if api.TokEnd != 0 || api.TokSign != 4 || api.MaxDeep != most || api.OK != 0 || api.ErrDeep != 4 {
		t.Error(api.TokEnd, api.TokSign, api.MaxDeep, api.OK, api.ErrDeep)
	}
}

// TestExample: the chapter's (12.1).
func TestExample(t *testing.T) {
	l, _, e := lex.All("((a)) - -b")
	if e != api.OK {
		t.Fatal(e)
	}
	holds(t, l, 2, 2)
	holds(t, row("((a))--b$"), 2, 2)
}

// TestSources: 12.1, 12.2, of ordinary sources, with the last token.
func TestSources(t *testing.T) {
	for _, x := range []struct {
		src         string
		open, inRow int
	}{
		{"", 0, 0},
		{"main { }", 1, 0},
		{"main { print f(a[(1)], -2); }", 4, 1},
		{"fun f(a []int) int { return a[0] - 1; } main { print !!b; }", 2, 2},
		{"- #-\n - ! #!", 0, 3},
		{"#((((\n(", 1, 0},
		{"a != !b - - c == -1", 0, 2},
		{"-a - -b - - - c", 0, 3},
	} {
		l, _, e := lex.All(x.src)
		if e != api.OK {
			t.Fatal(x.src, e)
		}
		holds(t, l, x.open, x.inRow)
	}
}

// TestSourcesDeep: 12.2, the place that is told is one in the source.
func TestSourcesDeep(t *testing.T) {
	for _, x := range []struct {
		src string
		at  int
	}{
		{"main " + rep("{", 61), 65},
		{"main { x = " + rep("( ", 60) + "1", 11 + 2*59},
		{rep("[", 60) + "#[[[\n  [", 67},
		{rep("-", 61) + "1", 60},
		{"a = " + rep("! ", 61) + "1", 124},
		{rep("(-", 60) + "a(", 121},
	} {
		l, _, e := lex.All(x.src)
		if e != api.OK {
			t.Fatal(x.src, e)
		}
		if at, e := nest.Check(l); at != x.at || e != api.ErrDeep {
			t.Errorf("%.90q: %d, %v; want %d", x.src, at, e, x.at)
		}
	}
}

// TestNothing: 12.1, 12.2, of no tokens.
func TestNothing(t *testing.T) {
	holds(t, nil, 0, 0)
	holds(t, list(), 0, 0)
	holds(t, list(api.Token{}), 0, 0)
	holds(t, list(tok(api.TokEnd, "")), 0, 0)
}

// TestBrackets: 12.1, each bracket alone, and beside each other one: which one
// it is that shuts does not matter.
func TestBrackets(t *testing.T) {
	for _, a := range strings.Fields(opening) {
		holds(t, row(a), 1, 0)
		holds(t, row("a"+a+"b"), 1, 0)
		for _, b := range strings.Fields(shutting) {
			holds(t, row(a+b), 1, 0)
			holds(t, row(b+a), 1, 0)
			holds(t, row(a+b+a+b), 1, 0)
			holds(t, row(a+a+b+b), 2, 0)
			holds(t, row(a+b+b+a), 1, 0)
			holds(t, row(a+a+b+a), 2, 0)
			holds(t, row(a+a+b+a+a), 3, 0)
			holds(t, row(a+b+a+a), 2, 0)
		}
		for _, b := range strings.Fields(opening) {
			holds(t, row(a+b), 2, 0)
			holds(t, row(a+"x"+b+"1"+a+";"), 3, 0)
		}
	}
	for _, b := range strings.Fields(shutting) {
		holds(t, row(b), 0, 0)
		holds(t, row("a"+b+"b"), 0, 0)
		for _, c := range strings.Fields(shutting) {
			holds(t, row(b+c), 0, 0)
		}
	}
	holds(t, row("([{}])"), 3, 0)
	holds(t, row("([{)]}"), 3, 0)
	holds(t, row("(]{)[}"), 1, 0)
}

// TestGreatest: 12.1, it is the greatest number, wherever it stands, not that
// of all that open, nor that at the end.
func TestGreatest(t *testing.T) {
	holds(t, row("((()))()"), 3, 0)
	holds(t, row("()((()))"), 3, 0)
	holds(t, row("()((()))()"), 3, 0)
	holds(t, row("()()()()"), 1, 0)
	holds(t, row("(()(()((a))))"), 4, 0)
	holds(t, row("(())()(("), 2, 0)
	holds(t, row(rep("[]", 500)), 1, 0)
	holds(t, row("{"+rep("[]", 500)), 2, 0)
}

// TestBelow: 12.1, where more shut than opened, none is open: as many openings
// as at the beginning count behind them.
func TestBelow(t *testing.T) {
	holds(t, row(")("), 1, 0)
	holds(t, row("))(("), 2, 0)
	holds(t, row("))))(a)("), 1, 0)
	holds(t, row("()))(("), 2, 0)
	holds(t, row("(())))((("), 3, 0)
	holds(t, row("((()))))(("), 3, 0)
	holds(t, row("a)b]c}d(e"), 1, 0)
	holds(t, row(")()()()("), 1, 0)
	for _, n := range []int{1, 2, 59, 60, 61, 62, 1000} {
		for _, m := range []int{1, 2, 59, 60} {
			holds(t, row(rep("]", n)+rep("[", m)), m, 0)
			holds(t, row("{}"+rep(")", n)+rep("{", m)), m, 0)
			holds(t, row(rep("(", m)+rep(")", m+n)+rep("(", m)), m, 0)
		}
		fails(t, row(rep("}", n)+rep("(", 61)), n+60)
		fails(t, row(rep("{", n%60)+rep("]", n)+rep("(", 61)), n%60+n+60)
	}
}

// TestSigns: 12.1, - and ! in a row, each and mixed, and what stands ahead.
func TestSigns(t *testing.T) {
	holds(t, row("-"), 0, 1)
	holds(t, row("!"), 0, 1)
	holds(t, row("--"), 0, 2)
	holds(t, row("!!"), 0, 2)
	holds(t, row("-!"), 0, 2)
	holds(t, row("!-"), 0, 2)
	holds(t, row("-!-!!--"), 0, 7)
	holds(t, row("a-b"), 0, 1)
	holds(t, row("a--b!!!c-"), 0, 3)
	holds(t, row("!!!a--b-"), 0, 3)
	holds(t, row("-a--b!!!"), 0, 3)
	holds(t, row("-a-b-c-d"), 0, 1)
	holds(t, row(rep("-a", 500)), 0, 1)
	holds(t, row(rep("-(", 60)), 60, 1)
	holds(t, row("(-)-(--)!"), 1, 2)
	holds(t, row(rep("!-)", 500)), 0, 2)
}

// TestBetween: 12.1, each token of another sort between two signs parts them,
// and counts as no bracket, unless it is one.
func TestBetween(t *testing.T) {
	for _, k := range plain() {
		holds(t, placed(list(k)), 0, 0)
		for _, a := range strings.Fields(signs) {
			holds(t, placed(list(mark(a), k)), 0, 1)
			holds(t, placed(list(k, mark(a))), 0, 1)
			for _, b := range strings.Fields(signs) {
				holds(t, placed(list(mark(a), k, mark(b))), 0, 1)
				holds(t, placed(list(mark(a), mark(b), k, mark(b))), 0, 2)
				holds(t, placed(list(mark(a), k, mark(b), mark(a))), 0, 2)
				holds(t, placed(list(mark(a), k, k, mark(b))), 0, 1)
			}
		}
	}
	for _, a := range "([{)]}" {
		open := strings.Count("([{", string(a))
		holds(t, row("-"+string(a)+"!"), open, 1)
		holds(t, row("--"+string(a)+"-"), open, 2)
		holds(t, row("!"+string(a)+"--"), open, 2)
	}
}

// TestNoBrackets: 12.1, each token that is no bracket opens and shuts nothing,
// and what is open stays so behind it.
func TestNoBrackets(t *testing.T) {
	for _, k := range append(plain(), mark("-"), mark("!")) {
		inRow := 0
		if sortOf(k) == 'r' {
			inRow = 1
		}
		holds(t, placed(row("("), list(k), row("(")), 2, inRow)
		holds(t, placed(row("(("), list(k), row(")(")), 2, inRow)
		holds(t, placed(row(")"), list(k), row("(")), 1, inRow)
		holds(t, placed(row(rep("(", 60)), list(k), row(")(")), 60, inRow)
		fails(t, placed(row(rep("(", 60)), list(k), row("(")), 61)
		if inRow == 0 {
			holds(t, placed(row(rep("-", 60)), list(k), row(rep("!", 60))), 0, 60)
			fails(t, placed(row(rep("-", 60)), list(k), row(rep("!", 61))), 121)
			holds(t, placed(row("("), slices.Repeat(list(k), 100), row("{")), 2, 0)
		}
	}
}

// TestBracketsEdge: 12.2, just as many open as may be, at the beginning, in
// the middle and at the end, and one more.
func TestBracketsEdge(t *testing.T) {
	for _, a := range strings.Fields(opening) {
		for _, b := range strings.Fields(shutting) {
			full := rep(a, 60)
			holds(t, row(rep(a, 59)), 59, 0)
			holds(t, row(full), 60, 0)
			holds(t, row(full+"x"+rep(b, 60)+"$"), 60, 0)
			holds(t, row(full+b+a), 60, 0)
			holds(t, row(full+rep(b+a, 100)), 60, 0)
			holds(t, row(full+rep(b, 60)+full), 60, 0)
			holds(t, row("x"+b+full+"y"), 60, 0)
			holds(t, row(full+a), 61, 0)
			holds(t, row(full+a+b+a), 61, 0)
			fails(t, row(full+a), 60)
			fails(t, row(full+a+b+a), 60)
			fails(t, row(full+b+a+a), 62)
			fails(t, row(full+rep(b, 60)+full+a), 180)
			fails(t, row(rep(a, 59)+"x"+a+"y"+a+"z"), 62)
			fails(t, row(full+a+rep(b, 61)+"$"), 60)
			fails(t, row(full+a+a+a), 60)
		}
	}
	fails(t, row(rep("([{", 20)+"("), 60)
	holds(t, row(rep("([{", 20)), 60, 0)
	holds(t, row(rep("(x", 60)), 60, 0)
	fails(t, row(rep("(x", 61)), 120)
}

// TestSignsEdge: 12.2, just as many in a row as may be, and one more: it is
// the one that makes too many that is told, however many follow.
func TestSignsEdge(t *testing.T) {
	for _, a := range []string{"-", "!"} {
		for _, b := range []string{"-", "!"} {
			full := rep(a, 59) + b
			holds(t, row(rep(a, 58)+b), 0, 59)
			holds(t, row(full), 0, 60)
			holds(t, row(full+"x"+full+"$"), 0, 60)
			holds(t, row("x"+full+"("+full+")"+full), 1, 60)
			holds(t, row(full+a), 0, 61)
			holds(t, row(full+a+a), 0, 62)
			fails(t, row(full+a), 60)
			fails(t, row(full+b+"x"), 60)
			fails(t, row(full+a+a+b+"x"), 60)
			fails(t, row(full+"x"+full+b), 121)
			fails(t, row("x"+full+b+b+"x"+full+b), 61)
			fails(t, row(full+full), 60)
		}
	}
	holds(t, row(rep("-!", 30)), 0, 60)
	fails(t, row(rep("-!", 31)), 60)
	fails(t, row(rep("!-", 31)), 60)
}

// TestEachAlone: 12.2, open brackets and signs in a row are not put together,
// and a row ends at each bracket.
func TestEachAlone(t *testing.T) {
	holds(t, row(rep("(", 60)+rep("-", 60)), 60, 60)
	holds(t, row(rep("-", 60)+rep("(", 60)), 60, 60)
	holds(t, row(rep("(", 30)+rep("-", 31)), 30, 31)
	holds(t, row(rep("-", 60)+")"+rep("-", 60)), 0, 60)
	holds(t, row(rep("-", 60)+"["+rep("!", 60)), 1, 60)
	holds(t, row(rep("(-", 60)), 60, 1)
}

// TestBothDeep: 12.2, where both are too deep, it is the first one of all that
// is told.
func TestBothDeep(t *testing.T) {
	brackets, inRow := rep("(", 61), rep("-", 61)
	fails(t, row(brackets+inRow), 60)
	fails(t, row(inRow+brackets), 60)
	fails(t, row("x"+brackets+"x"+inRow), 61)
	fails(t, row("x"+inRow+"x"+brackets), 61)
	fails(t, row(rep("(", 60)+inRow+"("), 120)
	fails(t, row(rep("(", 60)+rep("-", 60)+"(-"), 120)
	fails(t, row(rep("-", 60)+rep("(", 60)+inRow), 180)
	fails(t, row(rep("!", 60)+brackets+"!"), 120)
	holds(t, row(brackets+inRow), 61, 61)
	holds(t, row(inRow+brackets), 61, 61)
}

// TestPlace: 12.2, the place is that of the token, whatever it is, and no
// other one's.
func TestPlace(t *testing.T) {
	for _, at := range []int{0, 1, -1, 59, 60, 61, 16384, -61, 1 << 31, 1 << 40, math.MaxInt, math.MinInt} {
		for _, s := range []string{rep("(", 61), rep("-", 61), rep("{", 62) + "x", rep("!", 70)} {
			l := row(s)
			l[60].At = at
			fails(t, l, 60)
			l = row(s)
			for i := range l {
				l[i].At = at
			}
			fails(t, l, 60)
			for i := range l {
				l[i].At = -i * at
			}
			fails(t, l, 60)
		}
	}
}

// TestAsItIs: 12.1, 12.2, where a token stands and what number it has do not
// count.
func TestAsItIs(t *testing.T) {
	for _, n := range []int{0, 1, -1, 4, 60, 61, math.MaxInt, math.MinInt} {
		for _, s := range []string{"", "((a))--b", ")(", rep("[", 60), rep("[", 61), rep("-", 60), rep("-!", 31)} {
			l := row(s)
			open, inRow, first := told(l)
			for i := range l {
				l[i].N, l[i].At = n, n
			}
			holds(t, l, open, inRow)
			if first >= 0 {
				fails(t, l, first)
			}
		}
	}
}

// TestShort: 12.1 to 12.3, all rows of up to seven tokens of five sorts, and of
// up to three of all brackets, signs and some others.
func TestShort(t *testing.T) {
	few := row("(]-!a")
	many := slices.Concat(row("([{)]}-!.$a1"), list(tok(1, "-"), tok(2, "("), tok(0, ")"), tok(3, "!"), tok(5, "{"), tok(-4, "-"), mark("--"), mark("!="), mark("")))
	for _, x := range []struct {
		of  []api.Token
		len int
	}{{few, 7}, {many, 3}} {
		rows := [][]api.Token{nil}
		for range x.len {
			var longer [][]api.Token
			for _, l := range rows {
				for _, k := range x.of {
					longer = append(longer, placed(l, list(k)))
				}
			}
			for _, l := range longer {
				alike(t, l)
			}
			rows = longer
		}
	}
}

// TestMixed: 12.1 to 12.3, rows in many orders, with brackets and signs so
// often that some are just as deep as they may be, or just too deep.
func TestMixed(t *testing.T) {
	sorts := [][]api.Token{row("([{"), row(")]}"), row("-!"), plain()}
	seed := uint64(1)
	next := func(n int) int {
		seed = seed*6364136223846793005 + 1442695040888963407
		return int(seed >> 33 % uint64(n))
	}
	deep, right, edge := 0, 0, 0
	for range 6000 {
		often := []int{next(30), next(20), next(20), next(3)}
		var l []api.Token
		for range next(20) {
			of := next(4)
			for range next(often[of] + 1) {
				l = append(l, sorts[of][next(len(sorts[of]))])
			}
		}
		l = placed(l)
		alike(t, l)
		switch open, inRow, first := told(l); {
		case first >= 0:
			deep++
		case open == most || inRow == most:
			edge++
		default:
			right++
		}
	}
	if deep < 100 || edge < 10 || right < 1000 {
		t.Error(deep, edge, right)
	}
}

// TestNearEdge: 12.1 to 12.3, so many brackets or signs, with one token taken
// out, or another one put in, anywhere.
func TestNearEdge(t *testing.T) {
	for _, s := range []string{rep("(", 60), rep("{", 61), rep("-", 60), rep("!", 61), rep("(", 62), rep("-", 62), rep("(", 60) + ")(", rep("(", 30) + rep(")", 30) + rep("(", 61)} {
		l := row(s)
		alike(t, l)
		for i := range len(l) + 1 {
			if i < len(l) {
				alike(t, placed(l[:i], l[i+1:]))
			}
			for _, k := range row("(}-!a$=1") {
				alike(t, placed(l[:i], list(k), l[i:]))
			}
		}
	}
}

// TestFollows: 12.3, of rows of so many brackets and signs, each way round.
func TestFollows(t *testing.T) {
	for open := range 64 {
		for inRow := range 64 {
			for _, s := range []string{rep("[", open) + rep("-", inRow), rep("!", inRow) + rep("(", open), rep("(", open) + rep(")", open) + rep("-", inRow) + "x"} {
				l := row(s)
				x, y := nest.Most(l)
				if x != open || y != inRow {
					t.Fatal(open, inRow, x, y)
				}
				if _, e := nest.Check(l); (e == api.OK) != (x <= most && y <= most) || e != api.OK && e != api.ErrDeep {
					t.Fatal(open, inRow, e)
				}
			}
		}
	}
}

// TestLong: 12.1, 12.2, long rows: nothing is lost in them.
func TestLong(t *testing.T) {
	const n = 1 << 18
	alike(t, row(rep("(", n)))
	alike(t, row(rep("-", n)))
	alike(t, row(rep(")", n)+rep("(", 61)))
	alike(t, row(rep("()", n)))
	alike(t, row(rep("(", 60)+rep(")(", n)))
	alike(t, row(rep("(", 60)+rep(")(", n)+"("))
	alike(t, row(rep("-!x", n)))
	alike(t, row(rep("x", n)+rep("-", 61)))
	alike(t, row(rep(rep("-", 60)+"a", n/60)))
	alike(t, row(rep(rep("(", 60)+rep("]", 60), n/120)))
	alike(t, row(rep("(", n)+rep(")", n)+rep("(", n+1)))
	holds(t, row(rep("(", n)+rep(")", n)+rep("(", n+1)), n+1, 0)
	holds(t, row(rep("(", n)+rep("-", n+1)), n, n+1)
}
