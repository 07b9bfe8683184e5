package expr_test

import (
	"math"
	"slices"
	"strconv"
	"strings"
	"testing"

	"marline/api"
	"marline/expr"
	"marline/lex"
	"marline/tree"
)

// tok and rep make a token, and a text n times.
func tok(kind int, s string) api.Token { return api.Token{Kind: kind, Text: s} }
func rep(s string, n int) string       { return strings.Repeat(s, n) }

// placed are tokens, each at a place from which its number can be told.
func placed(l ...[]api.Token) []api.Token {
	all := slices.Concat(l...)
	for i := range all {
		all[i].At = 7*i + 100
	}
	return all
}

// row are the tokens of a text with a blank between any two: $ the end, digits a
// number, letters a name or a word, all others marks.
func row(s string) []api.Token {
	var l []api.Token
	for _, s := range strings.Fields(s) {
		n, err := strconv.Atoi(s)
		switch {
		case s == "$":
			l = append(l, tok(0, ""))
		case isIn(words, s):
			l = append(l, tok(3, s))
		case isRight(s):
			l = append(l, tok(1, s))
		case err == nil && s[0] != '-' && s[0] != '+':
			l = append(l, api.Token{Kind: 2, N: n, Text: s})
		default:
			l = append(l, tok(4, s))
		}
	}
	return placed(l)
}

// text are tokens as a text, to be told where they are wrong.
func text(l []api.Token) string {
	var b strings.Builder
	for _, k := range l {
		b.WriteString(" " + strconv.Itoa(k.Kind) + k.Text)
	}
	return b.String()
}

// look is a node as a text, with the number of the token where it stands: any
// two look unlike that have anything unlike.
func look(n api.Node) string {
	var b strings.Builder
	write(&b, n)
	return b.String()
}

func write(b *strings.Builder, n api.Node) {
	kinds := map[int]string{0: "args", 1: "int", 2: "bool", 3: "rev", 4: "rec:", 5: "[]", 10: "", 11: "flag", 12: "", 13: "at", 14: ".", 15: "un", 16: "", 17: "call:", 18: "fork:", 19: "new"}
	text, ok := kinds[n.Kind]
	if !ok {
		text = "kind" + strconv.Itoa(n.Kind) + ":"
	}
	signs := strings.Fields(numbers)
	b.WriteString(text + n.Name)
	switch {
	case (n.Kind == 15 || n.Kind == 16) && n.N > 0 && n.N <= len(signs):
		b.WriteString(signs[n.N-1])
	case n.N != 0 || n.Kind == 10 || n.Kind == 11:
		b.WriteString("#" + strconv.Itoa(n.N))
	}
	b.WriteString("@" + strconv.Itoa((n.At-100)/7))
	between := "("
	for _, k := range n.Kids {
		b.WriteString(between)
		write(b, k)
		between = " "
	}
	if between == " " {
		b.WriteString(")")
	}
}

// args is what Args tells, as the kids of a node of no kind.
func args(kids []api.Node, e api.Errno) api.Node {
	if e != api.OK {
		return api.Node{Kids: kids}
	}
	return api.Node{At: 100, Kids: kids}
}

// read reads a line of the grammar by the function that there is for it.
func read(line string, l []api.Token, i int) (api.Node, int, api.Errno) {
	switch line {
	case "type":
		return expr.Type(l, i)
	case "expr":
		return expr.Expr(l, i)
	}
	kids, end, e := expr.Args(l, i)
	return args(kids, e), end, e
}

// right: is what is read what the chapter calls it (13.2)?
func right(line string, n api.Node) bool {
	switch line {
	case "type":
		return tree.Type(n)
	case "expr":
		return tree.Expr(n)
	}
	return !slices.ContainsFunc(n.Kids, func(k api.Node) bool { return !tree.Expr(k) })
}

// zero: is a node the zero node?
func zero(n api.Node) bool {
	return n.Kind == 0 && n.At == 0 && n.N == 0 && n.Name == "" && len(n.Kids) == 0
}

// holds: is a line read from the i-th token on as is wanted, up to the token of
// this number, or, if nothing is wanted, not read, and that number told? And are
// the tokens left as they are?
func holds(t *testing.T, line string, l []api.Token, i int, want string, end int) {
	t.Helper()
	before := slices.Clone(l)
	n, x, e := read(line, l, i)
	switch {
	case want == "" && (!zero(n) || x != end || e != api.ErrForm):
		t.Errorf("%s %.90q at %d: %.90q, %d, %v; want form at %d", line, text(l), i, look(n), x, e, end)
	case want != "" && (look(n) != want || x != end || e != api.OK):
		t.Errorf("%s %.90q at %d: %.90q, %d, %v; want %.90q, %d", line, text(l), i, look(n), x, e, want, end)
	case want != "" && !right(line, n):
		t.Errorf("%s %.90q at %d: not right: %.90q", line, text(l), i, look(n))
	}
	if !slices.Equal(l, before) {
		t.Errorf("%s: was %.90q, is %.90q", line, text(before), text(l))
	}
}

// alike: is a line read as the grammar, told anew, says?
func alike(t *testing.T, line string, l []api.Token, i int) {
	t.Helper()
	p, end := told(line, l, i)
	switch {
	case p == nil:
		holds(t, line, l, i, "", end)
	case line == "args":
		holds(t, line, l, i, look(args(argNodes(p, l), api.OK)), end)
	default:
		holds(t, line, l, i, look(node(p, l)), end)
	}
}

// strange are tokens with which nothing can be read, begun or gone on: of other
// kinds with the text of a mark, a word, a name or a number, and of these kinds
// with a text that is none, or a number below 0.
func strange() []api.Token {
	l := []api.Token{{}, {N: 1}, {Kind: 2, N: -1, Text: "1"}, {Kind: 2, N: math.MinInt, Text: "0"}, {Kind: 2, N: -1}}
	texts := strings.Fields("a int bool rev true false fork new ( ) [ ] , . + - * / % == != < <= > >= && || ! 0 7 len")
	for _, s := range append(texts, "") {
		for _, kind := range []int{0, 5, 6, 10, -1, -4, 1 + 1<<8, 2 + 1<<16, 3 + 1<<32, 4 + 1<<32, math.MinInt, math.MaxInt} {
			l = append(l, tok(kind, s), api.Token{Kind: kind, N: 7, Text: s})
		}
		if !isRight(s) {
			l = append(l, tok(1, s))
		}
		if !isIn(words, s) {
			l = append(l, tok(3, s))
		}
		if !isIn("( ) [ ] , . "+numbers, s) {
			l = append(l, tok(4, s))
		}
	}
	for _, s := range []string{"a b", " a", "a ", "1a", "a.b", "a-", "\xff", "a\xff", "\u00e4", "a\x00", rep("a", 33), "if", "()", "[]", "&", "|", "=!", "--", "( ", " ("} {
		l = append(l, tok(1, s), tok(3, s), tok(4, s))
	}
	for _, s := range strings.Fields("{ } ; =") {
		l = append(l, tok(1, s), tok(3, s), tok(4, s))
	}
	for _, s := range strings.Fields("rec iso fun merge main var if else while return join print by") {
		l = append(l, tok(1, s), tok(3, s), tok(4, s))
	}
	for _, s := range strings.Fields("Int INT True FORK New int1 trues") {
		l = append(l, tok(3, s), tok(4, s))
	}
	return l
}

// TestConstants: kinds, signs and errors are those of the document.
func TestConstants(t *testing.T) {
	kinds := []int{api.TypInt, api.TypBool, api.TypRev, api.TypRec, api.TypArr, api.Num, api.Flag, api.Name, api.Index, api.Field, api.Un, api.Bin, api.Call, api.Fork, api.New}
	if !slices.Equal(kinds, []int{1, 2, 3, 4, 5, 10, 11, 12, 13, 14, 15, 16, 17, 18, 19}) || api.NoNode != 0 {
		t.Error(kinds)
	}
	signs := []int{api.Plus, api.Minus, api.Times, api.Over, api.Rest, api.Same, api.Apart, api.Less, api.Most, api.More, api.Least, api.And, api.Or, api.Not}
	for i, n := range signs {
		if n != i+1 {
			t.Error(signs)
		}
	}
	if api.TokEnd != 0 || api.TokName != 1 || api.TokNum != 2 || api.TokWord != 3 || api.TokSign != 4 || api.OK != 0 || api.ErrForm != 1 {
		t.Error("kinds of tokens, errors")
	}
}

// TestExample: the chapter's (13.1).
func TestExample(t *testing.T) {
	holds(t, "expr", row("a + b * c < d"), 0, "<@5(+@1(a@0 *@3(b@2 c@4)) d@6)", 7)
	holds(t, "expr", row("a < b < c"), 0, "<@1(a@0 b@2)", 3)
	holds(t, "expr", row("a + )"), 0, "", 2)
}

// TestSource: 13.1, places are those of a source's tokens, and the last of
// these is behind what is read.
func TestSource(t *testing.T) {
	l, _, e := lex.All("# f\n f(x1,\n  -07 ) .y")
	if e != api.OK {
		t.Fatal(e)
	}
	n, i, e := expr.Expr(l, 0)
	if i != 9 || e != api.OK || n.Kind != api.Field || n.At != 19 || n.Name != "y" || n.N != 0 || len(n.Kids) != 1 {
		t.Fatal(n, i, e)
	}
	call := n.Kids[0]
	if call.Kind != api.Call || call.At != 5 || call.Name != "f" || call.N != 0 || len(call.Kids) != 2 {
		t.Fatal(call)
	}
	if x := call.Kids[0]; x.Kind != api.Name || x.At != 7 || x.Name != "x1" || x.N != 0 || x.Kids != nil {
		t.Error(x)
	}
	un := call.Kids[1]
	if un.Kind != api.Un || un.At != 13 || un.N != api.Minus || un.Name != "" || len(un.Kids) != 1 {
		t.Fatal(un)
	}
	if x := un.Kids[0]; x.Kind != api.Num || x.At != 14 || x.N != 7 || x.Name != "" || x.Kids != nil {
		t.Error(x)
	}
}

// shapes are texts that are read whole, by the lines of the grammar, with what
// they are.
var shapes = []struct{ line, src, want string }{
	{"type", "int", "int@0"},
	{"type", "bool", "bool@0"},
	{"type", "rev", "rev@0"},
	{"type", "P", "rec:P@0"},
	{"type", "len", "rec:len@0"},
	{"type", "[ ] int", "[]@0(int@2)"},
	{"type", "[ ] rev", "[]@0(rev@2)"},
	{"type", "[ ] [ ] P", "[]@0([]@2(rec:P@4))"},
	{"type", "[ ] [ ] [ ] bool", "[]@0([]@2([]@4(bool@6)))"},
	{"args", "( )", "args@0"},
	{"args", "( a )", "args@0(a@1)"},
	{"args", "( a , 1 )", "args@0(a@1 #1@3)"},
	{"args", "( a , a + b , ( c ) , f ( ) )", "args@0(a@1 +@4(a@3 b@5) c@8 call:f@11)"},
	{"expr", "7", "#7@0"},
	{"expr", "0", "#0@0"},
	{"expr", "9223372036854775807", "#9223372036854775807@0"},
	{"expr", "true", "flag#1@0"},
	{"expr", "false", "flag#0@0"},
	{"expr", "a", "a@0"},
	{"expr", "len", "len@0"},
	{"expr", "_9", "_9@0"},
	{"expr", "f ( )", "call:f@0"},
	{"expr", "f ( a )", "call:f@0(a@2)"},
	{"expr", "f ( a , b , 3 )", "call:f@0(a@2 b@4 #3@6)"},
	{"expr", "f ( g ( a ) , h ( ) )", "call:f@0(call:g@2(a@4) call:h@7)"},
	{"expr", "fill ( 3 , input ( 0 ) )", "call:fill@0(#3@2 call:input@4(#0@6))"},
	{"expr", "inputs ( )", "call:inputs@0"},
	{"expr", "len ( a , b )", "call:len@0(a@2 b@4)"},
	{"expr", "fork f ( )", "fork:f@0"},
	{"expr", "fork f ( a , 1 )", "fork:f@0(a@3 #1@5)"},
	{"expr", "fork len ( fork f ( ) )", "fork:len@0(fork:f@3)"},
	{"expr", "new P ( )", "new@0(rec:P@1)"},
	{"expr", "new P ( 1 , true )", "new@0(rec:P@1 #1@3 flag#1@5)"},
	{"expr", "new int ( )", "new@0(int@1)"},
	{"expr", "new bool ( a )", "new@0(bool@1 a@3)"},
	{"expr", "new [ ] int ( 1 , 2 )", "new@0([]@1(int@3) #1@5 #2@7)"},
	{"expr", "new [ ] [ ] rev ( new [ ] rev ( ) )", "new@0([]@1([]@3(rev@5)) new@7([]@8(rev@10)))"},
	{"expr", "( a )", "a@1"},
	{"expr", "( ( ( 1 ) ) )", "#1@3"},
	{"expr", "( a + b ) * c", "*@5(+@2(a@1 b@3) c@6)"},
	{"expr", "a * ( b + c )", "*@1(a@0 +@4(b@3 c@5))"},
	{"expr", "a [ 1 ]", "at@1(a@0 #1@2)"},
	{"expr", "a [ 1 ] [ b ]", "at@4(at@1(a@0 #1@2) b@5)"},
	{"expr", "a [ b [ c ] ]", "at@1(a@0 at@3(b@2 c@4))"},
	{"expr", "a [ b + 1 || c ]", "at@1(a@0 ||@5(+@3(b@2 #1@4) c@6))"},
	{"expr", "a . x", ".x@1(a@0)"},
	{"expr", "a . x . len", ".len@3(.x@1(a@0))"},
	{"expr", "a . x [ 0 ] . y", ".y@6(at@3(.x@1(a@0) #0@4))"},
	{"expr", "a [ 0 ] . x [ 1 ]", "at@6(.x@4(at@1(a@0 #0@2)) #1@7)"},
	{"expr", "f ( a ) [ 1 ] . x", ".x@7(at@4(call:f@0(a@2) #1@5))"},
	{"expr", "fork f ( ) . x", ".x@4(fork:f@0)"},
	{"expr", "new P ( 1 ) . x", ".x@5(new@0(rec:P@1 #1@3))"},
	{"expr", "( a + b ) [ 1 ]", "at@5(+@2(a@1 b@3) #1@6)"},
	{"expr", "( a ) . x", ".x@3(a@1)"},
	{"expr", "1 [ 2 ] . x", ".x@4(at@1(#1@0 #2@2))"},
	{"expr", "true . x", ".x@1(flag#1@0)"},
	{"expr", "- a", "un-@0(a@1)"},
	{"expr", "! a", "un!@0(a@1)"},
	{"expr", "- - a", "un-@0(un-@1(a@2))"},
	{"expr", "- ! ! - a", "un-@0(un!@1(un!@2(un-@3(a@4))))"},
	{"expr", "- 1", "un-@0(#1@1)"},
	{"expr", "! false", "un!@0(flag#0@1)"},
	{"expr", "- f ( - a )", "un-@0(call:f@1(un-@3(a@4)))"},
	{"expr", "! fork f ( )", "un!@0(fork:f@1)"},
	{"expr", "- new P ( )", "un-@0(new@1(rec:P@2))"},
	{"expr", "- ( a + b )", "un-@0(+@3(a@2 b@4))"},
	{"expr", "( - a )", "un-@1(a@2)"},
	{"expr", "( - a ) . x", ".x@4(un-@1(a@2))"},
	{"expr", "- a [ 1 ]", "un-@0(at@2(a@1 #1@3))"},
	{"expr", "! a . x", "un!@0(.x@2(a@1))"},
	{"expr", "- a * b", "*@2(un-@0(a@1) b@3)"},
	{"expr", "- a + - b", "+@2(un-@0(a@1) un-@3(b@4))"},
	{"expr", "a - - - b", "-@1(a@0 un-@2(un-@3(b@4)))"},
	{"expr", "! a == ! b", "==@2(un!@0(a@1) un!@3(b@4))"},
	{"expr", "! a && ! b || ! c", "||@5(&&@2(un!@0(a@1) un!@3(b@4)) un!@6(c@7))"},
	{"expr", "a [ - 1 ] - 1", "-@5(at@1(a@0 un-@2(#1@3)) #1@6)"},
	{"expr", "a || b && c == d + e * f", "||@1(a@0 &&@3(b@2 ==@5(c@4 +@7(d@6 *@9(e@8 f@10)))))"},
	{"expr", "a * b + c == d && e || f", "||@9(&&@7(==@5(+@3(*@1(a@0 b@2) c@4) d@6) e@8) f@10)"},
	{"expr", "a == b && c < d && e >= f", "&&@7(&&@3(==@1(a@0 b@2) <@5(c@4 d@6)) >=@9(e@8 f@10))"},
	{"expr", "( a < b ) < ( c < d )", "<@5(<@2(a@1 b@3) <@8(c@7 d@9))"},
	{"expr", "a + b - c + d", "+@5(-@3(+@1(a@0 b@2) c@4) d@6)"},
	{"expr", "a / b % c * d", "*@5(%@3(/@1(a@0 b@2) c@4) d@6)"},
	{"expr", "a || b || c", "||@3(||@1(a@0 b@2) c@4)"},
	{"expr", "a - ( b - c )", "-@1(a@0 -@4(b@3 c@5))"},
	{"expr", "f ( a < b , c == d )", "call:f@0(<@3(a@2 b@4) ==@7(c@6 d@8))"},
}

// TestShapes: 13.1, each line of the grammar with each of its choices.
func TestShapes(t *testing.T) {
	for _, x := range shapes {
		l := row(x.src)
		holds(t, x.line, l, 0, x.want, len(l))
	}
}

// TestBehind: 13.1, each of these with every kind of token behind it: what can't
// go on is not looked at, and what can belongs to it.
func TestBehind(t *testing.T) {
	for _, x := range shapes {
		l := row(x.src)
		for _, k := range strange() {
			holds(t, x.line, placed(l, []api.Token{k}), 0, x.want, len(l))
			holds(t, x.line, placed(l, []api.Token{k}, row("+ a )")), 0, x.want, len(l))
		}
		for _, k := range row("a 7 true int fork new ( ) [ ] , . ! - + * < && || ;") {
			alike(t, x.line, placed(l, []api.Token{k}), 0)
			alike(t, x.line, placed(l, []api.Token{k}, row("a )")), 0)
		}
	}
}

// TestMiddle: 13.1, each of these from a token in the middle on, whatever stands
// ahead.
func TestMiddle(t *testing.T) {
	for _, ahead := range []string{"a", "- (", "f ( a ,", "$", "new", "a + b [ 1 ]", "true . x", ") ] ;", "fork", "[ ]", "1 <"} {
		for _, x := range shapes {
			first := len(row(ahead))
			l := row(ahead + " " + x.src + " ; a")
			for i := range l {
				l[i].At -= 7 * first
			}
			holds(t, x.line, l, first, x.want, len(l)-2)
		}
	}
}

// TestSpoilt: 13.1, 13.2, each of these cut short at each token, with another
// one there, or one more: with what no line has, and with what some have.
func TestSpoilt(t *testing.T) {
	odd, turn := strange(), 0
	for _, x := range shapes {
		l := row(x.src)
		for k := range l {
			alike(t, x.line, l[:k], 0)
			p, end := told(x.line, l[:k], 0)
			for range 40 {
				turn++
				spoilt := placed(l[:k], odd[turn%len(odd):][:1], l[k+1:])
				want := ""
				if p != nil && x.line != "args" {
					want = look(node(p, spoilt))
				} else if p != nil {
					t.Fatal(x.src, k)
				}
				holds(t, x.line, spoilt, 0, want, end)
			}
			for _, r := range row("a 7 true int fork new ( ) [ ] , . ! - + * < && ||") {
				alike(t, x.line, placed(l[:k], []api.Token{r}, l[k+1:]), 0)
				alike(t, x.line, placed(l[:k], []api.Token{r}, l[k:]), 0)
			}
			alike(t, x.line, placed(l[:k], l[k+1:]), 0)
		}
	}
}

// TestFails: 13.1, the first token with which what is read so far can't go on.
func TestFails(t *testing.T) {
	for _, x := range []struct {
		line, src string
		end       int
	}{
		{"type", "$", 0}, {"type", "", 0}, {"type", "7", 0}, {"type", "true", 0}, {"type", "new", 0}, {"type", "(", 0}, {"type", "]", 0},
		{"type", "[", 1}, {"type", "[ $ ]", 1}, {"type", "[ int", 1}, {"type", "[ 3 ] int", 1}, {"type", "[ [ ] int", 1},
		{"type", "[ ]", 2}, {"type", "[ ] $", 2}, {"type", "[ ] 7", 2}, {"type", "[ ] ( int )", 2}, {"type", "[ ] ]", 2}, {"type", "[ ] fun", 2},
		{"type", "[ ] [ ] [", 5}, {"type", "[ ] [ ] [ int", 5}, {"type", "[ ] [ ] =", 4},
		{"args", "", 0}, {"args", "$", 0}, {"args", "a", 0}, {"args", ")", 0}, {"args", "[ ]", 0}, {"args", "{ }", 0},
		{"args", "(", 1}, {"args", "( $ )", 1}, {"args", "( , )", 1}, {"args", "( ]", 1}, {"args", "( int )", 1}, {"args", "( * a )", 1},
		{"args", "( a", 2}, {"args", "( a $", 2}, {"args", "( a b )", 2}, {"args", "( a ]", 2}, {"args", "( a ;", 2}, {"args", "( a = b )", 2},
		{"args", "( a ,", 3}, {"args", "( a , )", 3}, {"args", "( a , , b )", 3}, {"args", "( a , ]", 3}, {"args", "( a , b", 4}, {"args", "( a , b ]", 4},
		{"args", "( ( a )", 4}, {"args", "( ( a , b ) )", 3}, {"args", "( f ( a ) $ )", 5}, {"args", "( a < b < c )", 4},
		{"expr", "", 0}, {"expr", "$", 0}, {"expr", ")", 0}, {"expr", "]", 0}, {"expr", "[ 1 ]", 0}, {"expr", ". x", 0}, {"expr", "+ a", 0},
		{"expr", "* a", 0}, {"expr", "== a", 0}, {"expr", "&& a", 0}, {"expr", "|| a", 0}, {"expr", ", a", 0}, {"expr", "= a", 0}, {"expr", "; a", 0},
		{"expr", "int", 0}, {"expr", "int ( 1 )", 0}, {"expr", "rec", 0}, {"expr", "while", 0}, {"expr", "{ }", 0}, {"expr", "join a", 0},
		{"expr", "-", 1}, {"expr", "!", 1}, {"expr", "- + a", 1}, {"expr", "! )", 1}, {"expr", "- - - $", 3}, {"expr", "- ! int", 2},
		{"expr", "a +", 2}, {"expr", "a + )", 2}, {"expr", "a + $ b", 2}, {"expr", "a + * b", 2}, {"expr", "a || || b", 2}, {"expr", "a && ]", 2},
		{"expr", "a < $", 2}, {"expr", "a < < b", 2}, {"expr", "a == = b", 2}, {"expr", "a % ,", 2}, {"expr", "a - -", 3}, {"expr", "a - ! ;", 3},
		{"expr", "a + b *", 4}, {"expr", "a < b +", 4}, {"expr", "a < b && ", 4}, {"expr", "a || b < c *", 6}, {"expr", "a * - )", 3},
		{"expr", "a [", 2}, {"expr", "a [ ]", 2}, {"expr", "a [ $ ]", 2}, {"expr", "a [ 1", 3}, {"expr", "a [ 1 )", 3}, {"expr", "a [ 1 , 2 ]", 3},
		{"expr", "a [ 1 ] [", 5}, {"expr", "a [ b < c < d ]", 5}, {"expr", "a [ b [ 1 ]", 6}, {"expr", "a [ b + ]", 4},
		{"expr", "a .", 2}, {"expr", "a . $ x", 2}, {"expr", "a . 1", 2}, {"expr", "a . ( x )", 2}, {"expr", "a . . x", 2}, {"expr", "a . int", 2},
		{"expr", "a . new", 2}, {"expr", "a . x .", 4}, {"expr", "a . x . [ 1 ]", 4}, {"expr", "( a . ) x", 3}, {"expr", "a + b .", 4}, {"expr", "- a . -", 3},
		{"expr", "f (", 2}, {"expr", "f ( ,", 2}, {"expr", "f ( a", 3}, {"expr", "f ( a b", 3}, {"expr", "f ( a ]", 3}, {"expr", "f ( a , )", 4},
		{"expr", "f ( g ( a )", 6}, {"expr", "f ( a , g (", 6}, {"expr", "f ( a < b == c )", 5}, {"expr", "f ( $ )", 2},
		{"expr", "fork", 1}, {"expr", "fork $ f ( )", 1}, {"expr", "fork 1", 1}, {"expr", "fork ( f )", 1}, {"expr", "fork int ( )", 1}, {"expr", "fork fork f ( )", 1},
		{"expr", "fork f", 2}, {"expr", "fork f $ ( )", 2}, {"expr", "fork f [ 1 ]", 2}, {"expr", "fork f . g ( )", 2}, {"expr", "fork f + 1", 2}, {"expr", "fork f ( a", 4},
		{"expr", "fork f (", 3}, {"expr", "fork f ( a , )", 5},
		{"expr", "new", 1}, {"expr", "new $ P ( )", 1}, {"expr", "new 1", 1}, {"expr", "new ( P )", 1}, {"expr", "new true ( )", 1}, {"expr", "new new P ( )", 1},
		{"expr", "new P", 2}, {"expr", "new P $ ( )", 2}, {"expr", "new P [ 1 ]", 2}, {"expr", "new P . x", 2}, {"expr", "new int [ ] ( )", 2},
		{"expr", "new [", 2}, {"expr", "new [ 3 ] int ( )", 2}, {"expr", "new [ ] ( )", 3}, {"expr", "new [ ] P", 4}, {"expr", "new P (", 3},
		{"expr", "new P ( a", 4}, {"expr", "new P ( a , )", 5}, {"expr", "new P ( int )", 3},
		{"expr", "(", 1}, {"expr", "( )", 1}, {"expr", "( $ )", 1}, {"expr", "( a", 2}, {"expr", "( a ]", 2}, {"expr", "( a , b )", 2}, {"expr", "( a b )", 2},
		{"expr", "( ( a )", 4}, {"expr", "( a < b < c )", 4}, {"expr", "( a < b + c >= d )", 6}, {"expr", "( - )", 2}, {"expr", "( a ; )", 2}, {"expr", "( int )", 1},
		{"expr", "a + ( b", 4}, {"expr", "- ( - a $", 4}, {"expr", "a < b && ( c == d == e )", 8}, {"expr", "f ( a + ( b * - $ ) )", 8},
	} {
		holds(t, x.line, row(x.src), 0, "", x.end)
		holds(t, x.line, placed(row("a + "), row(x.src)), 2, "", x.end+2)
		alike(t, x.line, row(x.src), 0)
	}
}

// TestStops: 13.1, what is read ends ahead of the first token with which it
// can't go on.
func TestStops(t *testing.T) {
	for _, x := range []struct {
		line, src, want string
		end             int
	}{
		{"type", "int int", "int@0", 1},
		{"type", "P ( )", "rec:P@0", 1},
		{"type", "P . x", "rec:P@0", 1},
		{"type", "int [ ]", "int@0", 1},
		{"type", "[ ] int $", "[]@0(int@2)", 3},
		{"args", "( ) ( )", "args@0", 2},
		{"args", "( a ) [ 1 ]", "args@0(a@1)", 3},
		{"args", "( a ) . x", "args@0(a@1)", 3},
		{"args", "( a ) + b", "args@0(a@1)", 3},
		{"args", "( a ) , b )", "args@0(a@1)", 3},
		{"args", "( ( a ) ) )", "args@0(a@2)", 5},
		{"expr", "a b", "a@0", 1},
		{"expr", "a 1", "a@0", 1},
		{"expr", "a $ + b", "a@0", 1},
		{"expr", "a ! b", "a@0", 1},
		{"expr", "a = b", "a@0", 1},
		{"expr", "a )", "a@0", 1},
		{"expr", "a ]", "a@0", 1},
		{"expr", "a , b", "a@0", 1},
		{"expr", "a ; b", "a@0", 1},
		{"expr", "a { }", "a@0", 1},
		{"expr", "a new P ( )", "a@0", 1},
		{"expr", "1 ( )", "#1@0", 1},
		{"expr", "true ( )", "flag#1@0", 1},
		{"expr", "( f ) ( )", "f@1", 3},
		{"expr", "f ( ) ( )", "call:f@0", 3},
		{"expr", "a . f ( )", ".f@1(a@0)", 3},
		{"expr", "a [ 1 ] ( )", "at@1(a@0 #1@2)", 4},
		{"expr", "fork f ( ) ( )", "fork:f@0", 4},
		{"expr", "a < b < c", "<@1(a@0 b@2)", 3},
		{"expr", "a < b == c", "<@1(a@0 b@2)", 3},
		{"expr", "a == b + c != d", "==@1(a@0 +@3(b@2 c@4))", 5},
		{"expr", "a || b >= - c > d", "||@1(a@0 >=@3(b@2 un-@4(c@5)))", 6},
		{"expr", "a < b && c < d < e", "&&@3(<@1(a@0 b@2) <@5(c@4 d@6))", 7},
		{"expr", "( a < b ) < c < d", "<@5(<@2(a@1 b@3) c@6)", 7},
		{"expr", "a < ( b < c ) < d", "<@1(a@0 <@4(b@3 c@5))", 7},
		{"expr", "- a $ . x", "un-@0(a@1)", 2},
	} {
		holds(t, x.line, row(x.src), 0, x.want, x.end)
		alike(t, x.line, row(x.src), 0)
	}
}

// level is that of a sign between two, by the grammar's lines.
func level(s string) int {
	for i, signs := range []string{"||", "&&", compare, add, times} {
		if isIn(signs, s) {
			return i
		}
	}
	return -1
}

// TestTwoSigns: 13.1, each two signs held against each other.
func TestTwoSigns(t *testing.T) {
	for _, s := range strings.Fields(numbers) {
		for _, r := range strings.Fields(numbers) {
			l := row("a " + s + " b " + r + " c")
			left := s + "@1(a@0 b@2)"
			switch {
			case s == "!":
				holds(t, "expr", l, 0, "a@0", 1)
			case r == "!", level(s) == 2 && level(r) == 2:
				holds(t, "expr", l, 0, left, 3)
			case level(r) > level(s):
				holds(t, "expr", l, 0, s+"@1(a@0 "+r+"@3(b@2 c@4))", 5)
			default:
				holds(t, "expr", l, 0, r+"@3("+left+" c@4)", 5)
			}
		}
	}
}

// TestManySigns: 13.1, rows of signs of all levels, with signs ahead of what
// stands between them.
func TestManySigns(t *testing.T) {
	signs := strings.Fields(numbers)
	for i := range 13 * 13 * 13 {
		s, r, q := signs[i%13], signs[i/13%13], signs[i/169]
		alike(t, "expr", row("a "+s+" b "+r+" c "+q+" d"), 0)
	}
	signs = strings.Fields("|| && < != + - * %")
	for i := range 8 * 8 * 8 * 8 {
		alike(t, "expr", row("a "+signs[i%8]+" - b "+signs[i/8%8]+" ( c "+signs[i/64%8]+" d ) "+signs[i/512]+" e"), 0)
	}
}

// TestAhead: 13.1, signs ahead of each kind of part, between signs, and of what
// is none.
func TestAhead(t *testing.T) {
	for _, signs := range []string{"-", "!", "- -", "- !", "! -", "! !", "- - - ! ! -", "- + -", "! - *", "- (", "( -"} {
		for _, part := range []string{"a", "1", "true", "f ( )", "f ( - a )", "fork f ( )", "new P ( ! a )", "( a )", "( a + b )", "a [ - 1 ]", "a . x", "a . x [ 1 ]", "( ! a ) . x", ")", "$", "int", "new", "fork", ""} {
			for _, behind := range []string{"", "+ b", "* b", "< b", "&& b", "|| - b", ". y", "[ 2 ]", ")", ") . y", "- b", "! b"} {
				alike(t, "expr", row(signs+" "+part+" "+behind), 0)
				alike(t, "expr", row("a * "+signs+" "+part+" "+behind), 0)
			}
		}
	}
}

// TestPlaces: 13.1, from a token on that is not there, and of no tokens.
func TestPlaces(t *testing.T) {
	for _, l := range [][]api.Token{nil, {}, row("$"), row("a"), row("int"), row("( a )"), row("a + ( b )")} {
		for _, line := range []string{"type", "args", "expr"} {
			for _, i := range []int{len(l), len(l) + 1, len(l) + 2, len(l) + 100, -1, -2, -3, -100, math.MinInt, math.MinInt + 1, math.MaxInt, math.MaxInt - 1, 1 << 32, -1 << 32} {
				holds(t, line, l, i, "", i)
			}
			for i := range l {
				alike(t, line, l, i)
			}
		}
	}
}

// TestStrange: 13.1, 13.2, tokens that no source has, where one must stand that
// can go on.
func TestStrange(t *testing.T) {
	for _, k := range strange() {
		one := []api.Token{k}
		for _, line := range []string{"type", "args", "expr"} {
			holds(t, line, placed(one), 0, "", 0)
			holds(t, line, placed(one, row("( a )")), 0, "", 0)
			holds(t, line, placed(row("a"), one, row("a")), 1, "", 1)
		}
		holds(t, "type", placed(row("["), one, row("] int")), 0, "", 1)
		holds(t, "type", placed(row("[ ]"), one), 0, "", 2)
		holds(t, "args", placed(row("("), one, row(")")), 0, "", 1)
		holds(t, "args", placed(row("( a"), one, row("b )")), 0, "", 2)
		holds(t, "args", placed(row("( a ,"), one, row(")")), 0, "", 3)
		for _, ahead := range []string{"-", "a +", "a <", "(", "( a", "a [", "a [ 1", "a .", "f (", "f ( a", "fork", "fork f", "fork f (", "new", "new [", "new [ ]", "new P", "new P ("} {
			l := row(ahead)
			holds(t, "expr", placed(l, one, row("( )")), 0, "", len(l))
		}
	}
}

// TestOdd: 13.1, tokens that no source has, but of which the chapter tells what
// they are: at any place, numbers with any text, and others with any number.
func TestOdd(t *testing.T) {
	l := []api.Token{{Kind: 2, At: -5, N: 12}, {Kind: 4, At: -5, N: 9, Text: "+"}, {Kind: 2, At: math.MaxInt, N: math.MaxInt, Text: "a"}, {Kind: 4, At: math.MinInt, N: -1, Text: "*"}, {Kind: 1, N: math.MinInt, Text: "x"}}
	n, i, e := expr.Expr(l, 0)
	if i != 5 || e != api.OK || n.Kind != api.Bin || n.At != -5 || n.N != api.Plus || len(n.Kids) != 2 {
		t.Fatal(n, i, e)
	}
	x, y := n.Kids[0], n.Kids[1]
	if !tree.Same(x, api.Node{Kind: api.Num, N: 12}) || x.At != -5 || y.Kind != api.Bin || y.At != math.MinInt || y.N != api.Times || len(y.Kids) != 2 {
		t.Fatal(n)
	}
	x, y = y.Kids[0], y.Kids[1]
	if !tree.Same(x, api.Node{Kind: api.Num, N: math.MaxInt}) || x.At != math.MaxInt || !tree.Same(y, api.Node{Kind: api.Name, Name: "x"}) || y.At != 0 {
		t.Fatal(n)
	}
	for _, x := range shapes {
		l := row(x.src)
		for i := range l {
			switch {
			case l[i].Kind != 2:
				l[i].N = 3 - i
			case i%2 == 0:
				l[i].Text = ""
			default:
				l[i].Text = "("
			}
		}
		holds(t, x.line, l, 0, x.want, len(l))
	}
	l = []api.Token{{Kind: 4, At: 100, Text: "["}, {Kind: 4, At: 100, Text: "]"}, {Kind: 3, At: 100, N: 8, Text: "int"}}
	holds(t, "type", l, 0, "[]@0(int@0)", 3)
	for _, s := range []string{rep("a", 32), "_", "Z9_z", "ints", "If", "forks", "_new"} {
		holds(t, "expr", placed([]api.Token{tok(1, s)}), 0, s+"@0", 1)
		holds(t, "type", placed([]api.Token{tok(1, s)}), 0, "rec:"+s+"@0", 1)
	}
}

// TestNames: 13.1, 13.2, names of each byte, first and behind others: what lex
// tells as no name is none.
func TestNames(t *testing.T) {
	for b := range 256 {
		for _, s := range []string{string([]byte{byte(b)}), "a" + string([]byte{byte(b)}), rep("Z", 31) + string([]byte{byte(b)}), "9" + string([]byte{byte(b)})} {
			l := placed([]api.Token{tok(1, s)}, row("( )"))
			cuts, _, e := lex.All(s)
			if e != api.OK || len(cuts) != 2 || cuts[0].Kind != api.TokName || cuts[0].Text != s {
				holds(t, "expr", l, 0, "", 0)
				holds(t, "type", l, 0, "", 0)
				continue
			}
			holds(t, "expr", l, 0, "call:"+s+"@0", 3)
			holds(t, "type", l, 0, "rec:"+s+"@0", 1)
		}
	}
}

// TestAll: 13.1, 13.2, all rows of a few tokens with which something can be read
// that is longer than what is ahead of the last one, and any one more.
func TestAll(t *testing.T) {
	for _, x := range []struct {
		line, tokens string
		most         int
	}{
		{"type", "int bool rev a [ ] 7 ( $", 8},
		{"args", "a 7 true int fork new ( ) [ ] , . - ! + * < && || $", 5},
		{"expr", "a 7 true int fork new ( ) [ ] , . - ! + * < && || $", 4},
		{"args", "a ( ) , - [ ]", 7},
		{"expr", "a ( ) , - <", 6},
		{"expr", "a [ ] . ! * ||", 6},
		{"expr", "a new fork ( ) [ ] ,", 7},
		{"expr", "a - + * < && ||", 5},
	} {
		all := row(x.tokens)
		var grow func(l []api.Token)
		grow = func(l []api.Token) {
			if _, end := told(x.line, l, 0); end < len(l) {
				return
			}
			for _, k := range all {
				next := placed(l, []api.Token{k})
				alike(t, x.line, next, 0)
				if len(next) < x.most {
					grow(next)
				}
			}
		}
		grow(nil)
	}
}

// mixer tells numbers that look as if they had been drawn, the same ones each time.
type mixer uint64

func (m *mixer) below(n int) int {
	*m = *m*6364136223846793005 + 1442695040888963407
	return int(uint64(*m) >> 33 % uint64(n))
}

// grown are tokens that are a line of the grammar, or an item of one, by choices
// that are mixed; rows get shorter the deeper they lie.
func (m *mixer) grown(x item, deep int) []string {
	switch x.what {
	case "(", "[", "{":
		var l []string
		many := 1
		if x.what != "(" {
			many = m.below(max(1, 12-deep)) / 6
		}
		if x.what == "[" {
			many = min(many, 1)
		}
		for range many {
			choice := x.choices[m.below(len(x.choices))]
			if deep > 40 {
				choice = x.choices[min(len(x.choices), 3)-1]
			}
			for _, y := range choice {
				l = append(l, m.grown(y, deep+1)...)
			}
		}
		return l
	}
	if y, ok := theLines[x.what]; ok {
		return m.grown(y, deep)
	}
	for what, s := range map[string]string{"NAME": "a b x len _1", "NUMBER": "0 1 7 42", "COMPARE": compare, "ADD": add, "TIMES": times} {
		if what == x.what {
			l := strings.Fields(s)
			return []string{l[m.below(len(l))]}
		}
	}
	return []string{x.what[1 : len(x.what)-1]}
}

// TestMixed: 13.1, 13.2, long rows by mixed choices, whole, and with a token or
// two that are others.
func TestMixed(t *testing.T) {
	m := mixer(13)
	odd := append(strange(), row("a 7 true int fork new ( ) [ ] , . ! - + * < && || a 7 ( ) , . - + < &&")...)
	for turn := range 3000 {
		line := []string{"expr", "args", "expr", "type"}[turn%4]
		l := row(strings.Join(m.grown(theLines[line], 0), " "))
		if len(l) > 400 {
			continue
		}
		alike(t, line, placed(l, row("$")), 0)
		for range 3 {
			k := m.below(len(l))
			l = placed(l[:k], []api.Token{odd[len(odd)-1-m.below(30)]}, l[k+m.below(2):])
			alike(t, line, l, 0)
			l = placed(l[:k], []api.Token{odd[m.below(len(odd))]}, l[k:])
			alike(t, line, l, 0)
		}
	}
}

// TestAny: 13.1, 13.2, rows of any tokens at all, from any one on.
func TestAny(t *testing.T) {
	m := mixer(31)
	texts := strings.Fields("a b int bool rev true false fork new ( ) [ ] , . + - * / == < && || ! 0 7 = ;")
	for range 20000 {
		var l []api.Token
		for range m.below(9) {
			k := row(texts[m.below(len(texts))])[0]
			switch m.below(12) {
			case 0:
				k.Kind = m.below(8) - 2
			case 1:
				k.N = m.below(5) - 2
			case 2:
				k.Text = texts[m.below(len(texts))]
			case 3:
				k.Text = ""
			}
			l = append(l, k)
		}
		l = placed(l)
		line := []string{"expr", "args", "type"}[m.below(3)]
		alike(t, line, l, m.below(len(l)+3)-1)
	}
}

// great is the number of parts that lie in one another, or beside each other, in
// long rows and deep ones.
const great = 1 << 16

// many are the tokens of a text a number of times.
func many(s string, n int) []api.Token { return slices.Repeat(row(s), n) }

// deepest goes down from a node by its kids of a number, as many levels as are
// told: each one must be as is wanted, the kind, the number, the name, how many
// kids, and where. It is what it comes to.
func deepest(t *testing.T, n api.Node, levels, kid int, want func(level int) api.Node) api.Node {
	t.Helper()
	for level := range levels {
		w := want(level)
		if n.Kind != w.Kind || n.N != w.N || n.Name != w.Name || n.At != 7*w.At+100 || len(n.Kids) != len(w.Kids) {
			t.Fatalf("level %d: %d %d %q, %d kids, at %d; want %d %d %q, %d kids, at %d", level, n.Kind, n.N, n.Name, len(n.Kids), n.At, w.Kind, w.N, w.Name, len(w.Kids), 7*w.At+100)
		}
		n = n.Kids[kid]
	}
	return n
}

// TestDeep: 13.1, 13.2, very many parts that lie in one another.
func TestDeep(t *testing.T) {
	kids := func(n int) []api.Node { return make([]api.Node, n) }
	for _, x := range []struct {
		line, open, in, shut string
		kid                  int
		want                 func(level int) api.Node
	}{
		{"type", "[ ]", "int", "", 0, func(i int) api.Node { return api.Node{Kind: 5, At: 2 * i, Kids: kids(1)} }},
		{"expr", "-", "a", "", 0, func(i int) api.Node { return api.Node{Kind: 15, N: 2, At: i, Kids: kids(1)} }},
		{"expr", "!", "a", "", 0, func(i int) api.Node { return api.Node{Kind: 15, N: 14, At: i, Kids: kids(1)} }},
		{"expr", "f (", "a", ")", 0, func(i int) api.Node { return api.Node{Kind: 17, Name: "f", At: 2 * i, Kids: kids(1)} }},
		{"expr", "fork f ( 1 ,", "a", ")", 1, func(i int) api.Node { return api.Node{Kind: 18, Name: "f", At: 5 * i, Kids: kids(2)} }},
		{"expr", "new P (", "a", ", 2 )", 1, func(i int) api.Node { return api.Node{Kind: 19, At: 3 * i, Kids: kids(3)} }},
		{"expr", "b [", "a", "]", 1, func(i int) api.Node { return api.Node{Kind: 13, At: 2*i + 1, Kids: kids(2)} }},
		{"expr", "b + (", "a", ")", 1, func(i int) api.Node { return api.Node{Kind: 16, N: 1, At: 3*i + 1, Kids: kids(2)} }},
		{"expr", "- (", "a", ")", 0, func(i int) api.Node { return api.Node{Kind: 15, N: 2, At: 2 * i, Kids: kids(1)} }},
		{"expr", "", "a", ". x", 0, func(i int) api.Node { return api.Node{Kind: 14, Name: "x", At: 2*(great-i) - 1, Kids: kids(1)} }},
		{"expr", "", "a", "[ 1 ]", 0, func(i int) api.Node { return api.Node{Kind: 13, At: 3*(great-1-i) + 1, Kids: kids(2)} }},
		{"expr", "", "a", "|| b", 0, func(i int) api.Node { return api.Node{Kind: 16, N: 13, At: 2*(great-i) - 1, Kids: kids(2)} }},
		{"expr", "", "a", "- b", 0, func(i int) api.Node { return api.Node{Kind: 16, N: 2, At: 2*(great-i) - 1, Kids: kids(2)} }},
		{"expr", "", "a", "% b", 0, func(i int) api.Node { return api.Node{Kind: 16, N: 5, At: 2*(great-i) - 1, Kids: kids(2)} }},
	} {
		l := placed(many(x.open, great), row(x.in), many(x.shut, great), row("$"))
		n, i, e := read(x.line, l, 0)
		if i != len(l)-1 || e != api.OK || !right(x.line, n) {
			t.Fatalf("%s %s: %d, %v", x.open, x.shut, i, e)
		}
		first := great * len(strings.Fields(x.open))
		if last := deepest(t, n, great, x.kid, x.want); look(last) != x.in+"@"+strconv.Itoa(first) {
			t.Errorf("%s %s: %.90q", x.open, x.shut, look(last))
		}
		if shut := len(strings.Fields(x.shut)); x.open != "" && shut > 0 {
			holds(t, x.line, l[:len(l)-1-shut], 0, "", len(l)-1-shut)
		}
	}
	for _, open := range []string{"(", "[ ]", "-", "f (", "new [ ] int (", "a [", "a + b * (", "( - a [ f ( ! "} {
		line := "expr"
		if open == "[ ]" {
			line = "type"
		}
		l := placed(many(open, great))
		holds(t, line, l, 0, "", len(l))
	}
	holds(t, "expr", placed(many("(", great), row("a"), many(")", great+1)), 0, "a@"+strconv.Itoa(great), 2*great+1)
}

// TestMany: 13.1, very many expressions beside each other.
func TestMany(t *testing.T) {
	l := placed(row("( a"), many(", f ( 1 )", great), row(")"))
	kids, i, e := expr.Args(l, 0)
	if i != len(l) || e != api.OK || len(kids) != great+1 {
		t.Fatal(len(kids), i, e)
	}
	for k, n := range kids[1:] {
		at := strconv.Itoa(5*k + 3)
		if look(n) != "call:f@"+at+"(#1@"+strconv.Itoa(5*k+5)+")" {
			t.Fatal(k, look(n))
		}
	}
	holds(t, "args", l[:len(l)-1], 0, "", len(l)-1)
	l[len(l)-1].Text = "]"
	holds(t, "args", l, 0, "", len(l)-1)
}

// TestNewMemory: 13.1, what Args tells is new memory: what is written into it,
// and behind it, is told by no later call, and no two lists of it share any.
func TestNewMemory(t *testing.T) {
	l := row("( a , f ( b , c ) , g ( d ) , fork h ( ) , new P ( e ) , i [ 1 ] , - j )")
	const want = "args@0(a@1 call:f@3(b@5 c@7) call:g@10(d@12) fork:h@15 new@20(rec:P@21 e@23) at@27(i@26 #1@28) un-@31(j@32))"
	holds(t, "args", l, 0, want, len(l))
	kids, _, _ := expr.Args(l, 0)
	kids = append(kids, api.Node{Kind: 10})
	for i := range kids {
		kids[i].Kids = append(kids[i].Kids, api.Node{Kind: 10, N: 5})
		kids[i].Name = "z"
	}
	holds(t, "args", l, 0, want, len(l))
	for i := range kids {
		if last := kids[i].Kids[len(kids[i].Kids)-1]; last.N != 5 {
			t.Error(i, look(kids[i]))
		}
	}
	if x := kids[1].Kids; len(x) != 3 || look(x[0]) != "b@5" || look(x[1]) != "c@7" {
		t.Error(look(kids[1]))
	}
	if x := kids[2].Kids; len(x) != 2 || look(x[0]) != "d@12" {
		t.Error(look(kids[2]))
	}
	if x := kids[4].Kids; len(x) != 3 || look(x[0]) != "rec:P@21" || look(x[1]) != "e@23" {
		t.Error(look(kids[4]))
	}
}
