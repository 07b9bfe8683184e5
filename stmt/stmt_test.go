package stmt_test

import (
	"math"
	"slices"
	"strconv"
	"strings"
	"testing"

	"marline/api"
	"marline/lex"
	"marline/stmt"
	"marline/tree"
)

// tok and rep make a token, and a text n times.
func tok(kind int, s string) api.Token { return api.Token{Kind: kind, Text: s} }
func rep(s string, n int) string       { return strings.Repeat(s, n) }

// placed are tokens, each at a place from which its number can be told.
func placed(l ...[]api.Token) []api.Token {
	all := slices.Concat(l...)
	for i := range all {
		all[i].At = 7*i + 100
	}
	return all
}

// row are the tokens of a text with a blank between any two: $ the end, digits a
// number, letters a name or a word, all others marks.
func row(s string) []api.Token {
	var l []api.Token
	for _, s := range strings.Fields(s) {
		n, err := strconv.Atoi(s)
		switch {
		case s == "$":
			l = append(l, tok(0, ""))
		case isIn(words, s):
			l = append(l, tok(3, s))
		case isRight(s):
			l = append(l, tok(1, s))
		case err == nil && s[0] != '-' && s[0] != '+':
			l = append(l, api.Token{Kind: 2, N: n, Text: s})
		default:
			l = append(l, tok(4, s))
		}
	}
	return placed(l)
}

// text are tokens as a text, to be told where they are wrong.
func text(l []api.Token) string {
	var b strings.Builder
	for _, k := range l {
		b.WriteString(" " + strconv.Itoa(k.Kind) + k.Text)
	}
	return b.String()
}

// look is a node as a text, with the number of the token where it stands, - for
// the place 0: any two look unlike that have anything unlike.
func look(n api.Node) string {
	var b strings.Builder
	write(&b, n)
	return b.String()
}

// kinds are the kinds of nodes, as they are told.
var kinds = map[int]string{0: "none", 1: "int", 2: "bool", 3: "rev", 4: "of:", 5: "[]", 10: "", 11: "flag", 12: "", 13: "at", 14: ".", 15: "un", 16: "", 17: "call:", 18: "fork:", 19: "new",
	30: "block", 31: "var:", 32: "set", 33: "if", 34: "while", 35: "return", 36: "join:", 37: "print", 38: "do", 50: "param:", 51: "rec:", 52: "iso:", 53: "fun:", 54: "merge:", 55: "prog"}

func write(b *strings.Builder, n api.Node) {
	text, ok := kinds[n.Kind]
	if !ok {
		text = "kind" + strconv.Itoa(n.Kind) + ":"
	}
	signs := strings.Fields(numbers)
	b.WriteString(text + n.Name)
	switch {
	case (n.Kind == 15 || n.Kind == 16) && n.N > 0 && n.N <= len(signs):
		b.WriteString(signs[n.N-1])
	case n.N != 0 || n.Kind == 10 || n.Kind == 11:
		b.WriteString("#" + strconv.Itoa(n.N))
	}
	if n.At == 0 {
		b.WriteString("@-")
	} else {
		b.WriteString("@" + strconv.Itoa((n.At-100)/7))
	}
	between := "("
	for _, k := range n.Kids {
		b.WriteString(between)
		write(b, k)
		between = " "
	}
	if between == " " {
		b.WriteString(")")
	}
}

// read reads a line of the grammar by the function that there is for it.
func read(line string, l []api.Token, i int) (api.Node, int, api.Errno) {
	switch line {
	case "stmt":
		return stmt.Stmt(l, i)
	case "decl":
		return stmt.Decl(l, i)
	}
	return stmt.Prog(l)
}

// right: is what is read what the chapter calls it (14.3)?
func right(line string, n api.Node) bool {
	switch line {
	case "stmt":
		return tree.Stmt(n)
	case "decl":
		return tree.Decl(n)
	}
	return tree.Prog(n)
}

// zero: is a node the zero node?
func zero(n api.Node) bool {
	return n.Kind == 0 && n.At == 0 && n.N == 0 && n.Name == "" && len(n.Kids) == 0
}

// holds: is a line read from the i-th token on as is wanted, up to the token of
// this number, or, if nothing is wanted, not read, and that number told? And are
// the tokens left as they are?
func holds(t *testing.T, line string, l []api.Token, i int, want string, end int) {
	t.Helper()
	before := slices.Clone(l)
	n, x, e := read(line, l, i)
	switch {
	case want == "" && (!zero(n) || x != end || e != api.ErrForm):
		t.Errorf("%s %.90q at %d: %.90q, %d, %v; want form at %d", line, text(l), i, look(n), x, e, end)
	case want != "" && (look(n) != want || x != end || e != api.OK):
		t.Errorf("%s %.90q at %d: %.90q, %d, %v; want %.90q, %d", line, text(l), i, look(n), x, e, want, end)
	case want != "" && !right(line, n):
		t.Errorf("%s %.90q at %d: not right: %.90q", line, text(l), i, look(n))
	}
	if !slices.Equal(l, before) {
		t.Errorf("%s: was %.90q, is %.90q", line, text(before), text(l))
	}
}

// alike: is a line read as the grammar, told anew, says?
func alike(t *testing.T, line string, l []api.Token, i int) {
	t.Helper()
	p, end := told(line, l, i)
	if p == nil {
		holds(t, line, l, i, "", end)
		return
	}
	holds(t, line, l, i, look(node(p, l)), end)
}

// usual are tokens with which something can be read, begun or gone on, one of
// each kind that the grammar parts from another.
const usual = "a len 7 0 true int fork new ( ) [ ] { } , . ; = ! - + * < && || rec iso fun merge main var if else while return join print by $"

// strange are tokens with which nothing can be read, begun or gone on: of other
// kinds with the text of a mark, a word, a name or a number, and of these kinds
// with a text that is none, or a number below 0.
func strange() []api.Token {
	l := []api.Token{{Kind: 2, N: -1, Text: "1"}, {Kind: 2, N: math.MinInt, Text: "0"}, {Kind: 2, N: -1}}
	marks := "( ) [ ] { } , . ; = " + numbers
	for _, s := range append(strings.Fields(marks+" "+words+" a len 0 7"), "") {
		for _, kind := range []int{5, 6, 10, -1, -4, 1 + 1<<8, 2 + 1<<16, 3 + 1<<32, 4 + 1<<32, math.MinInt, math.MaxInt} {
			l = append(l, api.Token{Kind: kind, N: 7, Text: s})
		}
		if !isRight(s) {
			l = append(l, tok(1, s))
		}
		if !isIn(words, s) {
			l = append(l, tok(3, s))
		}
		if !isIn(marks, s) {
			l = append(l, tok(4, s))
		}
	}
	for _, s := range []string{"a b", " a", "a ", "1a", "a.b", "a-", "\xff", "a\xff", "\u00e4", "a\x00", rep("a", 33), "()", "{}", "[]", "&", "|", "=!", "--", "{ ", " {", "; ", " ;", "} ", "};", "= ", "==="} {
		l = append(l, tok(1, s), tok(3, s), tok(4, s))
	}
	for _, s := range strings.Fields("If IF Else WHILE Main Rec Isos returns joinn prints vars bye mainx") {
		l = append(l, tok(3, s), tok(4, s))
	}
	return l
}

// ends are tokens of the kind TokEnd: with the text of a mark or a word, too.
func ends() []api.Token {
	l := []api.Token{{}, {N: 1}, {N: -1}}
	for _, s := range strings.Fields("{ } ; = ( ) [ ] , . main rec iso fun merge var if else while return join print by int a 7") {
		l = append(l, tok(0, s), api.Token{N: 7, Text: s})
	}
	return l
}

// TestConstants: kinds and errors are those of the document.
func TestConstants(t *testing.T) {
	all := []int{api.Block, api.Var, api.Set, api.If, api.While, api.Return, api.Join, api.Print, api.Do}
	if !slices.Equal(all, []int{30, 31, 32, 33, 34, 35, 36, 37, 38}) {
		t.Error(all)
	}
	all = []int{api.Param, api.Rec, api.Iso, api.Fun, api.Merge, api.Prog, api.NoNode, api.Call, api.Name, api.Index, api.Field}
	if !slices.Equal(all, []int{50, 51, 52, 53, 54, 55, 0, 17, 12, 13, 14}) {
		t.Error(all)
	}
	if api.TokEnd != 0 || api.TokName != 1 || api.TokNum != 2 || api.TokWord != 3 || api.TokSign != 4 || api.OK != 0 || api.ErrForm != 1 {
		t.Error("kinds of tokens, errors")
	}
}

// TestExample: the chapter's (14.1).
func TestExample(t *testing.T) {
	holds(t, "stmt", row("x . y [ 1 ] = 2 ;"), 0, "set@6(at@3(.y@1(x@0) #1@4) #2@7)", 9)
	holds(t, "stmt", row("f ( 1 ) ;"), 0, "do@0(call:f@0(#1@2))", 5)
}

// TestSource: 14.2, places are those of a source's tokens, and 0 of a program
// and of a node of the kind NoNode.
func TestSource(t *testing.T) {
	l, _, e := lex.All("# p\nfun f(a int) { }\niso x[3] int by f;\nmain { x[0] = 07; f(1); }")
	if e != api.OK {
		t.Fatal(e)
	}
	n, i, e := stmt.Prog(l)
	if i != len(l)-1 || e != api.OK || n.Kind != api.Prog || n.At != 0 || n.N != 0 || n.Name != "" || len(n.Kids) != 3 {
		t.Fatal(n, i, e)
	}
	var at []int
	for k := range tree.Walk(n) {
		at = append(at, k.At)
	}
	// Prog; Fun, Param, int, NoNode, Block; Iso, int, Name; Block, Set, Index, x, 0, 07, Do, Call, 1.
	want := []int{0, 4, 10, 12, 0, 17, 21, 30, 37, 45, 52, 48, 47, 49, 54, 58, 58, 60}
	if !slices.Equal(at, want) {
		t.Error(at)
	}
	if n.Kids[1].N != 3 || n.Kids[1].Name != "x" || n.Kids[0].Kids[1].Kind != api.NoNode {
		t.Error(look(n))
	}
}

// shapes are texts that are read whole, by the lines of the grammar, with what
// they are.
var shapes = []struct{ line, src, want string }{
	{"stmt", "{ }", "block@0"},
	{"stmt", "{ { } }", "block@0(block@1)"},
	{"stmt", "{ { } { { } } }", "block@0(block@1 block@3(block@4))"},
	{"stmt", "{ x = 1 ; }", "block@0(set@2(x@1 #1@3))"},
	{"stmt", "{ f ( ) ; return ; join h ; }", "block@0(do@1(call:f@1) return@5 join:h@7)"},
	{"stmt", "var a = 1 ;", "var:a@0(#1@3)"},
	{"stmt", "var len = a + b ;", "var:len@0(+@4(a@3 b@5))"},
	{"stmt", "var a = fork f ( ) ;", "var:a@0(fork:f@3)"},
	{"stmt", "var a = b == c ;", "var:a@0(==@4(b@3 c@5))"},
	{"stmt", "x = 1 ;", "set@1(x@0 #1@2)"},
	{"stmt", "len = true ;", "set@1(len@0 flag#1@2)"},
	{"stmt", "x = - y ;", "set@1(x@0 un-@2(y@3))"},
	{"stmt", "x [ 1 ] = 2 ;", "set@4(at@1(x@0 #1@2) #2@5)"},
	{"stmt", "x [ 1 ] [ a + b ] = 2 ;", "set@9(at@4(at@1(x@0 #1@2) +@6(a@5 b@7)) #2@10)"},
	{"stmt", "x . y = 2 ;", "set@3(.y@1(x@0) #2@4)"},
	{"stmt", "x . y . len = 2 ;", "set@5(.len@3(.y@1(x@0)) #2@6)"},
	{"stmt", "x . y [ 1 ] . z = a . b ;", "set@8(.z@6(at@3(.y@1(x@0) #1@4)) .b@10(a@9))"},
	{"stmt", "x [ y [ 0 ] . z ] = x [ 1 ] ;", "set@9(at@1(x@0 .z@6(at@3(y@2 #0@4))) at@11(x@10 #1@12))"},
	{"stmt", "x [ f ( a ) ] = 1 ;", "set@7(at@1(x@0 call:f@2(a@4)) #1@8)"},
	{"stmt", "f ( ) ;", "do@0(call:f@0)"},
	{"stmt", "f ( a , b + 1 ) ;", "do@0(call:f@0(a@2 +@5(b@4 #1@6)))"},
	{"stmt", "len ( x ) ;", "do@0(call:len@0(x@2))"},
	{"stmt", "inputs ( ) ;", "do@0(call:inputs@0)"},
	{"stmt", "fill ( 1 , f ( ) ) ;", "do@0(call:fill@0(#1@2 call:f@4))"},
	{"stmt", "if a { }", "if@0(a@1 block@2)"},
	{"stmt", "if a < b { x = 1 ; }", "if@0(<@2(a@1 b@3) block@4(set@6(x@5 #1@7)))"},
	{"stmt", "if a { } else { }", "if@0(a@1 block@2 block@5)"},
	{"stmt", "if a { } else { return ; }", "if@0(a@1 block@2 block@5(return@6))"},
	{"stmt", "if a { } else if b { }", "if@0(a@1 block@2 if@5(b@6 block@7))"},
	{"stmt", "if a { } else if b { } else { }", "if@0(a@1 block@2 if@5(b@6 block@7 block@10))"},
	{"stmt", "if a { } else if b { } else if c { x = 1 ; } else { { } }", "if@0(a@1 block@2 if@5(b@6 block@7 if@10(c@11 block@12(set@14(x@13 #1@15)) block@19(block@20))))"},
	{"stmt", "if a { if b { } else { } } else { if c { } }", "if@0(a@1 block@2(if@3(b@4 block@5 block@8)) block@12(if@13(c@14 block@15)))"},
	{"stmt", "if a { if b { } } else { }", "if@0(a@1 block@2(if@3(b@4 block@5)) block@9)"},
	{"stmt", "if f ( a ) { }", "if@0(call:f@1(a@3) block@5)"},
	{"stmt", "if ( a ) { }", "if@0(a@2 block@4)"},
	{"stmt", "while true { }", "while@0(flag#1@1 block@2)"},
	{"stmt", "while a || b { x = 1 ; while c { } }", "while@0(||@2(a@1 b@3) block@4(set@6(x@5 #1@7) while@9(c@10 block@11)))"},
	{"stmt", "{ if a { } while b { } if c { } else { } }", "block@0(if@1(a@2 block@3) while@5(b@6 block@7) if@9(c@10 block@11 block@14))"},
	{"stmt", "return ;", "return@0"},
	{"stmt", "return a ;", "return@0(a@1)"},
	{"stmt", "return a + b * c ;", "return@0(+@2(a@1 *@4(b@3 c@5)))"},
	{"stmt", "return new P ( 1 ) ;", "return@0(new@1(of:P@2 #1@4))"},
	{"stmt", "join h ;", "join:h@0"},
	{"stmt", "join len ;", "join:len@0"},
	{"stmt", "print 0 ;", "print@0(#0@1)"},
	{"stmt", "print a [ 1 ] . b ;", "print@0(.b@5(at@2(a@1 #1@3)))"},
	{"decl", "rec P { a int ; }", "rec:P@0(param:a@3(int@4))"},
	{"decl", "rec P { a int ; b bool ; c [ ] P ; }", "rec:P@0(param:a@3(int@4) param:b@6(bool@7) param:c@9([]@10(of:P@12)))"},
	{"decl", "rec len { len len ; a a ; }", "rec:len@0(param:len@3(of:len@4) param:a@6(of:a@7))"},
	{"decl", "iso x int ;", "iso:x@0(int@2)"},
	{"decl", "iso x bool ;", "iso:x@0(bool@2)"},
	{"decl", "iso x rev ;", "iso:x@0(rev@2)"},
	{"decl", "iso x P ;", "iso:x@0(of:P@2)"},
	{"decl", "iso x [ ] int ;", "iso:x@0([]@2(int@4))"},
	{"decl", "iso x [ ] [ ] P ;", "iso:x@0([]@2([]@4(of:P@6)))"},
	{"decl", "iso x [ 3 ] int ;", "iso:x#3@0(int@5)"},
	{"decl", "iso x [ 1 ] rev ;", "iso:x#1@0(rev@5)"},
	{"decl", "iso x [ 9223372036854775807 ] P ;", "iso:x#9223372036854775807@0(of:P@5)"},
	{"decl", "iso x [ 2 ] [ ] bool ;", "iso:x#2@0([]@5(bool@7))"},
	{"decl", "iso x int by f ;", "iso:x@0(int@2 f@4)"},
	{"decl", "iso x [ ] P by len ;", "iso:x@0([]@2(of:P@4) len@6)"},
	{"decl", "iso x [ 64 ] int by f ;", "iso:x#64@0(int@5 f@7)"},
	{"decl", "iso x [ 64 ] [ ] [ ] int by f ;", "iso:x#64@0([]@5([]@7(int@9)) f@11)"},
	{"decl", "fun f ( ) { }", "fun:f@0(none@- block@4)"},
	{"decl", "fun f ( ) int { return 1 ; }", "fun:f@0(int@4 block@5(return@6(#1@7)))"},
	{"decl", "fun f ( ) [ ] P { }", "fun:f@0([]@4(of:P@6) block@7)"},
	{"decl", "fun len ( a int ) { }", "fun:len@0(param:a@3(int@4) none@- block@6)"},
	{"decl", "fun f ( a int , b [ ] bool , c P ) rev { { } }", "fun:f@0(param:a@3(int@4) param:b@6([]@7(bool@9)) param:c@11(of:P@12) rev@14 block@15(block@16))"},
	{"decl", "fun f ( a b , c d ) e { f ( a ) ; }", "fun:f@0(param:a@3(of:b@4) param:c@6(of:d@7) of:e@9 block@10(do@11(call:f@11(a@13))))"},
	{"decl", "merge m ( a int , b int , c int ) { }", "merge:m@0(param:a@3(int@4) param:b@6(int@7) param:c@9(int@10) block@12)"},
	{"decl", "merge m ( o [ ] P , len bool , t Q ) { return a ; }", "merge:m@0(param:o@3([]@4(of:P@6)) param:len@8(bool@9) param:t@11(of:Q@12) block@14(return@15(a@16)))"},
	{"program", "main { } $", "prog@-(block@1)"},
	{"program", "main { print 1 + 2 ; } $", "prog@-(block@1(print@2(+@4(#1@3 #2@5))))"},
	{"program", "rec P { a int ; } main { } $", "prog@-(rec:P@0(param:a@3(int@4)) block@8)"},
	{"program", "iso x int ; main { x = 5 ; } $", "prog@-(iso:x@0(int@2) block@5(set@7(x@6 #5@8)))"},
	{"program", "fun f ( ) { } iso x int ; fun g ( ) { } main { } $", "prog@-(fun:f@0(none@- block@4) iso:x@6(int@8) fun:g@10(none@- block@14) block@17)"},
	{"program", "merge m ( a int , b int , c int ) { } rec P { a int ; } rec P { a int ; } iso y [ 2 ] P by m ; main { { } } $", "prog@-(merge:m@0(param:a@3(int@4) param:b@6(int@7) param:c@9(int@10) block@12) rec:P@14(param:a@17(int@18)) rec:P@21(param:a@24(int@25)) iso:y#2@28(of:P@33 m@35) block@38(block@39))"},
}

// whole is the number of the token behind what tokens are as a whole.
func whole(line string, l []api.Token) int {
	if line == "program" {
		return len(l) - 1
	}
	return len(l)
}

// TestShapes: 14.1, 14.2, 14.3, each line of the grammar with each of its choices.
func TestShapes(t *testing.T) {
	for _, x := range shapes {
		l := row(x.src)
		holds(t, x.line, l, 0, x.want, whole(x.line, l))
		alike(t, x.line, l, 0)
	}
}

// TestBehind: 14.1, each of these with every kind of token behind it: what can't
// go on is not looked at, and an else that is there belongs to it. 14.2: behind a
// program there is nothing but the end.
func TestBehind(t *testing.T) {
	odd := append(strange(), ends()...)
	for _, x := range shapes {
		l := row(x.src)
		if x.line == "program" {
			l = l[:len(l)-1]
			for _, k := range strange() {
				holds(t, x.line, placed(l, []api.Token{k}), 0, "", len(l))
				holds(t, x.line, placed(l, []api.Token{k}, row("$")), 0, "", len(l))
			}
			for _, k := range ends() {
				holds(t, x.line, placed(l, []api.Token{k}), 0, x.want, len(l))
				holds(t, x.line, placed(l, []api.Token{k}, row("$")), 0, "", len(l))
				holds(t, x.line, placed(l, []api.Token{k}, row("a $")), 0, "", len(l))
			}
		} else {
			for _, k := range odd {
				holds(t, x.line, placed(l, []api.Token{k}), 0, x.want, len(l))
				holds(t, x.line, placed(l, []api.Token{k}, row("else { }")), 0, x.want, len(l))
			}
		}
		for _, k := range row(usual) {
			alike(t, x.line, placed(l, []api.Token{k}), 0)
			alike(t, x.line, placed(l, []api.Token{k}, row("{ } $")), 0)
		}
	}
}

// TestElse: 14.1, an else that is there belongs to what is read, whatever comes
// behind it.
func TestElse(t *testing.T) {
	odd := append(strange(), ends()...)
	for _, src := range []string{"if a { }", "if a { } else if b { }", "if a { x = 1 ; } else if b { } else if c { }"} {
		l := row(src + " else")
		holds(t, "stmt", l, 0, "", len(l))
		for _, k := range append(odd, row("else a ; } while ( 7 main $")...) {
			holds(t, "stmt", placed(l, []api.Token{k}, row("{ }")), 0, "", len(l))
		}
		holds(t, "stmt", placed(l, row("{")), 0, "", len(l)+1)
		holds(t, "stmt", placed(l, row("if")), 0, "", len(l)+1)
		holds(t, "stmt", placed(l, row("if b")), 0, "", len(l)+2)
		holds(t, "stmt", placed(l, row("if b { } else")), 0, "", len(l)+5)
	}
	holds(t, "stmt", row("if a { } else { } else { }"), 0, "if@0(a@1 block@2 block@5)", 7)
	holds(t, "stmt", row("if a { } else if b { } else { } else { }"), 0, "if@0(a@1 block@2 if@5(b@6 block@7 block@10))", 12)
	holds(t, "stmt", row("while a { } else { }"), 0, "while@0(a@1 block@2)", 4)
	holds(t, "stmt", row("{ } else { }"), 0, "block@0", 2)
	holds(t, "stmt", row("{ if a { } } else { }"), 0, "block@0(if@1(a@2 block@3))", 6)
	holds(t, "decl", row("fun f ( ) { if a { } } else { }"), 0, "fun:f@0(none@- block@4(if@5(a@6 block@7)))", 10)
}

// TestMiddle: 14.1, each of these from a token in the middle on, whatever stands
// ahead.
func TestMiddle(t *testing.T) {
	for _, ahead := range []string{"a", "if a { } else", "{ {", "$", "main {", "x =", "fun f ( ) int", ") ] ;", "var", "iso x [", "}", "else if", "merge m ( a int ,"} {
		for _, x := range shapes {
			if x.line == "program" {
				continue
			}
			first := len(row(ahead))
			l := row(ahead + " " + x.src + " ; a")
			for i := range l {
				l[i].At -= 7 * first
			}
			holds(t, x.line, l, first, x.want, len(l)-2)
		}
	}
}

// TestSpoilt: 14.1 to 14.3, each of these cut short at each token, with another
// one there, or one more: with what no line has, and with what some have.
func TestSpoilt(t *testing.T) {
	odd, turn := append(strange(), ends()...), 0
	for _, x := range shapes {
		l := row(x.src)
		for k := range l {
			alike(t, x.line, l[:k], 0)
			for range 12 {
				turn++
				alike(t, x.line, placed(l[:k], odd[turn%len(odd):][:1], l[k+1:]), 0)
			}
			for _, r := range row(usual) {
				alike(t, x.line, placed(l[:k], []api.Token{r}, l[k+1:]), 0)
				alike(t, x.line, placed(l[:k], []api.Token{r}, l[k:]), 0)
			}
			alike(t, x.line, placed(l[:k], l[k+1:]), 0)
		}
	}
}
