package parse_test

import (
	"slices"
	"strconv"
	"strings"
	"testing"

	"marline/api"
	"marline/expr"
	"marline/lex"
	"marline/nest"
	"marline/parse"
	"marline/stmt"
	"marline/tree"
	"marline/word"
)

// How many brackets may be open, how many bytes a name and a source may have.
const (
	mostDeep = 60
	mostName = 32
	mostSrc  = 16384
)

// rep is a text n times.
func rep(s string, n int) string { return strings.Repeat(s, n) }

// marked is a text without the mark that tells a place in it, and this place.
func marked(t *testing.T, s string) (string, int) {
	t.Helper()
	ahead, behind, ok := strings.Cut(s, "»")
	if !ok {
		t.Fatalf("%.90q: no mark", s)
	}
	return ahead + behind, len(ahead)
}

// fault is an error at a place, with the line and the column that the bytes
// ahead of it make.
func fault(src string, at int, why api.Errno) parse.Fault {
	f := parse.Fault{At: at, Line: 1, Col: 1, Why: why}
	for i := range at {
		f.Col++
		if src[i] == '\n' {
			f.Line, f.Col = f.Line+1, 1
		}
	}
	return f
}

// read reads a source as a program or as an expression.
func read(line, src string) (api.Node, parse.Fault) {
	if line == "expr" {
		return parse.Expr(src)
	}
	return parse.Prog(src)
}

// right: is what is read what it is called?
func right(line string, n api.Node) bool {
	if line == "expr" {
		return tree.Expr(n)
	}
	return tree.Prog(n)
}

// zero: is a node the zero node?
func zero(n api.Node) bool {
	return n.Kind == 0 && n.At == 0 && n.N == 0 && n.Name == "" && len(n.Kids) == 0
}

// kinds are the kinds of nodes, as they are told.
var kinds = map[int]string{0: "none", 1: "int", 2: "bool", 3: "rev", 4: "of:", 5: "[]", 10: "", 11: "flag", 12: "", 13: "at", 14: ".", 15: "un", 16: "", 17: "call:", 18: "fork:", 19: "new",
	30: "block", 31: "var:", 32: "set", 33: "if", 34: "while", 35: "return", 36: "join:", 37: "print", 38: "do", 50: "param:", 51: "rec:", 52: "iso:", 53: "fun:", 54: "merge:", 55: "prog"}

// signs are the signs, by their numbers.
var signs = strings.Fields("+ - * / % == != < <= > >= && || !")

// look is a node as a text, with its place in the source: any two look unlike
// that have anything unlike.
func look(n api.Node) string {
	var b strings.Builder
	write(&b, n)
	return b.String()
}

func write(b *strings.Builder, n api.Node) {
	text, ok := kinds[n.Kind]
	if !ok {
		text = "kind" + strconv.Itoa(n.Kind) + ":"
	}
	b.WriteString(text + n.Name)
	switch {
	case (n.Kind == 15 || n.Kind == 16) && n.N > 0 && n.N <= len(signs):
		b.WriteString(signs[n.N-1])
	case n.N != 0 || n.Kind == 10 || n.Kind == 11:
		b.WriteString("#" + strconv.Itoa(n.N))
	}
	b.WriteString("@" + strconv.Itoa(n.At))
	between := "("
	for _, k := range n.Kids {
		b.WriteString(between)
		write(b, k)
		between = " "
	}
	if between == " " {
		b.WriteString(")")
	}
}

// holds: is a source read as this node, and with no fault? If the fault has an
// error: is it not read, with that fault alone?
func holds(t *testing.T, line, src string, want api.Node, f parse.Fault) {
	t.Helper()
	n, g := read(line, src)
	switch {
	case f != g:
		t.Errorf("%s %.90q: fault %v, want %v", line, src, g, f)
	case g.Why != api.OK && !zero(n):
		t.Errorf("%s %.90q: fault %v, and %.90q", line, src, g, look(n))
	case g.Why == api.OK && look(n) != look(want):
		t.Errorf("%s %.90q: %.90q, want %.90q", line, src, look(n), look(want))
	case g.Why == api.OK && !right(line, n):
		t.Errorf("%s %.90q: not right: %.90q", line, src, look(n))
	}
}

// reads: is a source read as what looks so, with no fault?
func reads(t *testing.T, line, src, want string) {
	t.Helper()
	n, f := read(line, src)
	if look(n) != want || f != (parse.Fault{}) || !right(line, n) {
		t.Errorf("%s %.90q: %.300q, %v; want %.300q", line, src, look(n), f, want)
	}
}

// passes: is a source read, with no fault, and as tokens are?
func passes(t *testing.T, line, src string) {
	t.Helper()
	if _, f := read(line, src); f != (parse.Fault{}) {
		t.Errorf("%s %.90q: %v", line, src, f)
	}
	alike(t, line, src)
}

// fails: is a source not read, with this error at this place?
func fails(t *testing.T, line, src string, at int, why api.Errno) {
	t.Helper()
	holds(t, line, src, api.Node{}, fault(src, at, why))
	alike(t, line, src)
}

// told is what the chapter's words say of a source: its node, if there is no
// error; a place; the first error of those that may be.
func told(line, src string) (api.Node, int, api.Errno) {
	l, at, e := lex.All(src)
	if e != api.OK {
		return api.Node{}, at, e
	}
	if at, e = nest.Check(l); e != api.OK {
		return api.Node{}, at, e
	}
	var n api.Node
	var i int
	if line == "expr" {
		n, i, e = expr.Expr(l, 0)
	} else {
		n, i, e = stmt.Prog(l)
	}
	if e == api.OK && i == len(l)-1 {
		return n, 0, api.OK
	}
	return api.Node{}, l[i].At, api.ErrForm
}

// alike: is a source read as the chapter's words say, and has it, if it is not,
// one fault whose place lies in it (15.2)?
func alike(t *testing.T, line, src string) {
	t.Helper()
	n, at, e := told(line, src)
	if e == api.OK {
		holds(t, line, src, n, parse.Fault{})
		return
	}
	if at < 0 || at > len(src) {
		t.Errorf("%s %.90q: %d lies not in it", line, src, at)
		return
	}
	holds(t, line, src, api.Node{}, fault(src, at, e))
}

// both: are these told alike as a program and as an expression?
func both(t *testing.T, src string) {
	t.Helper()
	alike(t, "prog", src)
	alike(t, "expr", src)
}

// stands: does the source, where a node stands, begin with what it is of?
func stands(n api.Node, src string) bool {
	if n.Kind == api.Prog || n.Kind == api.NoNode {
		return n.At == 0
	}
	if n.At < 0 || n.At >= len(src) {
		return false
	}
	begin := map[int]string{1: "int", 2: "bool", 3: "rev", 5: "[", 13: "[", 14: ".", 18: "fork", 19: "new", 30: "{", 31: "var", 32: "=", 33: "if", 34: "while", 35: "return", 36: "join", 37: "print", 51: "rec", 52: "iso", 53: "fun", 54: "merge"}
	text := begin[n.Kind]
	switch n.Kind {
	case api.TypRec, api.Name, api.Call, api.Param:
		text = n.Name
	case api.Un, api.Bin:
		text = word.Spell(n.N)
	case api.Flag:
		text = []string{"false", "true"}[n.N]
	case api.Num:
		digits := strings.TrimLeft(src[n.At:], "0")
		return strings.HasPrefix(digits, strconv.Itoa(n.N)) || n.N == 0 && src[n.At] == '0'
	case api.Do:
		text = n.Kids[0].Name
	}
	return text != "" && strings.HasPrefix(src[n.At:], text)
}

// TestConstants: errors, kinds and limits are those of the document.
func TestConstants(t *testing.T) {
	if api.OK != 0 || api.ErrForm != 1 || api.ErrRange != 2 || api.ErrLong != 3 || api.ErrDeep != 4 {
		t.Error("errors")
	}
	if api.MaxSrc != mostSrc || api.MaxName != mostName || api.MaxDeep != mostDeep || api.TokEnd != 0 {
		t.Error("limits, kinds of tokens")
	}
	for n, s := range signs {
		if word.Spell(n+1) != s {
			t.Error(n+1, s)
		}
	}
}

// TestExample: the chapter's (15.1), and the last one of the whole that tells of
// brackets.
func TestExample(t *testing.T) {
	if n, f := parse.Prog("main\n}"); f != (parse.Fault{At: 5, Line: 2, Col: 1, Why: api.ErrForm}) || !zero(n) {
		t.Error(n, f)
	}
	if n, f := parse.Prog("main " + rep("{", 61) + rep("}", 61)); f != (parse.Fault{At: 65, Line: 1, Col: 66, Why: api.ErrDeep}) || !zero(n) {
		t.Error(n, f)
	}
	if (parse.Fault{}).Why != api.OK {
		t.Error("the zero fault is none")
	}
}

// shapes are sources that are read, and what they are.
var shapes = []struct{ line, src, want string }{
	{"expr", "7", "#7@0"},
	{"expr", "007", "#7@0"},
	{"expr", "0", "#0@0"},
	{"expr", "9223372036854775807", "#9223372036854775807@0"},
	{"expr", "true", "flag#1@0"},
	{"expr", "\nfalse", "flag#0@1"},
	{"expr", "x", "x@0"},
	{"expr", "len", "len@0"},
	{"expr", " _9", "_9@1"},
	{"expr", "f()", "call:f@0"},
	{"expr", "f(a, 1)", "call:f@0(a@2 #1@5)"},
	{"expr", "fork f()", "fork:f@0"},
	{"expr", "(fork\nf (a))", "fork:f@1(a@9)"},
	{"expr", "new P()", "new@0(of:P@4)"},
	{"expr", "new []int(1, x)", "new@0([]@4(int@6) #1@10 x@13)"},
	{"expr", "new [][]rev()", "new@0([]@4([]@6(rev@8)))"},
	{"expr", "new bool(true)", "new@0(bool@4 flag#1@9)"},
	{"expr", "a[1].b", ".b@4(at@1(a@0 #1@2))"},
	{"expr", "a.b[c[0]]", "at@3(.b@1(a@0) at@5(c@4 #0@6))"},
	{"expr", "(a)", "a@1"},
	{"expr", "((1))[2]", "at@5(#1@2 #2@6)"},
	{"expr", "-a", "un-@0(a@1)"},
	{"expr", "!-!a", "un!@0(un-@1(un!@2(a@3)))"},
	{"expr", "a+b", "+@1(a@0 b@2)"},
	{"expr", "a - -1", "-@2(a@0 un-@4(#1@5))"},
	{"expr", "a*b/c%d", "%@5(/@3(*@1(a@0 b@2) c@4) d@6)"},
	{"expr", "a==b&&c!=d||e<f", "||@10(&&@4(==@1(a@0 b@3) !=@7(c@6 d@9)) <@13(e@12 f@14))"},
	{"expr", "a<=b", "<=@1(a@0 b@3)"},
	{"expr", "a > b", ">@2(a@0 b@4)"},
	{"expr", "a >=#c\nb", ">=@2(a@0 b@7)"},
	{"expr", "a + b * c < d", "<@10(+@2(a@0 *@6(b@4 c@8)) d@12)"},
	{"expr", "(a + b) * c", "*@8(+@3(a@1 b@5) c@10)"},
	{"prog", "main{}", "prog@0(block@4)"},
	{"prog", "# a\n main\t{\r\n}#", "prog@0(block@10)"},
	{"prog", "main { print 1 + 2; }", "prog@0(block@5(print@7(+@15(#1@13 #2@17))))"},
	{"prog", "rec P { a int; b []Q; } main { }", "prog@0(rec:P@0(param:a@8(int@10) param:b@15([]@17(of:Q@19))) block@29)"},
	{"prog", "iso x int; iso y[3] rev by m; main { }", "prog@0(iso:x@0(int@6) iso:y#3@11(rev@20 m@27) block@35)"},
	{"prog", "iso z bool by f;\nmain { }", "prog@0(iso:z@0(bool@6 f@14) block@22)"},
	{"prog", "fun f() { } fun g(a int, b P) bool { return true; } main { }", "prog@0(fun:f@0(none@0 block@8) fun:g@12(param:a@18(int@20) param:b@25(of:P@27) bool@30 block@35(return@37(flag#1@44))) block@57)"},
	{"prog", "merge m(o int, a int, b int) { return o; } main { }", "prog@0(merge:m@0(param:o@8(int@10) param:a@15(int@17) param:b@22(int@24) block@29(return@31(o@38))) block@48)"},
	{"prog", "main { var h = fork f(1); join h; return; }", "prog@0(block@5(var:h@7(fork:f@15(#1@22)) join:h@26 return@34))"},
	{"prog", "main { x = 5; x.y[1] = new P(); f(1); { } }", "prog@0(block@5(set@9(x@7 #5@11) set@21(at@17(.y@15(x@14) #1@18) new@23(of:P@27)) do@32(call:f@32(#1@34)) block@38))"},
	{"prog", "main { if a { } if !b { } else { } }", "prog@0(block@5(if@7(a@10 block@12) if@16(un!@19(b@20) block@22 block@31)))"},
	{"prog", "main { if a { } else if b { print 0; } else { } }", "prog@0(block@5(if@7(a@10 block@12 if@21(b@24 block@26(print@28(#0@34)) block@44))))"},
	{"prog", "main { while true {\n\tprint f(a[0].b);\n} }", "prog@0(block@5(while@7(flag#1@13 block@18(print@21(call:f@27(.b@33(at@30(a@29 #0@31))))))))"},
}

// TestShapes: 15.1, sources that are read, with no fault: each node where the
// source tells it.
func TestShapes(t *testing.T) {
	for _, x := range shapes {
		reads(t, x.line, x.src, x.want)
		alike(t, x.line, x.src)
		n, _ := read(x.line, x.src)
		for k := range tree.Walk(n) {
			if !stands(k, x.src) {
				t.Errorf("%q: %q", x.src, look(k))
			}
		}
	}
}

// TestKinds: 15.1, there is each kind of node among these, and each sign.
func TestKinds(t *testing.T) {
	found := map[string]map[int]bool{"expr": {}, "prog": {}}
	signed := map[int]bool{}
	for _, x := range shapes {
		n, _ := read(x.line, x.src)
		for k := range tree.Walk(n) {
			found[x.line][k.Kind] = true
			if k.Kind == api.Un || k.Kind == api.Bin {
				signed[k.N] = true
			}
		}
	}
	for kind := range kinds {
		inExpr := kind >= api.TypInt && kind <= api.New
		if !found["prog"][kind] || found["expr"][kind] != inExpr {
			t.Error(kind, kinds[kind])
		}
	}
	if len(signed) != len(signs) {
		t.Error(signed)
	}
}

// TestBlanks: 15.1, blanks between tokens, ahead and behind, change nothing but
// places.
func TestBlanks(t *testing.T) {
	for _, x := range shapes {
		l, _, _ := lex.All(x.src)
		plain, _ := read(x.line, x.src)
		for _, blank := range []string{" ", "\n", "\t", "\r\n", " # a »b\n", "#\xff\n", "\n\n\n"} {
			var b strings.Builder
			var places []int
			for _, k := range l {
				b.WriteString(blank)
				places = append(places, b.Len())
				b.WriteString(k.Text)
			}
			n, f := read(x.line, b.String())
			if f != (parse.Fault{}) || !tree.Same(n, plain) {
				t.Errorf("%s %q: %v", x.line, b.String(), f)
			}
			for k := range tree.Walk(n) {
				if k.Kind != api.Prog && k.Kind != api.NoNode && !slices.Contains(places, k.At) || !stands(k, b.String()) {
					t.Errorf("%s %q: %q", x.line, b.String(), look(k))
				}
			}
			alike(t, x.line, b.String())
		}
	}
}

// TestOther: 15.1, a program is no expression, and an expression no program: it
// is told which token it is with which the other one can't go on.
func TestOther(t *testing.T) {
	for _, x := range shapes {
		l, _, _ := lex.All(x.src)
		if x.line == "expr" {
			fails(t, "prog", x.src, l[0].At, api.ErrForm)
		} else {
			fails(t, "expr", x.src, l[0].At, api.ErrForm)
		}
	}
}

// TestAgain: 15.1, what is asked again is told again, whatever was asked between.
func TestAgain(t *testing.T) {
	for _, x := range shapes {
		reads(t, x.line, x.src, x.want)
		fails(t, x.line, "&"+x.src, 0, api.ErrForm)
		fails(t, "expr", "a\n"+rep("(", 61), 62, api.ErrDeep)
		reads(t, x.line, x.src, x.want)
	}
}
