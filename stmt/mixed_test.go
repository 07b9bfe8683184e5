package stmt_test

import (
	"slices"
	"strconv"
	"strings"
	"testing"

	"marline/api"
	"marline/stmt"
	"marline/tree"
)

// TestAll: 14.1 to 14.3, all rows of a few tokens that can go on, and any one
// more.
func TestAll(t *testing.T) {
	for _, x := range []struct {
		line, tokens string
		most         int
	}{
		{"stmt", usual, 3},
		{"decl", usual, 3},
		{"program", usual, 3},
		{"stmt", "{ } a = ; ( ) if", 7},
		{"stmt", "if a { } else", 11},
		{"stmt", "a [ ] . = 1 ;", 7},
		{"stmt", "var return join print a = ; } while {", 6},
		{"decl", "rec a { } int ; [ ]", 9},
		{"decl", "iso a [ ] 3 0 int by ;", 9},
		{"decl", "fun a ( ) int , { }", 10},
		{"decl", "merge a ( , ) int { }", 14},
		{"program", "main { } $ ; a", 7},
		{"program", "main { } $ iso a ; fun ( )", 8},
	} {
		all := row(x.tokens)
		var grow func(l []api.Token)
		grow = func(l []api.Token) {
			if _, end := told(x.line, l, 0); end < len(l) {
				return
			}
			for _, k := range all {
				next := placed(l, []api.Token{k})
				alike(t, x.line, next, 0)
				if len(next) < x.most {
					grow(next)
				}
			}
		}
		grow(nil)
	}
}

// mixer tells numbers that look as if they had been drawn, the same ones each time.
type mixer uint64

func (m *mixer) below(n int) int {
	*m = *m*6364136223846793005 + 1442695040888963407
	return int(uint64(*m) >> 33 % uint64(n))
}

// grown are tokens that are a line of the grammar, or an item of one, by choices
// that are mixed; rows get shorter the deeper they lie.
func (m *mixer) grown(x item, deep int) []string {
	switch x.what {
	case "(", "[", "{":
		var l []string
		many := 1
		if x.what != "(" {
			many = m.below(max(1, 14-deep)) / 4
		}
		if x.what == "[" {
			many = min(many, 1)
		}
		for range many {
			choice := x.choices[m.below(len(x.choices))]
			if deep > 20 {
				choice = x.choices[min(len(x.choices), 3)-1]
			}
			for _, y := range choice {
				l = append(l, m.grown(y, deep+1)...)
			}
		}
		return l
	}
	if y, ok := theLines[x.what]; ok {
		return m.grown(y, deep)
	}
	for what, s := range map[string]string{"NAME": "a b x len _1", "NUMBER": "0 1 7 42", "POSITIVE": "1 3 64", "COMPARE": compare, "ADD": add, "TIMES": times} {
		if what == x.what {
			l := strings.Fields(s)
			return []string{l[m.below(len(l))]}
		}
	}
	if x.what == "LAST" {
		return []string{"$"}
	}
	return []string{x.what[1 : len(x.what)-1]}
}

// TestMixed: 14.1 to 14.3, long rows by mixed choices, whole, and with a token or
// two that are others.
func TestMixed(t *testing.T) {
	m := mixer(14)
	odd := append(append(strange(), ends()...), row(usual)...)
	usual := len(row(usual))
	for turn := range 2000 {
		line := []string{"stmt", "decl", "program", "stmt"}[turn%4]
		l := row(strings.Join(m.grown(theLines[line], 0), " "))
		if len(l) > 300 {
			continue
		}
		alike(t, line, l, 0)
		alike(t, line, placed(l, row("$")), 0)
		for range 3 {
			k := m.below(len(l))
			l = placed(l[:k], []api.Token{odd[len(odd)-1-m.below(usual)]}, l[k+m.below(2):])
			alike(t, line, l, 0)
			k = m.below(len(l))
			alike(t, line, placed(l[:k], []api.Token{odd[m.below(len(odd))]}, l[k:]), 0)
		}
	}
}

// TestAny: 14.1 to 14.3, rows of any tokens at all, from any one on.
func TestAny(t *testing.T) {
	m := mixer(41)
	texts := strings.Fields(usual + " a a a b = ; { } ( )")
	for range 20000 {
		var l []api.Token
		for range m.below(9) {
			k := row(texts[m.below(len(texts))])[0]
			switch m.below(15) {
			case 0:
				k.Kind = m.below(8) - 2
			case 1:
				k.N = m.below(5) - 2
			case 2:
				k.Text = texts[m.below(len(texts))]
			case 3:
				k.Text = ""
			}
			l = append(l, k)
		}
		l = placed(l)
		alike(t, []string{"stmt", "decl"}[m.below(2)], l, m.below(len(l)+3)-1)
		alike(t, "program", l, 0)
	}
}

// completed are tokens that a program begins with, gone on with up to its end.
func completed(t *testing.T, l []api.Token) []api.Token {
	closers := row("$ ) ] } ; , = a { ( int main")
	for l = slices.Clone(l); ; {
		if len(l) > 0 && l[len(l)-1].Kind == 0 {
			return l
		}
		more := slices.IndexFunc(closers, func(k api.Token) bool {
			next := placed(l, []api.Token{k})
			_, i, e := stmt.Prog(next)
			return e == api.OK || i == len(next)
		})
		if more < 0 || len(l) > 1000 {
			t.Fatalf("%.200q does not go on", text(l))
		}
		l = placed(l, closers[more:more+1])
	}
}

// firstWrong: is the token at which tokens are no program the first one with
// which none goes on?
func firstWrong(t *testing.T, l []api.Token) {
	t.Helper()
	_, i, e := stmt.Prog(l)
	if e == api.OK {
		return
	}
	all := completed(t, l[:i])
	p, end := told("program", all, 0)
	if p == nil {
		t.Fatalf("%.200q is none", text(all))
	}
	holds(t, "program", all, 0, look(node(p, all)), end)
	for _, behind := range []string{"$", "}", "} $", "; } $", "main { } $", "{ }", "a"} {
		if i < len(l) {
			holds(t, "program", placed(l[:i+1], row(behind)), 0, "", i)
		}
	}
}

// TestFirst: 14.2, a token at which tokens are no program is the first one:
// ahead of it they can be gone on with, and with it nothing behind it matters.
func TestFirst(t *testing.T) {
	for _, x := range fails {
		firstWrong(t, row(map[string]string{"program": "", "decl": "iso x int ; ", "stmt": "main { "}[x.line]+x.src))
	}
	m, all := mixer(7), row(usual)
	for range 400 {
		l := row(strings.Join(m.grown(theLines["program"], 0), " "))
		if len(l) > 200 {
			continue
		}
		k := m.below(len(l))
		firstWrong(t, l[:k])
		firstWrong(t, placed(l[:k], all[m.below(len(all)):][:1], l[k+m.below(2):]))
	}
}

// great is the number of parts that lie in one another, or beside each other, in
// long rows and deep ones.
const great = 1 << 16

// many are the tokens of a text a number of times.
func many(s string, n int) []api.Token { return slices.Repeat(row(s), n) }

// bare is a node without its kids, as a text.
func bare(n api.Node) string {
	n.Kids = nil
	return look(n)
}

// TestDeep: 14.1 to 14.3, very many parts that lie in one another. By kids is gone
// down from what is read to the first level, and by each from one to the next.
func TestDeep(t *testing.T) {
	for _, x := range []struct {
		line, ahead, open, in, shut, behind string
		kids, each                          []int
		want                                string
	}{
		{"stmt", "", "{", "x = 1 ;", "}", "", nil, []int{0}, "block"},
		{"stmt", "", "while a {", "x = 1 ;", "}", "", nil, []int{1, 0}, "while"},
		{"stmt", "", "if a {", "x = 1 ;", "}", "", nil, []int{1, 0}, "if"},
		{"stmt", "", "if a {", "x = 1 ;", "} else { }", "", nil, []int{1, 0}, "if"},
		{"stmt", "", "if a { } else {", "x = 1 ;", "}", "", nil, []int{2, 0}, "if"},
		{"stmt", "", "if a { } else", "{ x = 1 ;", "", "}", nil, []int{2}, "if"},
		{"stmt", "", "{ { } if a {", "x = 1 ;", "} { } }", "", nil, []int{1, 1, 0}, "block"},
		{"decl", "fun f ( ) {", "{", "x = 1 ;", "}", "}", []int{1, 0}, []int{0}, "block"},
		{"decl", "fun f ( ) rev {", "if a { } else", "{ x = 1 ;", "", "} }", []int{1, 0}, []int{2}, "if"},
		{"decl", "merge m ( a int , b int , c int ) {", "{", "x = 1 ;", "}", "}", []int{3, 0}, []int{0}, "block"},
		{"decl", "rec P { b int ; a", "[ ]", "int", "", "; }", []int{1, 0}, []int{0}, "[]"},
		{"decl", "iso x [ 3 ]", "[ ]", "int", "", "by f ;", []int{0}, []int{0}, "[]"},
		{"decl", "iso x", "[ ]", "int", "", ";", []int{0}, []int{0}, "[]"},
		{"program", "iso x int ; main {", "while a {", "x = 1 ;", "}", "} $", []int{1, 0}, []int{1, 0}, "while"},
		{"stmt", "x =", "- (", "1", ")", ";", []int{1}, []int{0}, "un-"},
		{"stmt", "print", "f (", "1", ")", ";", []int{0}, []int{0}, "call:f"},
		{"stmt", "", "f (", "1", ")", ";", []int{0}, []int{0}, "call:f"},
	} {
		first, open, shut := len(row(x.ahead)), len(row(x.open)), len(row(x.shut))
		l := placed(row(x.ahead), many(x.open, great), row(x.in), many(x.shut, great), row(x.behind))
		n, i, e := read(x.line, l, 0)
		if i != whole(x.line, l) || e != api.OK || !right(x.line, n) {
			t.Fatalf("%s %s: %d, %v", x.open, x.shut, i, e)
		}
		for _, kid := range x.kids {
			n = n.Kids[kid]
		}
		for level := range great {
			if s := x.want + "@" + strconv.Itoa(first+open*level); bare(n) != s {
				t.Fatalf("%s: level %d is %s, not %s", x.open, level, bare(n), s)
			}
			for _, kid := range x.each {
				n = n.Kids[kid]
			}
		}
		if k := first + open*great; n.At != 7*k+100 && n.At != 7*(k+1)+100 {
			t.Errorf("%s: %s", x.open, bare(n))
		}
		last := len(l) - len(row(x.behind)) - shut
		holds(t, x.line, l[:last], 0, "", last)
		l[last-1].Text = "else"
		holds(t, x.line, l, 0, "", last-1)
	}
	for _, open := range []string{"{", "if a {", "if a { } else", "while a {", "if a { } else {", "{ x = 1 ; while a {"} {
		holds(t, "stmt", many(open, great), 0, "", len(row(open))*great)
		holds(t, "program", placed(row("main {"), many(open, great), row("$")), 0, "", 2+len(row(open))*great)
	}
}

// TestSteps: 14.1, 14.3, places of very many steps.
func TestSteps(t *testing.T) {
	for step, kind := range map[string]int{". y": api.Field, "[ 1 ]": api.Index} {
		l := placed(row("x"), many(step, great), row("= 2 ;"))
		n, i, e := stmt.Stmt(l, 0)
		if i != len(l) || e != api.OK || !tree.Stmt(n) || n.Kind != api.Set || n.At != l[len(l)-3].At {
			t.Fatal(step, i, e)
		}
		n = n.Kids[0]
		for level := range great {
			if at := 1 + len(row(step))*(great-1-level); n.Kind != kind || n.At != 7*at+100 {
				t.Fatal(step, level, bare(n))
			}
			n = n.Kids[0]
		}
		if look(n) != "x@0" {
			t.Error(step, look(n))
		}
		holds(t, "stmt", l[:len(l)-3], 0, "", len(l)-3)
		l[len(l)-3].Text = ";"
		holds(t, "stmt", l, 0, "", len(l)-3)
	}
}

// TestMany: 14.1 to 14.3, very many parts beside each other.
func TestMany(t *testing.T) {
	const great = great / 4
	for _, x := range []struct {
		line, ahead, part, behind, want string
		more                            int // kids that stand behind these
	}{
		{"stmt", "{", "f ( 1 ) ;", "}", "do", 0},
		{"stmt", "{", "{ }", "}", "block", 0},
		{"stmt", "{", "if a { } else { }", "}", "if", 0},
		{"stmt", "{", "while a { }", "}", "while", 0},
		{"stmt", "{", "return ;", "}", "return", 0},
		{"decl", "rec P {", "a int ;", "}", "param:a", 0},
		{"decl", "fun f (", "a int ,", "a int ) { }", "param:a", 3},
		{"program", "", "iso x [ 3 ] int by f ;", "main { } $", "iso:x#3", 1},
		{"program", "", "fun f ( ) { { } }", "main { } $", "fun:f", 1},
	} {
		l := placed(row(x.ahead), many(x.part, great), row(x.behind))
		n, i, e := read(x.line, l, 0)
		if i != whole(x.line, l) || e != api.OK || !right(x.line, n) || len(n.Kids) != great+x.more {
			t.Fatalf("%s: %d, %v, %d kids", x.part, i, e, len(n.Kids))
		}
		first, part := len(row(x.ahead)), len(row(x.part))
		for k, kid := range n.Kids[:great] {
			if want := x.want + "@" + strconv.Itoa(first+part*k); bare(kid) != want {
				t.Fatalf("%s: %s, not %s", x.part, bare(kid), want)
			}
		}
		last := first + part*great - 1
		holds(t, x.line, l[:last], 0, "", last)
		l[last].Text = "]"
		holds(t, x.line, l, 0, "", last)
	}
}

// scribble writes into all lists of kids of a node, and behind them.
func scribble(n api.Node) {
	for i := range n.Kids {
		scribble(n.Kids[i])
	}
	for i := range n.Kids {
		n.Kids[i].Name, n.Kids[i].At = "z", -1
	}
	_ = append(n.Kids, api.Node{Kind: api.Prog, Name: "z"})
}

// TestNewMemory: 14.1, 14.2, what is told hangs on no earlier answer: what is
// written into that is told by no later one.
func TestNewMemory(t *testing.T) {
	for _, x := range shapes {
		l := row(x.src)
		n, i, e := read(x.line, l, 0)
		scribble(n)
		if n.Kind == 0 || i != whole(x.line, l) || e != api.OK {
			t.Error(x.src)
		}
		holds(t, x.line, l, 0, x.want, i)
	}
}

// TestApart: 14.1, what is put behind one list of what is read is in no other.
func TestApart(t *testing.T) {
	for _, x := range shapes {
		n, _, _ := read(x.line, row(x.src), 0)
		for k := range tree.Walk(n) {
			_ = append(k.Kids, api.Node{Kind: api.Prog, Name: "z"}, api.Node{Kind: api.Prog, Name: "z"}, api.Node{Kind: api.Prog, Name: "z"})
		}
		if look(n) != x.want {
			t.Error(x.src, look(n))
		}
	}
}
