package show_test

import (
	"strings"
	"testing"

	"marline/api"
)

// great is how many parts may lie in one another, in what is handed in.
const great = 1 << 16

// nest is a node that is put into another one, as the given kid of it, n times.
func nest(n int, x api.Node, in api.Node, kid int) api.Node {
	for range n {
		kids := append([]api.Node(nil), in.Kids...)
		kids[kid] = x
		x = api.Node{Kind: in.Kind, N: in.N, Name: in.Name, Kids: kids}
	}
	return x
}

// same: has a node this text, by the call of its sort?
func same(t *testing.T, what, sort string, n api.Node, depth int, want string) {
	t.Helper()
	if got := text(sort, n, depth); got != want {
		t.Errorf("%s: %d bytes, not %d: %.100q", what, len(got), len(want), got)
	}
}

// TestDeepTypes: 16.1, types that lie in very many others.
func TestDeepTypes(t *testing.T) {
	n := nest(great-1, read("TypRec:P"), read("TypArr(TypInt)"), 0)
	same(t, "type", "type", n, 0, rep("[]", great-1)+"P")
	n = nest(great-2, read("TypBool"), read("TypArr(TypInt)"), 0)
	same(t, "new", "expr", node(api.New, n), 0, "new "+rep("[]", great-2)+"bool()")
	same(t, "iso", "decl", api.Node{Kind: api.Iso, Name: "x", N: 3, Kids: []api.Node{n}}, 0, "iso x[3] "+rep("[]", great-2)+"bool;\n")
}

// TestDeepExprs: 16.1, expressions that lie in very many others.
func TestDeepExprs(t *testing.T) {
	for _, x := range []struct {
		in               string
		kid              int
		open, mid, shuts string
	}{
		{"Un#2(Num)", 0, "-", "a", ""},
		{"Un#14(Num)", 0, "!", "a", ""},
		{"Index(Num Num)", 0, "", "a", "[0]"},
		{"Index(Num Num)", 1, "0[", "a", "]"},
		{"Field:f(Num)", 0, "", "a", ".f"},
		{"Call:f(Num)", 0, "f(", "a", ")"},
		{"Call:f(Num#1 Num Num#2)", 1, "f(1, ", "a", ", 2)"},
		{"Fork:f(Num)", 0, "fork f(", "a", ")"},
		{"New(TypInt Num)", 1, "new int(", "a", ")"},
		{"Bin#1(Num Num#1)", 0, "", "a", " + 1"},
		{"Bin#13(Num Num#1)", 0, "", "a", " || 1"},
	} {
		n := nest(great-1, name("a"), read(x.in), x.kid)
		same(t, x.in, "expr", n, 0, rep(x.open, great-1)+x.mid+rep(x.shuts, great-1))
	}
	n := nest(great-1, name("a"), read("Bin#1(Num#1 Num)"), 1)
	same(t, "sums", "expr", n, 0, rep("1 + (", great-2)+"1 + a"+rep(")", great-2))
	n = nest(great-1, name("a"), read("Bin#6(Num Num#1)"), 0)
	same(t, "tests", "expr", n, 0, rep("(", great-2)+"a == 1"+rep(") == 1", great-2))
	n = name("a")
	for range great/2 - 1 {
		n = un(2, bin(1, n, name("b")))
	}
	same(t, "signs", "expr", n, 0, rep("-(", great/2-1)+"a"+rep(" + b)", great/2-1))
}

// TestDeepStmts: 16.1, statements that lie in very many others, with a tab more on
// each line; and very many choices, each behind the else of the one ahead.
func TestDeepStmts(t *testing.T) {
	const deep = 3000
	for in, head := range map[string]string{
		"Block(Block)":           "",
		"While(Name:a Block)":    "while a ",
		"If(Name:a Block)":       "if a ",
		"If(Name:a Block Block)": "if a ",
	} {
		n := read("Return")
		for range deep {
			x := read(in)
			if x.Kind == api.Block {
				x.Kids[0] = n
			} else {
				x.Kids[1].Kids = []api.Node{n}
			}
			n = x
		}
		var b strings.Builder
		for k := range deep {
			b.WriteString(rep("\t", 2+k) + head + "{\n")
		}
		b.WriteString(rep("\t", 2+deep) + "return;\n")
		for k := range deep {
			b.WriteString(rep("\t", 1+deep-k) + "}")
			if strings.HasSuffix(in, "Block Block)") {
				b.WriteString(" else {\n" + rep("\t", 1+deep-k) + "}")
			}
			b.WriteString("\n")
		}
		same(t, in, "stmt", n, 2, b.String())
	}
	n := nest(great-1, node(api.Block), read("If(Name:a Block Block)"), 2)
	same(t, "choices", "stmt", n, 1, "\t"+rep("if a {\n\t} else ", great-1)+"{\n\t}\n")
}

// TestLongRows: 16.1, nodes with very many kids.
func TestLongRows(t *testing.T) {
	more := great - 1
	for _, x := range []struct {
		sort, in string
		at       int // which kid there are so many of
		want     string
	}{
		{"expr", "Call:f(Num)", 0, "f(" + rep("0, ", more) + "0)"},
		{"expr", "Fork:f(Un#2(Name:a))", 0, "fork f(" + rep("-a, ", more) + "-a)"},
		{"expr", "New(TypInt Flag#1)", 1, "new int(" + rep("true, ", more) + "true)"},
		{"stmt", "Block(Return)", 0, "{\n" + rep("\treturn;\n", great) + "}\n"},
		{"stmt", "Block(Block(Return))", 0, "{\n" + rep("\t{\n\t\treturn;\n\t}\n", great) + "}\n"},
		{"stmt", "Block(If(Num Block Block))", 0, "{\n" + rep("\tif 0 {\n\t} else {\n\t}\n", great) + "}\n"},
		{"decl", "Rec:P(Param:x(TypInt))", 0, "rec P {\n" + rep("\tx int;\n", great) + "}\n"},
		{"decl", "Fun:f(Param:x(TypArr(TypRev)) NoNode Block)", 0, "fun f(" + rep("x []rev, ", more) + "x []rev) {\n}\n"},
		{"prog", "Prog(Iso:x#2(TypInt Name:m) Block)", 0, rep("iso x[2] int by m;\n", great) + "main {\n}\n"},
		{"prog", "Prog(Fun:f(TypInt Block(Return)) Block)", 0, rep("fun f() int {\n\treturn;\n}\n", great) + "main {\n}\n"},
	} {
		n := read(x.in)
		kids := append([]api.Node(nil), n.Kids[:x.at]...)
		for range great {
			kids = append(kids, n.Kids[x.at])
		}
		n.Kids = append(kids, n.Kids[x.at+1:]...)
		same(t, x.in, x.sort, n, 0, x.want)
	}
}
