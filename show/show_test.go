package show_test

import (
	"math"
	"strconv"
	"strings"
	"testing"

	"marline/api"
	"marline/expr"
	"marline/lex"
	"marline/show"
	"marline/stmt"
	"marline/tree"
)

// kinds are the kinds of nodes by their names, as the document numbers them.
var kinds = map[string]int{
	"NoNode": 0, "TypInt": 1, "TypBool": 2, "TypRev": 3, "TypRec": 4, "TypArr": 5,
	"Num": 10, "Flag": 11, "Name": 12, "Index": 13, "Field": 14, "Un": 15, "Bin": 16, "Call": 17, "Fork": 18, "New": 19,
	"Block": 30, "Var": 31, "Set": 32, "If": 33, "While": 34, "Return": 35, "Join": 36, "Print": 37, "Do": 38,
	"Param": 50, "Rec": 51, "Iso": 52, "Fun": 53, "Merge": 54, "Prog": 55,
}

// sorts are the five calls.
var sorts = []string{"type", "expr", "stmt", "decl", "prog"}

// rep is a text n times.
func rep(s string, n int) string { return strings.Repeat(s, n) }

// read reads a node as these tests write it: its kind, :name, #number, and its
// kids in brackets, with one blank between any two. Each node of it stands at
// another place.
func read(s string) api.Node {
	at := 0
	n, rest := readOne(s, &at)
	if rest != "" {
		panic("behind a node: " + s)
	}
	return n
}

func readOne(s string, at *int) (api.Node, string) {
	*at += 7
	n := api.Node{At: *at}
	head := len(s)
	if i := strings.IndexAny(s, "() "); i >= 0 {
		head = i
	}
	word, rest := s[:head], s[head:]
	if before, number, ok := strings.Cut(word, "#"); ok {
		word = before
		i, err := strconv.Atoi(number)
		if err != nil {
			panic(s)
		}
		n.N = i
	}
	word, n.Name, _ = strings.Cut(word, ":")
	kind, ok := kinds[word]
	if !ok {
		panic("no kind " + word + " in " + s)
	}
	n.Kind = kind
	if strings.HasPrefix(rest, "(") {
		for !strings.HasPrefix(rest, ")") {
			var k api.Node
			k, rest = readOne(rest[1:], at)
			n.Kids = append(n.Kids, k)
		}
		rest = rest[1:]
	}
	return n, rest
}

// nodes are those of a row, with | between any two.
func nodes(row string) []api.Node {
	var l []api.Node
	for _, s := range strings.Split(row, "|") {
		l = append(l, read(s))
	}
	return l
}

// node is a node of a kind, with kids.
func node(kind int, kids ...api.Node) api.Node { return api.Node{Kind: kind, Kids: kids} }

// look is a node written so that any two are unlike that have anything unlike.
func look(n api.Node) string {
	var b strings.Builder
	write(&b, n)
	return b.String()
}

func write(b *strings.Builder, n api.Node) {
	b.WriteString("(" + strconv.Itoa(n.Kind) + " " + strconv.Itoa(n.N) + " " + strconv.Quote(n.Name) + "@" + strconv.Itoa(n.At))
	for _, k := range n.Kids {
		write(b, k)
	}
	b.WriteString(")")
}

// text is what the call of a sort tells.
func text(sort string, n api.Node, depth int) string {
	switch sort {
	case "type":
		return show.Type(n)
	case "expr":
		return show.Expr(n)
	case "stmt":
		return show.Stmt(n, depth)
	case "decl":
		return show.Decl(n)
	}
	return show.Prog(n)
}

// reads is the node that a whole text of a sort is read as, however deep; the zero
// node, if it is none.
func reads(sort, s string) api.Node {
	l, _, e := lex.All(s)
	if e != api.OK {
		return api.Node{}
	}
	var n api.Node
	var i int
	switch sort {
	case "type":
		n, i, e = expr.Type(l, 0)
	case "expr":
		n, i, e = expr.Expr(l, 0)
	case "stmt":
		n, i, e = stmt.Stmt(l, 0)
	case "decl":
		n, i, e = stmt.Decl(l, 0)
	default:
		n, i, e = stmt.Prog(l)
	}
	if e != api.OK || i != len(l)-1 {
		return api.Node{}
	}
	return n
}

// is: does a node have this text by the call of its sort, at a depth, wherever it
// stands; none by the others; and is it left as it was?
func is(t *testing.T, sort string, n api.Node, depth int, want string) {
	t.Helper()
	was := look(n)
	if got := text(sort, n, depth); got != want {
		t.Errorf("%s %.200s at %d: %.200q; want %.200q", sort, was, depth, got, want)
	}
	if got := text(sort, tree.Clean(n), depth); got != want {
		t.Errorf("%s %.200s at %d, without places: %.200q; want %.200q", sort, was, depth, got, want)
	}
	for _, other := range sorts {
		if got := text(other, n, depth); other != sort && got != "" {
			t.Errorf("%.200s is told as a %s: %.200q", was, other, got)
		}
	}
	if sort != "prog" && show.Fits(n) {
		t.Errorf("%.200s fits as a program", was)
	}
	if now := look(n); now != was {
		t.Errorf("%.200s was changed to %.200s", was, now)
	}
}

// holds: does a node, as it is written here, have this text, and is it read from
// that again?
func holds(t *testing.T, sort, written, want string) {
	t.Helper()
	n := read(written)
	is(t, sort, n, 0, want)
	if back := reads(sort, want); !tree.Same(back, n) {
		t.Errorf("%s %.200q is read as %.200s, not as %.200s", sort, want, look(back), written)
	}
}

// TestConstants: kinds, signs and limits are those of the document.
func TestConstants(t *testing.T) {
	given := []int{api.NoNode, api.TypInt, api.TypBool, api.TypRev, api.TypRec, api.TypArr, api.Num, api.Flag, api.Name, api.Index, api.Field, api.Un, api.Bin, api.Call, api.Fork, api.New, api.Block, api.Var, api.Set, api.If, api.While, api.Return, api.Join, api.Print, api.Do, api.Param, api.Rec, api.Iso, api.Fun, api.Merge, api.Prog}
	for i, name := range strings.Fields("NoNode TypInt TypBool TypRev TypRec TypArr Num Flag Name Index Field Un Bin Call Fork New Block Var Set If While Return Join Print Do Param Rec Iso Fun Merge Prog") {
		if given[i] != kinds[name] {
			t.Error(name, given[i])
		}
	}
	if len(given) != len(kinds) || api.Plus != 1 || api.Not != 14 || api.MaxSrc != 16384 || api.MaxDeep != 60 || api.MaxName != 32 {
		t.Error("kinds, signs, limits")
	}
}

// TestExample: the chapter's (16.1).
func TestExample(t *testing.T) {
	holds(t, "expr", "Bin#1(Name:a Bin#3(Un#2(Name:b) Bin#1(Name:c Name:d)))", "a + -b * (c + d)")
}

// TestTypes: 16.1, each kind of types, and types in types.
func TestTypes(t *testing.T) {
	for written, want := range map[string]string{
		"TypInt":                                 "int",
		"TypBool":                                "bool",
		"TypRev":                                 "rev",
		"TypRec:P":                               "P",
		"TypRec:len":                             "len",
		"TypRec:int_":                            "int_",
		"TypRec:_9":                              "_9",
		"TypRec:" + rep("z", 32):                 rep("z", 32),
		"TypArr(TypInt)":                         "[]int",
		"TypArr(TypBool)":                        "[]bool",
		"TypArr(TypRev)":                         "[]rev",
		"TypArr(TypRec:pair)":                    "[]pair",
		"TypArr(TypArr(TypInt))":                 "[][]int",
		"TypArr(TypArr(TypArr(TypRec:P)))":       "[][][]P",
		"TypArr(TypArr(TypArr(TypArr(TypRev))))": "[][][][]rev",
	} {
		holds(t, "type", written, want)
	}
}

// TestExprs: 16.1, each kind of expressions, with its choices.
func TestExprs(t *testing.T) {
	for written, want := range map[string]string{
		"Num":                                    "0",
		"Num#7":                                  "7",
		"Num#10":                                 "10",
		"Num#9223372036854775807":                "9223372036854775807",
		"Num#4294967296":                         "4294967296",
		"Flag#1":                                 "true",
		"Flag":                                   "false",
		"Name:a":                                 "a",
		"Name:len":                               "len",
		"Name:A_0b":                              "A_0b",
		"Name:" + rep("_", 32):                   rep("_", 32),
		"Index(Name:a Num#1)":                    "a[1]",
		"Index(Num Flag#1)":                      "0[true]",
		"Index(Index(Name:a Num#1) Name:i)":      "a[1][i]",
		"Index(Name:a Index(Name:b Num#2))":      "a[b[2]]",
		"Index(Field:f(Name:a) Field:g(Name:b))": "a.f[b.g]",
		"Index(Call:f(Num#1) Call:g)":            "f(1)[g()]",
		"Index(Fork:f Fork:g(Num))":              "fork f()[fork g(0)]",
		"Index(New(TypArr(TypInt) Num#3) New(TypInt))": "new []int(3)[new int()]",
		"Field:f(Name:a)":                               "a.f",
		"Field:f(Num#3)":                                "3.f",
		"Field:f(Flag)":                                 "false.f",
		"Field:f(Field:g(Field:h(Name:a)))":             "a.h.g.f",
		"Field:f(Index(Name:a Num#1))":                  "a[1].f",
		"Field:f(Call:g(Name:x))":                       "g(x).f",
		"Field:f(Fork:g)":                               "fork g().f",
		"Field:f(New(TypRec:P Num#1))":                  "new P(1).f",
		"Un#2(Name:a)":                                  "-a",
		"Un#14(Name:a)":                                 "!a",
		"Un#2(Num#9223372036854775807)":                 "-9223372036854775807",
		"Un#2(Num)":                                     "-0",
		"Un#14(Flag#1)":                                 "!true",
		"Un#2(Un#2(Name:a))":                            "--a",
		"Un#2(Un#14(Un#14(Un#2(Num#1))))":               "-!!-1",
		"Un#14(Index(Name:a Num#1))":                    "!a[1]",
		"Un#2(Field:f(Name:a))":                         "-a.f",
		"Un#2(Call:f)":                                  "-f()",
		"Un#14(Fork:f)":                                 "!fork f()",
		"Un#14(New(TypRec:P))":                          "!new P()",
		"Un#2(Bin#1(Name:a Name:b))":                    "-(a + b)",
		"Un#14(Un#2(Bin#3(Name:a Name:b)))":             "!-(a * b)",
		"Call:f":                                        "f()",
		"Call:f(Num#1)":                                 "f(1)",
		"Call:f(Num#1 Name:a)":                          "f(1, a)",
		"Call:len(Name:a Name:b Name:c Num#4)":          "len(a, b, c, 4)",
		"Call:f(Call:g Call:h(Call:i(Num) Num#1))":      "f(g(), h(i(0), 1))",
		"Call:f(Un#2(Num#1) Bin#1(Name:a Name:b) Flag)": "f(-1, a + b, false)",
		"Fork:f":        "fork f()",
		"Fork:f(Num#1)": "fork f(1)",
		"Fork:f(Fork:g Un#14(Name:a) Bin#13(Flag Flag#1))": "fork f(fork g(), !a, false || true)",
		"New(TypInt)":             "new int()",
		"New(TypBool Num#1)":      "new bool(1)",
		"New(TypRev Num#1 Num#2)": "new rev(1, 2)",
		"New(TypRec:P)":           "new P()",
		"New(TypRec:P Name:a New(TypRec:Q Flag#1) Un#2(Num#3))": "new P(a, new Q(true), -3)",
		"New(TypArr(TypInt))": "new []int()",
		"New(TypArr(TypArr(TypRec:P)) Bin#4(Num#1 Num#2) Num)": "new [][]P(1 / 2, 0)",
	} {
		holds(t, "expr", written, want)
	}
}

// TestSigns: 16.1, each sign between two.
func TestSigns(t *testing.T) {
	for i, sign := range strings.Fields(spellings) {
		written := "Bin#" + strconv.Itoa(i+1) + "(Name:a Num#2)"
		if i+1 == 14 {
			is(t, "expr", read(written), 0, "")
			continue
		}
		holds(t, "expr", written, "a "+sign+" 2")
	}
}

// TestStmts: 16.1, each kind of statements, with its choices.
func TestStmts(t *testing.T) {
	for written, want := range map[string]string{
		"Block":                                  "{\n}\n",
		"Block(Block)":                           "{\n\t{\n\t}\n}\n",
		"Block(Block Block)":                     "{\n\t{\n\t}\n\t{\n\t}\n}\n",
		"Block(Block(Block(Return) Return))":     "{\n\t{\n\t\t{\n\t\t\treturn;\n\t\t}\n\t\treturn;\n\t}\n}\n",
		"Block(Var:x(Num) Print(Name:x))":        "{\n\tvar x = 0;\n\tprint x;\n}\n",
		"Var:x(Num#1)":                           "var x = 1;\n",
		"Var:len(Fork:f(Name:a))":                "var len = fork f(a);\n",
		"Var:y(Bin#3(Bin#1(Num#1 Num#2) Num#3))": "var y = (1 + 2) * 3;\n",
		"Set(Name:x Num#1)":                      "x = 1;\n",
		"Set(Index(Name:x Num#1) Un#2(Num#2))":   "x[1] = -2;\n",
		"Set(Field:f(Name:x) Name:y)":            "x.f = y;\n",
		"Set(Index(Field:f(Index(Name:x Bin#1(Name:i Num#1))) Un#2(Num#1)) Bin#6(Name:a Name:b))": "x[i + 1].f[-1] = a == b;\n",
		"Set(Field:f(Field:g(Name:x)) New(TypRec:P))":                                             "x.g.f = new P();\n",
		"If(Name:a Block)":                              "if a {\n}\n",
		"If(Bin#8(Name:a Num#1) Block(Return))":         "if a < 1 {\n\treturn;\n}\n",
		"If(Flag Block Block)":                          "if false {\n} else {\n}\n",
		"If(Flag#1 Block(Return) Block(Join:h Return))": "if true {\n\treturn;\n} else {\n\tjoin h;\n\treturn;\n}\n",
		"If(Name:a Block If(Name:b Block))":             "if a {\n} else if b {\n}\n",
		"If(Name:a Block If(Name:b Block Block))":       "if a {\n} else if b {\n} else {\n}\n",
		"If(Name:a Block(Return) If(Name:b Block(Return) If(Name:c Block(Return) Block(Return))))": "if a {\n\treturn;\n} else if b {\n\treturn;\n} else if c {\n\treturn;\n} else {\n\treturn;\n}\n",
		"If(Name:a Block(If(Name:b Block)) Block(If(Name:c Block Block)))":                         "if a {\n\tif b {\n\t}\n} else {\n\tif c {\n\t} else {\n\t}\n}\n",
		"If(Name:a Block Block(If(Name:b Block If(Name:c Block(Block)))))":                         "if a {\n} else {\n\tif b {\n\t} else if c {\n\t\t{\n\t\t}\n\t}\n}\n",
		"If(Un#14(Bin#12(Name:a Name:b)) Block)":                                                   "if !(a && b) {\n}\n",
		"While(Flag#1 Block)":                                                                      "while true {\n}\n",
		"While(Bin#8(Name:i Num#9) Block(Set(Name:i Bin#1(Name:i Num#1)) Do(Call:f)))":             "while i < 9 {\n\ti = i + 1;\n\tf();\n}\n",
		"While(Name:a Block(While(Name:b Block(If(Name:c Block)))))":                               "while a {\n\twhile b {\n\t\tif c {\n\t\t}\n\t}\n}\n",
		"Return":                              "return;\n",
		"Return(Num)":                         "return 0;\n",
		"Return(Un#2(Bin#2(Name:a Name:b)))":  "return -(a - b);\n",
		"Return(Fork:f)":                      "return fork f();\n",
		"Join:h":                              "join h;\n",
		"Join:inputs":                         "join inputs;\n",
		"Print(Num#12)":                       "print 12;\n",
		"Print(Bin#13(Name:a Name:b))":        "print a || b;\n",
		"Do(Call:f)":                          "f();\n",
		"Do(Call:f(Name:a Bin#1(Num#1 Num)))": "f(a, 1 + 0);\n",
	} {
		holds(t, "stmt", written, want)
	}
}

// TestDecls: 16.1, each kind of declarations, with its choices.
func TestDecls(t *testing.T) {
	for written, want := range map[string]string{
		"Rec:P(Param:x(TypInt))": "rec P {\n\tx int;\n}\n",
		"Rec:P(Param:x(TypArr(TypRec:P)) Param:x(TypRev) Param:len(TypBool))": "rec P {\n\tx []P;\n\tx rev;\n\tlen bool;\n}\n",
		"Iso:a(TypInt)":                                                 "iso a int;\n",
		"Iso:a(TypArr(TypInt))":                                         "iso a []int;\n",
		"Iso:a#1(TypInt)":                                               "iso a[1] int;\n",
		"Iso:a#64(TypArr(TypArr(TypBool)))":                             "iso a[64] [][]bool;\n",
		"Iso:a#9223372036854775807(TypRev)":                             "iso a[9223372036854775807] rev;\n",
		"Iso:a(TypRec:P Name:m)":                                        "iso a P by m;\n",
		"Iso:a#3(TypArr(TypRec:P) Name:m)":                              "iso a[3] []P by m;\n",
		"Iso:len(TypBool Name:len)":                                     "iso len bool by len;\n",
		"Fun:f(NoNode Block)":                                           "fun f() {\n}\n",
		"Fun:f(TypInt Block)":                                           "fun f() int {\n}\n",
		"Fun:f(TypArr(TypRec:P) Block(Return(Name:a)))":                 "fun f() []P {\n\treturn a;\n}\n",
		"Fun:f(Param:x(TypInt) NoNode Block(Return))":                   "fun f(x int) {\n\treturn;\n}\n",
		"Fun:f(Param:x(TypInt) Param:y(TypArr(TypRev)) TypRec:P Block)": "fun f(x int, y []rev) P {\n}\n",
		"Fun:f(Param:x(TypRec:P) Param:y(TypBool) Param:z(TypInt) NoNode Block(Block))":                          "fun f(x P, y bool, z int) {\n\t{\n\t}\n}\n",
		"Fun:f(TypRev Block(If(Flag Block(Return(Num)) Block) While(Flag Block)))":                               "fun f() rev {\n\tif false {\n\t\treturn 0;\n\t} else {\n\t}\n\twhile false {\n\t}\n}\n",
		"Merge:m(Param:o(TypInt) Param:a(TypInt) Param:b(TypInt) Block)":                                         "merge m(o int, a int, b int) {\n}\n",
		"Merge:m(Param:o(TypArr(TypInt)) Param:a(TypRec:P) Param:b(TypRev) Block(Block(Return(Name:o)) Return))": "merge m(o []int, a P, b rev) {\n\t{\n\t\treturn o;\n\t}\n\treturn;\n}\n",
	} {
		holds(t, "decl", written, want)
	}
}

// TestProgs: 16.1, programs without declarations, with one and several.
func TestProgs(t *testing.T) {
	const all = "rec P {\n\tx int;\n}\niso c[2] P by m;\nfun f(a int) {\n\tjoin h;\n}\nmerge m(o P, a P, b P) {\n\treturn a;\n}\n"
	for written, want := range map[string]string{
		"Prog(Block)":                "main {\n}\n",
		"Prog(Block(Print(Num#1)))":  "main {\n\tprint 1;\n}\n",
		"Prog(Block(Block(Return)))": "main {\n\t{\n\t\treturn;\n\t}\n}\n",
		"Prog(Iso:x(TypInt) Block)":  "iso x int;\nmain {\n}\n",
		"Prog(Iso:x(TypInt) Iso:x(TypInt) Fun:main_(NoNode Block) Block(Return Return))": "iso x int;\niso x int;\nfun main_() {\n}\nmain {\n\treturn;\n\treturn;\n}\n",
		"Prog(Rec:P(Param:x(TypInt)) Iso:c#2(TypRec:P Name:m) Fun:f(Param:a(TypInt) NoNode Block(Join:h)) Merge:m(Param:o(TypRec:P) Param:a(TypRec:P) Param:b(TypRec:P) Block(Return(Name:a))) Block(Do(Call:f)))": all + "main {\n\tf();\n}\n",
	} {
		holds(t, "prog", written, want)
		if !show.Fits(read(written)) {
			t.Errorf("%s does not fit", written)
		}
	}
}

// TestDepths: 16.1, each kind of statements at each depth, also at depths that are
// taken as the nearest one; what lies in others is deeper than these, also than 100.
func TestDepths(t *testing.T) {
	tabs := map[int]int{0: 0, 1: 1, 2: 2, 50: 50, 99: 99, 100: 100, -1: 0, -100: 0, math.MinInt: 0, 101: 100, 102: 100, 256: 100, 1 << 32: 100, 1<<32 + 5: 100, math.MaxInt: 100}
	for written, lines := range map[string][]string{
		"Block":                             {"{", "}"},
		"Block(Return)":                     {"{", "\treturn;", "}"},
		"Var:x(Num)":                        {"var x = 0;"},
		"Set(Name:x Num)":                   {"x = 0;"},
		"If(Name:a Block)":                  {"if a {", "}"},
		"While(Num Block)":                  {"while 0 {", "}"},
		"Return":                            {"return;"},
		"Return(Name:x)":                    {"return x;"},
		"Join:h":                            {"join h;"},
		"Print(Call:f)":                     {"print f();"},
		"Do(Call:f(Num))":                   {"f(0);"},
		"Block(Block(Block(Join:h) Block))": {"{", "\t{", "\t\t{", "\t\t\tjoin h;", "\t\t}", "\t\t{", "\t\t}", "\t}", "}"},
		"If(Name:a Block(Return) If(Name:b Block(Return) Block(While(Name:c Block(Return)))))": {"if a {", "\treturn;", "} else if b {", "\treturn;", "} else {", "\twhile c {", "\t\treturn;", "\t}", "}"},
	} {
		n := read(written)
		for depth, ahead := range tabs {
			want := ""
			for _, line := range lines {
				want += rep("\t", ahead) + line + "\n"
			}
			is(t, "stmt", n, depth, want)
			if !tree.Same(reads("stmt", want), n) {
				t.Errorf("%q is not read as %s", want, written)
			}
		}
	}
}
