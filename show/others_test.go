package show_test

import (
	"math"
	"slices"
	"testing"

	"marline/api"
	"marline/show"
	"marline/tree"
)

// Nodes that are right, of each kind with its choices, and parts that are nothing
// by themselves.
const (
	types = "TypInt|TypBool|TypRev|TypRec:pair|TypArr(TypInt)|TypArr(TypArr(TypRec:_))"
	exprs = "Num|Num#1|Num#9223372036854775807|Flag|Flag#1|Name:x|Name:len|Index(Name:a Num#1)|Index(Call:f Un#2(Name:x))|Field:f(Name:r)|Field:f(Bin#1(Num Num))" +
		"|Un#2(Num#5)|Un#14(Flag)|Un#14(Bin#6(Name:x Name:y))|Bin#1(Num#1 Num#2)|Bin#8(Bin#8(Num Num) Num)|Bin#13(Flag Bin#13(Flag Flag#1))" +
		"|Call:f|Call:f(Num)|Call:f(Num Flag Name:x)|Fork:f|Fork:f(Num)|Fork:f(Name:x Name:y)|New(TypInt)|New(TypRec:p Num)|New(TypArr(TypInt) Num Num)"
	stmts = "Block|Block(Return)|Block(Block Var:x(Num) Block(Join:h))|Var:x(Num)|Set(Name:x Num)|Set(Index(Field:f(Name:r) Num#1) Name:x)" +
		"|If(Flag#1 Block)|If(Name:x Block(Return) Block)|If(Flag Block If(Num Block))|If(Flag Block If(Num Block Block(Return)))|While(Flag#1 Block)|While(Name:i Block(Return))" +
		"|Return|Return(Num)|Join:h|Print(Num)|Do(Call:f)|Do(Call:f(Num Num))"
	decls = "Rec:r(Param:x(TypInt))|Rec:r(Param:x(TypInt) Param:y(TypBool))|Iso:x(TypInt)|Iso:x#1(TypBool)|Iso:x(TypInt Name:add)|Iso:x#3(TypArr(TypInt) Name:x)" +
		"|Fun:f(NoNode Block)|Fun:f(TypInt Block)|Fun:f(Param:x(TypInt) NoNode Block(Return))|Fun:f(Param:x(TypInt) Param:y(TypRev) TypRec:p Block)" +
		"|Merge:m(Param:o(TypInt) Param:a(TypInt) Param:b(TypInt) Block(Return(Name:o)))"
	progs = "Prog(Block)|Prog(Block(Return))|Prog(Iso:x(TypInt) Block)|Prog(Rec:r(Param:x(TypInt)) Iso:c#2(TypRec:r) Fun:f(NoNode Block) Block(Do(Call:f)))"
	parts = "NoNode|Param:x(TypInt)|Param:len(TypArr(TypRec:p))"
)

// rows are those of each sort; of no sort the parts.
var rows = map[string]string{"type": types, "expr": exprs, "stmt": stmts, "decl": decls, "prog": progs, "": parts}

// every are the nodes of all rows.
func every() []api.Node {
	var l []api.Node
	for _, row := range []string{types, exprs, stmts, decls, progs, parts} {
		l = append(l, nodes(row)...)
	}
	return l
}

// sortOf is the sort of which a node is; "", if of none.
func sortOf(n api.Node) string {
	for i, is := range []bool{tree.Type(n), tree.Expr(n), tree.Stmt(n), tree.Decl(n), tree.Prog(n)} {
		if is {
			return sorts[i]
		}
	}
	return ""
}

// asTold: is a node, whatever it is, told as the chapter says, told anew?
func asTold(t *testing.T, n api.Node) {
	t.Helper()
	sort := sortOf(n)
	for _, depth := range []int{0, 3} {
		want := ""
		if sort != "" {
			want = told(sort, n, depth)
		}
		is(t, sort, n, depth, want)
	}
}

// nothing: has a node no text by any call, and does not fit?
func nothing(t *testing.T, n api.Node) {
	t.Helper()
	for _, sort := range sorts {
		if got := text(sort, n, 1); got != "" {
			t.Errorf("%s of %.200s: %q", sort, look(n), got)
		}
	}
	if show.Fits(n) {
		t.Errorf("%.200s fits", look(n))
	}
}

// TestOthers: 16.1, 16.2, each of the calls of each kind of nodes of each sort: the
// text by the one call, and none by the others.
func TestOthers(t *testing.T) {
	for sort, row := range rows {
		for _, n := range nodes(row) {
			if got := sortOf(n); got != sort {
				t.Errorf("%s is a %q, not a %q", look(n), got, sort)
			}
			asTold(t, n)
			if got := text(sort, n, 0); sort != "" && got == "" {
				t.Errorf("%s: no text", look(n))
			}
			if fits := show.Fits(n); fits != (sort == "prog") {
				t.Errorf("%s fits: %v", look(n), fits)
			}
		}
	}
}

// TestWrong: 16.1, 16.2, nodes that are nothing, or nearly something.
func TestWrong(t *testing.T) {
	for _, row := range []string{
		"NoNode|NoNode#1|NoNode:x|NoNode(Block)|TypInt#1|TypInt:x|TypInt(TypInt)|TypBool(Num)|TypRev#-1|TypRec|TypRec:int|TypRec:2|TypRec:p#1|TypRec:p(TypInt)|TypArr|TypArr(Num)|TypArr(NoNode)|TypArr(TypInt TypInt)|TypArr(TypArr)|TypArr:x(TypInt)",
		"Num#-1|Num#-9223372036854775808|Num:x|Num(Num)|Flag#2|Flag#-1|Flag:true|Flag(Flag)|Name|Name:if|Name:2x|Name:x#1|Name:x(Num)|Index|Index(Name:a)|Index(Name:a TypInt)|Index(Name:a Num Num)|Index#1(Name:a Num)|Index:a(Name:a Num)",
		"Field:f|Field(Name:a)|Field:by(Name:a)|Field:f(TypInt)|Field:f(Name:a Name:b)|Field:f#1(Name:a)|Un(Num)|Un#1(Num)|Un#3(Num)|Un#13(Num)|Un#15(Num)|Un#2|Un#2(Num Num)|Un#2(TypInt)|Un:x#2(Num)|Bin(Num Num)|Bin#14(Num Num)|Bin#15(Num Num)|Bin#-1(Num Num)|Bin#1|Bin#1(Num)|Bin#1(Num Num Num)|Bin#1(Num Block)|Bin:x#1(Num Num)|Bin#1(Bin#14(Num Num) Num)",
		"Call|Call:if|Call:f#1|Call:f(TypInt)|Call:f(Num Return)|Fork|Fork:fork|Fork:f#2|Fork:f(NoNode)|New|New(Num)|New(NoNode)|New:x(TypInt)|New#1(TypInt)|New(TypInt TypInt)|New(TypRec)|New(TypInt Num Block)",
		"Block#1|Block:x|Block(Num)|Block(Return Call:f)|Block(Param:x(TypInt))|Block(Iso:x(TypInt))|Var(Num)|Var:x|Var:var(Num)|Var:x(TypInt)|Var:x(Num Num)|Var:x#1(Num)|Set|Set(Name:x)|Set(Num Num)|Set(Call:f Num)|Set(Index(Call:f Num) Num)|Set(Field:f(Un#2(Name:x)) Num)|Set(Name:x TypInt)|Set(Name:x Num Num)|Set#1(Name:x Num)|Set:x(Name:x Num)",
		"If|If(Num)|If(Block)|If(Num Num)|If(Num Return)|If(TypInt Block)|If(Num Block Return)|If(Num Block Num)|If(Num Block NoNode)|If(Num Block While(Num Block))|If(Num Block Block Block)|If(Num Block If(Num))|If(Num Block If(Num Block Do(Call:f)))|If:x(Num Block)|If#1(Num Block)|While|While(Num)|While(Num Num)|While(Num If(Num Block))|While(Num Block Block)|While#1(Num Block)",
		"Return#1|Return:x|Return(Block)|Return(Num Num)|Return(TypInt)|Join|Join:join|Join:h#1|Join:h(Name:h)|Print|Print(TypInt)|Print(Num Num)|Print:x(Num)|Do|Do(Num)|Do(Name:f)|Do(Fork:f)|Do(Call:f Call:f)|Do(Call:if)|Do:f(Call:f)|Do#1(Call:f)",
		"Param|Param:x|Param:int(TypInt)|Param(TypInt)|Param:x(Num)|Param:x(TypInt TypInt)|Param:x#1(TypInt)|Rec:r|Rec(Param:x(TypInt))|Rec:rec(Param:x(TypInt))|Rec:r#1(Param:x(TypInt))|Rec:r(TypInt)|Rec:r(Param:x(TypInt) Name:x)|Rec:r(Param:x(NoNode))",
		"Iso|Iso:x|Iso(TypInt)|Iso:iso(TypInt)|Iso:x#-1(TypInt)|Iso:x#-9223372036854775808(TypInt)|Iso:x(Num)|Iso:x(NoNode)|Iso:x(TypInt TypInt)|Iso:x(TypInt Name)|Iso:x(TypInt Name:by)|Iso:x(TypInt Call:m)|Iso:x(TypInt Name:m Name:m)|Iso:x(Name:m TypInt)",
		"Fun|Fun:f|Fun:f(Block)|Fun:f(TypInt)|Fun:f(NoNode)|Fun(NoNode Block)|Fun:fun(NoNode Block)|Fun:f#1(NoNode Block)|Fun:f(Block NoNode)|Fun:f(NoNode NoNode Block)|Fun:f(Param:x(TypInt) Block)|Fun:f(NoNode Return)|Fun:f(Num Block)|Fun:f(NoNode#1 Block)|Fun:f(NoNode:x Block)|Fun:f(NoNode(NoNode) Block)|Fun:f(Param:x NoNode Block)|Fun:f(Param:x(TypInt) NoNode)",
		"Merge|Merge:m|Merge:m(Block)|Merge:m(Param:o(TypInt) Param:a(TypInt) Param:b(TypInt))|Merge:m(Param:o(TypInt) Param:a(TypInt) Block)|Merge:m(Param:o(TypInt) Param:a(TypInt) Param:b(TypInt) Param:c(TypInt) Block)|Merge:m(Param:o(TypInt) Param:a(TypInt) Param:b(TypInt) TypInt Block)|Merge(Param:o(TypInt) Param:a(TypInt) Param:b(TypInt) Block)|Merge:m(Param:o(TypInt) Param:a(TypInt) Param:b(TypInt) Return)",
		"Prog|Prog(Iso:x(TypInt))|Prog(Block Block)|Prog(Block Iso:x(TypInt))|Prog(Return)|Prog(Num)|Prog(If(Num Block))|Prog(Num Block)|Prog(Param:x(TypInt) Block)|Prog(Prog(Block))|Prog(Prog(Block) Block)|Prog:x(Block)|Prog#1(Block)|Prog(Block#1)|Prog(Block(Print(Num#-1)))|Prog(Block(Block(Block(Return(Name:if)))))|Prog(Iso:x#-1(TypInt) Block)|Prog(Iso:x Block)",
	} {
		for _, n := range nodes(row) {
			nothing(t, n)
		}
	}
	for _, s := range []string{"", " ", "x ", "x y", "x+", "a(b)", "-", "é", "\n", rep("n", 33), rep("n", 1<<20), "main", "true"} {
		nothing(t, api.Node{Kind: api.Name, Name: s})
		nothing(t, api.Node{Kind: api.TypRec, Name: s})
		nothing(t, api.Node{Kind: api.Join, Name: s})
		nothing(t, node(api.Prog, node(api.Block, node(api.Print, api.Node{Kind: api.Name, Name: s}))))
	}
}

// TestNoKind: 16.1, 16.2, kinds that are none, whatever the nodes have besides, and
// such nodes within others.
func TestNoKind(t *testing.T) {
	for _, kind := range []int{-1, 6, 9, 20, 29, 39, 49, 56, 60, 100, 255, 256 + 30, 1<<16 + 10, 1<<32 + 55, 1<<32 + 1, -55, math.MinInt, math.MaxInt} {
		for _, n := range every() {
			n.Kind = kind
			nothing(t, n)
		}
		n := node(kind)
		nothing(t, node(api.TypArr, n))
		nothing(t, node(api.Return, n))
		nothing(t, node(api.Block, n))
		nothing(t, node(api.Prog, n))
		nothing(t, node(api.Prog, n, node(api.Block)))
	}
}

// TestChanged: 16.1, 16.2, all right nodes with another kind, number or name, with
// a kid less, one more, or another one: told as what they are then, if anything.
func TestChanged(t *testing.T) {
	kids := nodes("NoNode|TypInt|TypArr|TypRec:p|Num|Num#-1|Flag#1|Name:x|Name:if|Index(Name:a Num)|Field:f(Call:f)|Un#2(Num)|Bin#1(Num Num)|Call:f|Fork:f|New(TypInt)|Block|Block(Num)|Return|If(Num Block)|Do(Call:f)|Param:x(TypInt)|Iso:x(TypInt)|Fun:f(NoNode Block)|Prog(Block)")
	for _, n := range every() {
		for _, kind := range kinds {
			x := n
			x.Kind = kind
			asTold(t, x)
		}
		for _, number := range []int{0, 1, 2, 3, 6, 13, 14, 15, -1, 257, 1<<32 + 1, math.MinInt, math.MaxInt} {
			x := n
			x.N = number
			asTold(t, x)
		}
		for _, s := range []string{"", "x", "if", "2x", " x", "len", rep("n", 32), rep("n", 33)} {
			x := n
			x.Name = s
			asTold(t, x)
		}
		for i := range len(n.Kids) + 1 {
			if i < len(n.Kids) {
				x := n
				x.Kids = slices.Delete(slices.Clone(n.Kids), i, i+1)
				asTold(t, x)
			}
			for _, k := range kids {
				x := n
				x.Kids = slices.Insert(slices.Clone(n.Kids), i, k)
				asTold(t, x)
				if i < len(n.Kids) {
					x.Kids = slices.Clone(n.Kids)
					x.Kids[i] = k
					asTold(t, x)
				}
			}
		}
	}
}
