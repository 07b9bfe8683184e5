package tree_test

import (
	"math"
	"slices"
	"strconv"
	"strings"
	"testing"

	"marline/api"
	"marline/lex"
	"marline/tree"
)

// kinds are the kinds of nodes by their names, as the document numbers them.
var kinds = map[string]int{
	"NoNode": 0, "TypInt": 1, "TypBool": 2, "TypRev": 3, "TypRec": 4, "TypArr": 5,
	"Num": 10, "Flag": 11, "Name": 12, "Index": 13, "Field": 14, "Un": 15, "Bin": 16, "Call": 17, "Fork": 18, "New": 19,
	"Block": 30, "Var": 31, "Set": 32, "If": 33, "While": 34, "Return": 35, "Join": 36, "Print": 37, "Do": 38,
	"Param": 50, "Rec": 51, "Iso": 52, "Fun": 53, "Merge": 54, "Prog": 55,
}

// read reads a node as these tests write it: its kind, :name, #number, and its
// kids in brackets, with one blank between any two. Each node of it stands at
// another place.
func read(s string) api.Node {
	at := 0
	n, rest := readOne(s, &at)
	if rest != "" {
		panic("behind a node: " + s)
	}
	return n
}

func readOne(s string, at *int) (api.Node, string) {
	*at += 7
	n := api.Node{At: *at}
	head := len(s)
	if i := strings.IndexAny(s, "() "); i >= 0 {
		head = i
	}
	word, rest := s[:head], s[head:]
	if before, number, ok := strings.Cut(word, "#"); ok {
		word = before
		i, err := strconv.Atoi(number)
		if err != nil {
			panic(s)
		}
		n.N = i
	}
	word, n.Name, _ = strings.Cut(word, ":")
	kind, ok := kinds[word]
	if !ok {
		panic("no kind " + word + " in " + s)
	}
	n.Kind = kind
	if strings.HasPrefix(rest, "(") {
		for !strings.HasPrefix(rest, ")") {
			var k api.Node
			k, rest = readOne(rest[1:], at)
			n.Kids = append(n.Kids, k)
		}
		rest = rest[1:]
	}
	return n, rest
}

// dump is a node written so that any two are unlike that have anything unlike.
func dump(n api.Node) string {
	var b strings.Builder
	write(&b, n, true)
	return b.String()
}

// look is the same without places.
func look(n api.Node) string {
	var b strings.Builder
	write(&b, n, false)
	return b.String()
}

func write(b *strings.Builder, n api.Node, places bool) {
	b.WriteString("(" + strconv.Itoa(n.Kind) + " " + strconv.Itoa(n.N) + " " + strconv.Quote(n.Name))
	if places {
		b.WriteString("@" + strconv.Itoa(n.At))
	}
	for _, k := range n.Kids {
		write(b, k, places)
	}
	b.WriteString(")")
}

// copied is a node in new memory, with its places.
func copied(n api.Node) api.Node {
	kids := n.Kids
	n.Kids = nil
	for _, k := range kids {
		n.Kids = append(n.Kids, copied(k))
	}
	return n
}

// rule is what the chapter tells of a kind: which numbers, whether a name, and
// which kids (sorts, * behind one: any number) make it of which sorts.
type rule struct {
	kind  string
	n     func(int) bool
	named bool
	kids  string
	sorts string
}

func nought(n int) bool     { return n == 0 }
func fromNought(n int) bool { return n >= 0 }
func flag(n int) bool       { return n == 0 || n == 1 }
func before(n int) bool     { return n == 2 || n == 14 }
func between(n int) bool    { return n >= 1 && n <= 13 }

// rules are the chapter's words, told anew.
var rules = []rule{
	{"TypInt", nought, false, "", "type answer"},
	{"TypBool", nought, false, "", "type answer"},
	{"TypRev", nought, false, "", "type answer"},
	{"TypRec", nought, true, "", "type answer"},
	{"TypArr", nought, false, "type", "type answer"},
	{"NoNode", nought, false, "", "answer"},
	{"Num", fromNought, false, "", "expr"},
	{"Flag", flag, false, "", "expr"},
	{"Name", nought, true, "", "expr place by"},
	{"Index", nought, false, "expr expr", "expr"},
	{"Index", nought, false, "place expr", "place"},
	{"Field", nought, true, "expr", "expr"},
	{"Field", nought, true, "place", "place"},
	{"Un", before, false, "expr", "expr"},
	{"Bin", between, false, "expr expr", "expr"},
	{"Call", nought, true, "expr*", "expr call"},
	{"Fork", nought, true, "expr*", "expr"},
	{"New", nought, false, "type expr*", "expr"},
	{"Block", nought, false, "stmt*", "stmt block else"},
	{"Var", nought, true, "expr", "stmt"},
	{"Set", nought, false, "place expr", "stmt"},
	{"If", nought, false, "expr block", "stmt else"},
	{"If", nought, false, "expr block else", "stmt else"},
	{"While", nought, false, "expr block", "stmt"},
	{"Return", nought, false, "", "stmt"},
	{"Return", nought, false, "expr", "stmt"},
	{"Join", nought, true, "", "stmt"},
	{"Print", nought, false, "expr", "stmt"},
	{"Do", nought, false, "call", "stmt"},
	{"Param", nought, true, "type", "param"},
	{"Rec", nought, true, "param param*", "decl"},
	{"Iso", fromNought, true, "type", "decl"},
	{"Iso", fromNought, true, "type by", "decl"},
	{"Fun", nought, true, "param* answer block", "decl"},
	{"Merge", nought, true, "param param param block", "decl"},
	{"Prog", nought, false, "decl* block", "prog"},
}

// sorts are those of a node, by the rules.
func sorts(n api.Node) []string {
	var kids [][]string
	for _, k := range n.Kids {
		kids = append(kids, sorts(k))
	}
	return sortsOf(n, kids)
}

// sortsOf are those of a node whose kids are of some sorts.
func sortsOf(n api.Node, kids [][]string) []string {
	var l []string
	for _, r := range rules {
		if kinds[r.kind] != n.Kind || !r.n(n.N) || r.named != (n.Name != "") || r.named && !right(n.Name) {
			continue
		}
		if fits(strings.Fields(r.kids), kids) {
			l = append(l, strings.Fields(r.sorts)...)
		}
	}
	return l
}

// fits: are kids of some sorts those of a rule?
func fits(want []string, kids [][]string) bool {
	if len(want) == 0 {
		return len(kids) == 0
	}
	sort, many := strings.CutSuffix(want[0], "*")
	if many && fits(want[1:], kids) {
		return true
	}
	if len(kids) == 0 || !slices.Contains(kids[0], sort) {
		return false
	}
	if many {
		return fits(want, kids[1:])
	}
	return fits(want[1:], kids[1:])
}

// right: is a text what lex tells as one token, a name?
func right(s string) bool {
	l, _, e := lex.All(s)
	return e == api.OK && len(l) == 2 && l[0].Kind == api.TokName && l[0].Text == s
}

// answers are those of the five calls, by their words, in order.
func answers(n api.Node) string {
	s := ""
	for i, is := range []bool{tree.Type(n), tree.Expr(n), tree.Stmt(n), tree.Decl(n), tree.Prog(n)} {
		if is {
			s += " " + strings.Fields("type expr stmt decl prog")[i]
		}
	}
	return strings.TrimSpace(s)
}

// told are the same by some sorts.
func told(sorts []string) string {
	var l []string
	for _, s := range strings.Fields("type expr stmt decl prog") {
		if slices.Contains(sorts, s) {
			l = append(l, s)
		}
	}
	return strings.Join(l, " ")
}

// is: do the five calls answer that a node is just this, or nothing (""), as
// the rules do, wherever it stands, and leave it as it was?
func is(t *testing.T, n api.Node, want string) {
	t.Helper()
	was := dump(n)
	if got := answers(n); got != want {
		t.Errorf("%s: %q; want %q", look(n), got, want)
	}
	if got := told(sorts(n)); got != want {
		t.Errorf("%s: by the rules %q; want %q", look(n), got, want)
	}
	if got := answers(tree.Clean(n)); got != want {
		t.Errorf("%s: %q without places; want %q", look(n), got, want)
	}
	if dump(n) != was {
		t.Errorf("%s: changed to %s", was, dump(n))
	}
}

// asRules: do the five calls answer what the rules do?
func asRules(t *testing.T, n api.Node) {
	t.Helper()
	is(t, n, told(sorts(n)))
}

// Nodes that are right, of each sort.
const (
	types = "TypInt|TypBool|TypRev|TypRec:pair|TypArr(TypInt)|TypArr(TypBool)|TypArr(TypRev)|TypArr(TypRec:p)|TypArr(TypArr(TypInt))|TypArr(TypArr(TypArr(TypRec:_)))"
	exprs = "Num|Num#1|Num#9223372036854775807|Flag|Flag#1|Name:x|Name:len|Name:Main_0" +
		"|Index(Name:a Num#1)|Index(Call:f Name:x)|Index(Index(Name:a Num) Flag#1)|Index(Num New(TypInt))|Index(New(TypArr(TypInt) Num) Num)" +
		"|Field:f(Name:r)|Field:f(Num)|Field:f(Field:g(Call:h))|Field:int_(New(TypRec:p Num#1))" +
		"|Un#2(Num#5)|Un#14(Flag)|Un#2(Un#14(Un#2(Name:x)))|Un#14(Fork:f)" +
		"|Bin#1(Num#1 Num#2)|Bin#2(Name:x Num)|Bin#3(Num Num)|Bin#4(Num Num)|Bin#5(Num Num)|Bin#6(Num Num)|Bin#7(Num Num)|Bin#8(Num Num)|Bin#9(Num Num)|Bin#10(Num Num)|Bin#11(Num Num)|Bin#12(Flag Flag#1)|Bin#13(Flag Flag)|Bin#1(Bin#2(Num Num) Bin#13(Un#2(Num) Call:f))" +
		"|Call:f|Call:f(Num)|Call:len(Name:a)|Call:f(Num Flag Name:x Fork:g Call:h New(TypInt))" +
		"|Fork:f|Fork:f(Num)|Fork:f(Name:x Name:y)|Fork:input(Num Num Num Num)" +
		"|New(TypInt)|New(TypRec:p Num Flag)|New(TypArr(TypInt) Num Num Num)|New(TypRev Name:x)|New(TypArr(TypRec:p) New(TypRec:p Num#1) New(TypRec:p Num#2))"
	stmts = "Block|Block(Return)|Block(Block Block(Block))|Block(Var:x(Num) Set(Name:x Num#1) Print(Name:x) Join:h Do(Call:f) Return(Name:x))" +
		"|Var:x(Num)|Var:h(Fork:f)|Var:len(New(TypArr(TypInt) Num))" +
		"|Set(Name:x Num)|Set(Index(Name:a Num) Call:f)|Set(Field:f(Name:r) Num)|Set(Index(Field:f(Index(Field:g(Name:r) Num#1)) Bin#1(Call:f Num)) Name:x)" +
		"|If(Flag#1 Block)|If(Name:x Block(Return))|If(Flag Block Block)|If(Flag Block If(Num Block))|If(Flag Block If(Num Block Block(Return)))|If(Flag Block If(Flag Block If(Flag Block If(Flag Block Block))))" +
		"|While(Flag#1 Block)|While(Bin#8(Name:i Num#9) Block(Set(Name:i Bin#1(Name:i Num#1))))" +
		"|Return|Return(Num)|Return(Un#2(Name:x))|Return(Fork:f)|Join:h|Join:inputs|Print(Num)|Print(Call:f(Name:x))|Print(New(TypInt))" +
		"|Do(Call:f)|Do(Call:f(Num Num))|Do(Call:f(Call:g(Fork:h)))"
	decls = "Rec:r(Param:x(TypInt))|Rec:r(Param:x(TypInt) Param:y(TypBool))|Rec:r(Param:a(TypRec:r) Param:b(TypArr(TypRev)) Param:c(TypRev) Param:d(TypInt))" +
		"|Iso:x(TypInt)|Iso:x#1(TypBool)|Iso:x#64(TypRec:p)|Iso:x#65(TypArr(TypInt))|Iso:x#9223372036854775807(TypRev)|Iso:x(TypInt Name:add)|Iso:x#3(TypArr(TypInt) Name:x)" +
		"|Fun:f(TypInt Block)|Fun:f(NoNode Block)|Fun:f(Param:x(TypInt) NoNode Block)|Fun:f(Param:x(TypInt) TypRec:p Block(Return(Num)))|Fun:f(Param:x(TypInt) Param:y(TypArr(TypInt)) Param:z(TypRev) TypArr(TypInt) Block(Return))" +
		"|Merge:m(Param:o(TypInt) Param:a(TypInt) Param:b(TypInt) Block(Return(Name:o)))|Merge:len(Param:o(TypRec:p) Param:m(TypBool) Param:t(TypRev) Block)"
	progs = "Prog(Block)|Prog(Block(Print(Num#1)))|Prog(Iso:x(TypInt) Block)|Prog(Rec:r(Param:x(TypInt)) Iso:c#2(TypRec:r Name:m) Fun:f(NoNode Block) Merge:m(Param:o(TypRec:r) Param:a(TypRec:r) Param:b(TypRec:r) Block(Return(Name:a))) Block(Do(Call:f) Return))"
	parts = "NoNode|Param:x(TypInt)|Param:y(TypRec:p)|Param:len(TypArr(TypArr(TypBool)))"
)

// nodes are those of a row that is written as the ones above.
func nodes(row string) []api.Node {
	var l []api.Node
	for _, s := range strings.Split(row, "|") {
		l = append(l, read(s))
	}
	return l
}

// everyNode are all right nodes of all sorts.
func everyNode() []api.Node {
	return nodes(strings.Join([]string{types, exprs, stmts, decls, progs, parts}, "|"))
}

// samples are some of each kind, right and wrong, to be others' kids.
func samples() []api.Node {
	return nodes("NoNode|NoNode#1|TypInt|TypInt#1|TypRec:p|TypRec|TypArr(TypInt)|TypArr|Num|Num#-1|Flag#1|Flag#2|Name:x|Name:if|Name|Index(Name:a Num)|Index(Num Num)|Field:f(Name:a)|Field:f(Call:f)|Un#2(Num)|Bin#1(Num Num)|Call:f|Call|Fork:f|New(TypInt)|New|Block|Block#1|Block(Num)|Var:x(Num)|Set(Name:x Num)|If(Num Block)|If(Num)|While(Num Block)|Return|Join:h|Print(Num)|Do(Call:f)|Do(Fork:f)|Param:x(TypInt)|Param:x|Rec:r(Param:x(TypInt))|Iso:x(TypInt)|Fun:f(NoNode Block)|Merge:m(Param:o(TypInt) Param:a(TypInt) Param:b(TypInt) Block)|Prog(Block)")
}

// numbers and names are some that nodes have, and some that none has.
func numbers() []int {
	return []int{0, 1, 2, 3, 5, 6, 11, 12, 13, 14, 15, 16, -1, -2, 257, 258, 1<<32 + 1, 1 << 40, math.MinInt, math.MaxInt}
}

func names() []string {
	return []string{"", "x", "if", "main", "len", "2x", " x", "x y", "x+", "+", "é", strings.Repeat("n", 32), strings.Repeat("n", 33)}
}

// TestConstants: kinds, signs and MaxName are those of the document.
func TestConstants(t *testing.T) {
	if api.MaxName != 32 || api.Plus != 1 || api.Minus != 2 || api.Or != 13 || api.Not != 14 {
		t.Error(api.MaxName, api.Plus, api.Minus, api.Or, api.Not)
	}
	given := []int{api.NoNode, api.TypInt, api.TypBool, api.TypRev, api.TypRec, api.TypArr, api.Num, api.Flag, api.Name, api.Index, api.Field, api.Un, api.Bin, api.Call, api.Fork, api.New, api.Block, api.Var, api.Set, api.If, api.While, api.Return, api.Join, api.Print, api.Do, api.Param, api.Rec, api.Iso, api.Fun, api.Merge, api.Prog}
	var want []int
	for _, k := range kinds {
		want = append(want, k)
	}
	slices.Sort(want)
	if !slices.Equal(given, want) {
		t.Error(given, want)
	}
}

// TestExample: the chapter's (11.1).
func TestExample(t *testing.T) {
	block := api.Node{Kind: api.Block}
	if !tree.Stmt(block) || !tree.Prog(api.Node{Kind: api.Prog, Kids: []api.Node{block}}) {
		t.Error("a block, a program")
	}
}

// TestRight: 11.1, nodes of all sorts, each as it is written out: each is of
// the one sort, and of no other.
func TestRight(t *testing.T) {
	for sort, row := range map[string]string{"type": types, "expr": exprs, "stmt": stmts, "decl": decls, "prog": progs, "": parts} {
		for _, n := range nodes(row) {
			is(t, n, sort)
		}
	}
}

// TestWrong: 11.1, nodes that are nearly right, written out.
func TestWrong(t *testing.T) {
	for _, row := range []string{
		"NoNode(TypInt)|NoNode:x|NoNode#1|TypInt#1|TypInt:x|TypInt(TypInt)|TypBool#-1|TypBool:p|TypBool(Num)|TypRev#3|TypRev:rev|TypRev(NoNode)",
		"TypRec|TypRec:int|TypRec:2|TypRec:p#1|TypRec:p(TypInt)|TypRec:p(Param:x(TypInt))|TypArr|TypArr(NoNode)|TypArr(Num)|TypArr(Name:p)|TypArr(TypInt TypInt)|TypArr:p(TypInt)|TypArr#1(TypInt)|TypArr(TypArr)|TypArr(TypRec)",
		"Num#-1|Num#-9223372036854775808|Num:x|Num#1(Num)|Flag#2|Flag#-1|Flag:true|Flag#1(Flag)|Name|Name:true|Name:x#1|Name:x(Num)|Name:2x",
		"Index|Index(Name:a)|Index(Name:a Num Num)|Index(Name:a TypInt)|Index(TypInt Num)|Index:a(Name:a Num)|Index#1(Name:a Num)|Index(Name:if Num)|Index(Name:a Num#-1)",
		"Field:f|Field(Name:a)|Field:f(TypInt)|Field:f(Name:a Name:b)|Field:f#1(Name:a)|Field:by(Name:a)|Field:f(Name)|Field:f(Block)",
		"Un(Num)|Un#1(Num)|Un#3(Num)|Un#13(Num)|Un#15(Num)|Un#-2(Num)|Un#2|Un#2(Num Num)|Un:x#2(Num)|Un#14(TypInt)|Un#14(Num#-1)",
		"Bin(Num Num)|Bin#14(Num Num)|Bin#15(Num Num)|Bin#-1(Num Num)|Bin#1|Bin#1(Num)|Bin#1(Num Num Num)|Bin:x#1(Num Num)|Bin#1(Num TypInt)|Bin#1(Return Num)|Bin#1(Num Bin#14(Num Num))",
		"Call|Call:if|Call:f#1|Call:f(TypInt)|Call:f(Num TypInt)|Call:f(Num Num Print(Num))|Call(Num)|Fork|Fork:fork|Fork:f#1|Fork:f(NoNode)|Fork:f(Num Num#-1 Num)|New|New(Num)|New(NoNode)|New:x(TypInt)|New#1(TypInt)|New(TypInt TypInt)|New(TypInt Num Block)|New(Num TypInt)|New(TypRec Num)",
		"Block:x|Block#1|Block(Num)|Block(Return Call:f)|Block(Param:x(TypInt))|Block(Iso:x(TypInt))|Block(Return Return#1 Return)|Block(Prog(Block))|Block(NoNode)",
		"Var(Num)|Var:x|Var:x(TypInt)|Var:x(Num Num)|Var:x#1(Num)|Var:var(Num)|Var:x(Block)|Set|Set(Name:x)|Set(Name:x Num Num)|Set(Num Num)|Set(Call:f Num)|Set(Index(Call:f Num) Num)|Set(Field:f(Call:g) Num)|Set(Name:x TypInt)|Set(Name:x Name:new)|Set:x(Name:x Num)|Set#1(Name:x Num)|Set(Name:if Num)|Set(Index(Name:x TypInt) Num)|Set(Field(Name:x) Num)|Set(Name:x Set(Name:x Num))|Set(Index(Num Num) Num)|Set(Index(Name:x Num#-1) Num)|Set(Index(Name:x) Num)|Set(Field:f Num)|Set(Name:x#1 Num)|Set(Name:x(Name:x) Num)",
		"Set(Field:f#1(Name:x) Num)|Set(Index#1(Name:x Num) Num)|Set(Index:f(Name:x Num) Num)|Set(Index(Name:x Num Num) Num)|Set(Field:f(Name:x Name:x) Num)|Set(Field:if(Name:x) Num)|Set(Index(Index(Fork:f Num) Num) Num)|Set(New(TypInt) Num)|Set(Un#2(Name:x) Num)|Set(TypRec:x Num)",
		"If|If(Num)|If(Block)|If(Num Num)|If(TypInt Block)|If(Num Return)|If(Num If(Num Block))|If(Num Block Return)|If(Num Block Num)|If(Num Block NoNode)|If(Num Block Block Block)|If(Num Block If(Num))|If(Num Block Block(Num))|If(Num Block#1)|If(Num Block(Num))|If:x(Num Block)|If#1(Num Block)|If(Block Num)|If(Num Block While(Num Block))|If(Num Block If(Num Block If(Num Block Do(Call:f))))|If(Num Block Block#2)|If(Num Block If:x(Num Block))",
		"While|While(Num)|While(Num Num)|While(Num Block Block)|While(Num If(Num Block))|While(TypInt Block)|While:x(Num Block)|While#1(Num Block)|While(Block Num)|While(Num Block(Name:x))|Return(TypInt)|Return(Block)|Return(NoNode)|Return(Num Num)|Return:x|Return#1|Return#1(Num)|Return:x(Num)",
		"Join|Join:join|Join:h#1|Join:h(Name:h)|Join:h(Num)|Print|Print(TypInt)|Print(Num Num)|Print:x(Num)|Print#1(Num)|Print(Print(Num))|Do|Do(Num)|Do(Name:f)|Do(Fork:f)|Do(New(TypInt))|Do(Call)|Do(Call:if)|Do(Call:f(TypInt))|Do(Call:f#1)|Do(Call:f Call:f)|Do:f(Call:f)|Do#1(Call:f)|Do(Do(Call:f))|Do(Block)",
		"Param|Param:x|Param:int(TypInt)|Param(TypInt)|Param:x#1(TypInt)|Param:x(NoNode)|Param:x(Num)|Param:x(TypInt TypInt)|Rec:r|Rec(Param:x(TypInt))|Rec:rec(Param:x(TypInt))|Rec:r#1(Param:x(TypInt))|Rec:r(TypInt)|Rec:r(Param:x)|Rec:r(Param:x(TypInt) Name:x)|Rec:r(Param:x(TypInt) Param:y(NoNode))|Rec:r(Param:x#1(TypInt))|Rec:r(Param:x(TypInt) Param:if(TypInt) Param:z(TypInt))|Rec:r(Param:x(TypInt) Param:y(TypInt TypInt))",
		"Iso|Iso:x|Iso(TypInt)|Iso:iso(TypInt)|Iso:x#-1(TypInt)|Iso:x#-9223372036854775808(TypInt)|Iso:x(NoNode)|Iso:x(Num)|Iso:x(Name:x)|Iso:x(TypInt TypInt)|Iso:x(TypInt Name:by)|Iso:x(TypInt Name)|Iso:x(TypInt Name:m#1)|Iso:x(TypInt Name:m(Num))|Iso:x(TypInt Call:m)|Iso:x(TypInt NoNode)|Iso:x(TypInt Name:m Name:m)|Iso:x(Name:m TypInt)|Iso:x(TypInt Num)|Iso:x(TypInt Field:f(Name:m))|Iso#3(TypInt)",
		"Fun|Fun:f|Fun:f(Block)|Fun:f(TypInt)|Fun:f(NoNode)|Fun(NoNode Block)|Fun:fun(NoNode Block)|Fun:f#1(NoNode Block)|Fun:f(Block NoNode)|Fun:f(NoNode NoNode Block)|Fun:f(TypInt TypInt Block)|Fun:f(NoNode Block Block)|Fun:f(Param:x(TypInt) Block)|Fun:f(NoNode Param:x(TypInt) Block)|Fun:f(Num Block)|Fun:f(Name:r Block)|Fun:f(NoNode Return)|Fun:f(NoNode If(Num Block))|Fun:f(NoNode Block(Num))|Fun:f(NoNode#1 Block)|Fun:f(NoNode:x Block)|Fun:f(NoNode(NoNode) Block)|Fun:f(Param:x NoNode Block)|Fun:f(TypInt NoNode Block)|Fun:f(Param:x(TypInt) Num TypInt Block)|Fun:f(Num Param:x(TypInt) TypInt Block)|Fun:f(TypRec Block)|Fun:f(Param:x(TypInt) NoNode)|Fun:f(Param:x(TypInt))",
		"Merge|Merge:m|Merge:m(Block)|Merge:m(Param:o(TypInt) Param:a(TypInt) Param:b(TypInt))|Merge:m(Param:o(TypInt) Param:a(TypInt) Block)|Merge:m(Param:o(TypInt) Param:a(TypInt) Param:b(TypInt) Param:c(TypInt) Block)|Merge:m(Param:o(TypInt) Param:a(TypInt) Param:b(TypInt) TypInt Block)|Merge:m(Param:o(TypInt) Param:a(TypInt) Param:b(TypInt) Block Block)|Merge(Param:o(TypInt) Param:a(TypInt) Param:b(TypInt) Block)|Merge:merge(Param:o(TypInt) Param:a(TypInt) Param:b(TypInt) Block)|Merge:m#1(Param:o(TypInt) Param:a(TypInt) Param:b(TypInt) Block)|Merge:m(Param:o(TypInt) Param:a(TypInt) Param:b(TypInt) Return)|Merge:m(Param:o(TypInt) Param:a(TypInt) TypInt Block)|Merge:m(Param:o(TypInt) Param:a(NoNode) Param:b(TypInt) Block)|Merge:m(Param:o Param:a(TypInt) Param:b(TypInt) Block)|Merge:m(Param:o(TypInt) Param:a(TypInt) Param:b(TypInt) Block#1)",
		"Prog|Prog(Iso:x(TypInt))|Prog(Block Block)|Prog(Block Iso:x(TypInt))|Prog(Iso:x Block)|Prog(Return)|Prog(If(Num Block))|Prog(Num)|Prog(Return Block)|Prog(Num Block)|Prog(Param:x(TypInt) Block)|Prog(Prog(Block))|Prog(Prog(Block) Block)|Prog:x(Block)|Prog#1(Block)|Prog(Block#1)|Prog(Block(Num))|Prog(NoNode Block)|Prog(TypInt Block)|Prog(Iso:x(TypInt) Iso:y#-1(TypInt) Iso:z(TypInt) Block)",
	} {
		for _, n := range nodes(row) {
			is(t, n, "")
		}
	}
}

// TestNoKind: 11.1, a kind that is none is nothing, whatever it has; the same
// kinds as a part of others make these nothing.
func TestNoKind(t *testing.T) {
	var known []int
	for _, k := range kinds {
		known = append(known, k)
	}
	for kind := -70; kind <= 330; kind++ {
		if slices.Contains(known, kind) {
			continue
		}
		for _, n := range everyNode() {
			n.Kind = kind
			if got := answers(n); got != "" {
				t.Errorf("%s: %q", look(n), got)
			}
		}
		is(t, api.Node{Kind: api.Prog, Kids: []api.Node{{Kind: kind}}}, "")
		is(t, api.Node{Kind: api.Block, Kids: []api.Node{{Kind: kind}}}, "")
		is(t, api.Node{Kind: api.Return, Kids: []api.Node{{Kind: kind}}}, "")
		is(t, api.Node{Kind: api.TypArr, Kids: []api.Node{{Kind: kind}}}, "")
	}
	for _, kind := range []int{math.MinInt, math.MaxInt, 1<<32 + 1, 1<<32 + 30, 1<<40 + 10} {
		is(t, api.Node{Kind: kind}, "")
	}
}

// TestChanged: 11.1, all right nodes with another kind, number or name, with
// one kid less, one more, or another one: by the rules.
func TestChanged(t *testing.T) {
	some := samples()
	for _, n := range everyNode() {
		for _, x := range changed(n, some) {
			asRules(t, x)
		}
	}
}

// changed are the nodes that are like n but in one thing.
func changed(n api.Node, some []api.Node) []api.Node {
	var l []api.Node
	for _, kind := range kinds {
		x := n
		x.Kind = kind
		l = append(l, x)
	}
	for _, number := range numbers() {
		x := n
		x.N = number
		l = append(l, x)
	}
	for _, name := range names() {
		x := n
		x.Name = name
		l = append(l, x)
	}
	for i := 0; i <= len(n.Kids); i++ {
		for _, s := range some {
			x := n
			x.Kids = slices.Insert(slices.Clone(n.Kids), i, s)
			l = append(l, x)
			if i < len(n.Kids) {
				x.Kids = slices.Clone(n.Kids)
				x.Kids[i] = s
				l = append(l, x)
			}
		}
		if i < len(n.Kids) {
			x := n
			x.Kids = slices.Delete(slices.Clone(n.Kids), i, i+1)
			l = append(l, x)
			for k := range i {
				x.Kids = slices.Clone(n.Kids)
				x.Kids[i], x.Kids[k] = x.Kids[k], x.Kids[i]
				l = append(l, x)
			}
		}
	}
	return l
}

// TestChangedBelow: 11.1, all right nodes with one of those below changed,
// wherever it is: by the rules.
func TestChangedBelow(t *testing.T) {
	some := nodes("NoNode|TypInt|Num|Name:x|Call:f|Block|Return|Param:x(TypInt)|Iso:x(TypInt)|Prog(Block)")
	for _, n := range everyNode() {
		below(n, some, func(x api.Node) { asRules(t, x) })
	}
}

// below tells n with each of those below it changed.
func below(n api.Node, some []api.Node, tell func(api.Node)) {
	for i, k := range n.Kids {
		with := func(other api.Node) {
			x := n
			x.Kids = slices.Clone(n.Kids)
			x.Kids[i] = other
			tell(x)
		}
		for _, other := range changed(k, some) {
			with(other)
		}
		below(k, some, with)
	}
}

// TestSmall: 11.1, each kind with some numbers and names and up to three of
// some kids, four of fewer: by the rules.
func TestSmall(t *testing.T) {
	kids := nodes("NoNode|TypInt|Num|Name:x|Call:f|Fork:f|Index(Call:f Num)|Block|If(Num Block)|Return|Param:x(TypInt)|Iso:x(TypInt)|Num#-1")
	for many := range 4 {
		small(t, kids, make([]int, many))
	}
	small(t, nodes("NoNode|TypInt|Num|Name:x|Block|If(Num Block)|Param:x(TypInt)"), make([]int, 4))
	small(t, nodes("NoNode|Block|TypInt|Param:x(TypInt)"), make([]int, 6))
}

// small goes through all nodes that have kids, each one of some.
func small(t *testing.T, some []api.Node, which []int) {
	var known [][]string
	for _, k := range some {
		known = append(known, sorts(k))
	}
	kids := make([]api.Node, len(which))
	of := make([][]string, len(which))
	for {
		for i, w := range which {
			kids[i], of[i] = some[w], known[w]
		}
		for _, kind := range kinds {
			for _, number := range []int{0, 1, 14, -1} {
				for _, name := range []string{"", "x"} {
					n := api.Node{Kind: kind, N: number, Name: name, Kids: kids}
					if got, want := answers(n), told(sortsOf(n, of)); got != want {
						t.Fatalf("%s: %q; want %q", look(n), got, want)
					}
				}
			}
		}
		i := 0
		for i < len(which) && which[i] == len(some)-1 {
			which[i] = 0
			i++
		}
		if i == len(which) {
			return
		}
		which[i]++
	}
}

// TestNumbersOfKinds: 11.1, each kind with all small numbers, and some great
// ones.
func TestNumbersOfKinds(t *testing.T) {
	for _, n := range everyNode() {
		for number := -300; number <= 600; number++ {
			n.N = number
			if got, want := answers(n), told(sorts(n)); got != want {
				t.Fatalf("%s: %q; want %q", look(n), got, want)
			}
		}
		for shift := 8; shift < 64; shift++ {
			for more := -15; more <= 15; more++ {
				n.N = 1<<shift + more
				if got, want := answers(n), told(sorts(n)); got != want {
					t.Fatalf("%s: %q; want %q", look(n), got, want)
				}
			}
		}
	}
}

// nodeNamed are nodes of all kinds that have a name, each with that one.
func nodeNamed(name string) []api.Node {
	var l []api.Node
	for _, n := range nodes("TypRec:x|Name:x|Field:x(Num)|Call:x|Fork:x(Num)|Var:x(Num)|Join:x|Rec:x(Param:y(TypInt))|Iso:x#2(TypInt)|Fun:x(NoNode Block)|Merge:x(Param:o(TypInt) Param:a(TypInt) Param:b(TypInt) Block)") {
		n.Name = name
		l = append(l, n)
	}
	param := func() api.Node { return api.Node{Kind: api.Param, Name: name, Kids: nodes("TypInt")} }
	by := api.Node{Kind: api.Name, Name: name}
	l = append(l, api.Node{Kind: api.Rec, Name: "r", Kids: []api.Node{param()}}, api.Node{Kind: api.Iso, Name: "r", Kids: append(nodes("TypInt"), by)}, api.Node{Kind: api.Set, Kids: append([]api.Node{by}, nodes("Num")...)}, api.Node{Kind: api.Do, Kids: []api.Node{{Kind: api.Call, Name: name}}})
	return append(l, api.Node{Kind: api.Set, Kids: append([]api.Node{{Kind: api.Field, Name: name, Kids: nodes("Name:x")}}, nodes("Num")...)})
}

// called: has each kind that has a name it rightly with this one?
func called(t *testing.T, name string, want bool) {
	t.Helper()
	for _, n := range nodeNamed(name) {
		if got := answers(n) != ""; got != want {
			t.Errorf("%s: %v; want %v", look(n), got, want)
		}
	}
	if right(name) != want {
		t.Errorf("%q: lex tells %v", name, !want)
	}
}

// TestNames: 11.1, names that are right: letters and digits, a letter first,
// given functions, as long as may be.
func TestNames(t *testing.T) {
	for _, s := range strings.Fields("a z A Z _ __ x1 a0 a9 _0 x_y X_9_y aZ zA a_ If IF iF mains main_ _main main0 recs re rect iffy i f intt in TRUE True tru truee e whil boo revs len fill input inputs") {
		called(t, s, true)
	}
	for n := 1; n <= 32; n++ {
		called(t, strings.Repeat("n", n), true)
		called(t, "_"+strings.Repeat("9", n-1), true)
	}
}

// TestNamesWrong: 11.1, names that are not right: words, none, those that are
// too long, begin with a digit, or have anything else in them, also blanks
// that lex leaves out.
func TestNamesWrong(t *testing.T) {
	for _, s := range strings.Fields("rec iso fun merge main var if else while return fork join print new by int bool rev true false") {
		called(t, s, false)
	}
	for _, s := range strings.Fields("0 9 00 7 0a 9z 2x 1_ 5if + - * / % == != < <= > >= && || ! ( ) { } [ ] , ; . = # $ a# #a a$ $a a+b a-b a.b x=1 a( (a a,b a[0] -a !a a'b \"a\" `a` \\a @a a@ ^ ~ a~ a: a? é aé éa ｘ а a\u0301 x٣ \ufeffa a\ufeff \xff a\xff \x80a a\x80b") {
		called(t, s, false)
	}
	for _, s := range []string{"", " ", " a", "a ", "a b", "\ta", "a\t", "a\n", "\na", "a\r", "\ra", "a\x00", "\x00a", "a\v", "a\u00a0", "\u00a0a", "a\u2028", "a #", "a# ", "a#b", "#\na", "if ", " if", "a a", "  ", "\n"} {
		called(t, s, false)
	}
	for _, n := range []int{33, 34, 64, 100, 255, 256, 257, 288, 1000, 16384, 16385, 1 << 16, 1<<16 + 5, 1 << 20} {
		called(t, strings.Repeat("n", n), false)
	}
	called(t, strings.Repeat("n", 32)+" ", false)
	called(t, strings.Repeat("n", 16)+" "+strings.Repeat("n", 16), false)
	called(t, strings.Repeat("é", 16), false)
}

// TestNamesAll: 11.1, all texts of up to two bytes, those of three of some
// bytes, and each byte within a longer name and at its ends, as lex tells them.
func TestNamesAll(t *testing.T) {
	for a := range 256 {
		one := string([]byte{byte(a)})
		called(t, one, right(one))
		for b := range 256 {
			two := string([]byte{byte(a), byte(b)})
			called(t, two, right(two))
		}
		for _, s := range []string{"name", "if", "x", "whil", "na_9"} {
			for i := 0; i <= len(s); i++ {
				x := s[:i] + one + s[i:]
				called(t, x, right(x))
			}
		}
	}
	const some = "aZ_09 #if\n(\xff/:@[`{"
	for i := range len(some) {
		for j := range len(some) {
			for k := range len(some) {
				x := string([]byte{some[i], some[j], some[k]})
				called(t, x, right(x))
			}
		}
	}
}

// TestWhereverItStands: 11.1, places count nowhere, whatever they are.
func TestWhereverItStands(t *testing.T) {
	for _, n := range everyNode() {
		want := answers(n)
		for _, at := range []int{0, 1, -1, 16384, math.MinInt, math.MaxInt} {
			x := n
			x.At = at
			x.Kids = slices.Clone(n.Kids)
			for i := range x.Kids {
				x.Kids[i].At = -at
			}
			is(t, x, want)
		}
	}
}

// TestEmptyKids: 11.1, 11.2, a list of kids without members is none.
func TestEmptyKids(t *testing.T) {
	for _, s := range strings.Split("TypInt|Num|Name:x|Call:f|Block|Return|Join:h", "|") {
		n := read(s)
		x := n
		x.Kids = make([]api.Node, 0, 4)
		is(t, x, answers(n))
		if answers(n) == "" || !tree.Same(n, x) || !tree.Same(x, n) || tree.Deep(x) != 1 || tree.Count(x) != 1 || look(tree.Clean(x)) != look(n) {
			t.Error(s)
		}
	}
}

// unlike are all nodes that have just one thing other than n, at the top or
// below, but not its place.
func unlike(n api.Node) []api.Node {
	var l []api.Node
	one := func(change func(x *api.Node)) {
		x := n
		change(&x)
		l = append(l, x)
	}
	one(func(x *api.Node) { x.Kind++ })
	one(func(x *api.Node) { x.Kind -= 256 })
	one(func(x *api.Node) { x.Kind += 1 << 32 })
	one(func(x *api.Node) { x.N++ })
	one(func(x *api.Node) { x.N ^= math.MinInt })
	one(func(x *api.Node) { x.Name += "x" })
	one(func(x *api.Node) { x.Name += "\x00" })
	one(func(x *api.Node) { x.Name = " " + x.Name })
	one(func(x *api.Node) { x.Kids = append(slices.Clone(x.Kids), api.Node{}) })
	one(func(x *api.Node) { x.Kids = append([]api.Node{{}}, x.Kids...) })
	if n.Name != "" {
		one(func(x *api.Node) { x.Name = x.Name[1:] })
		one(func(x *api.Node) { x.Name = strings.ToUpper(x.Name[:1]) + "q" + x.Name[1:] })
	}
	if len(n.Kids) > 0 {
		one(func(x *api.Node) { x.Kids = x.Kids[1:] })
		one(func(x *api.Node) { x.Kids = x.Kids[:len(x.Kids)-1] })
	}
	for i, k := range n.Kids {
		for _, other := range unlike(k) {
			one(func(x *api.Node) {
				x.Kids = slices.Clone(x.Kids)
				x.Kids[i] = other
			})
		}
	}
	return l
}

// TestSame: 11.2, nodes are the same if all but their places is, and not if
// one thing is not, at the top or far below.
func TestSame(t *testing.T) {
	for _, n := range append(everyNode(), samples()...) {
		if !tree.Same(n, n) || !tree.Same(n, copied(n)) || !tree.Same(copied(n), n) {
			t.Error("not the same: " + look(n))
		}
		for _, x := range unlike(n) {
			if tree.Same(n, x) || tree.Same(x, n) {
				t.Errorf("the same: %s, %s", look(n), look(x))
			}
			if !tree.Same(x, copied(x)) {
				t.Error("not the same: " + look(x))
			}
		}
	}
}

// TestSamePairs: 11.2, any two nodes are the same if they are written so.
func TestSamePairs(t *testing.T) {
	l := append(everyNode(), samples()...)
	for _, a := range l {
		for _, b := range l {
			if got, want := tree.Same(a, b), look(a) == look(b); got != want {
				t.Errorf("%s, %s: %v", look(a), look(b), got)
			}
		}
	}
}

// moved is a node in new memory with all places changed, each in its own way.
func moved(n api.Node, by int) api.Node {
	n.At += by
	kids := n.Kids
	n.Kids = nil
	for i, k := range kids {
		n.Kids = append(n.Kids, moved(k, by*3+i-1))
	}
	return n
}

// TestSameMoved: 11.2, alike but for places, each one or all.
func TestSameMoved(t *testing.T) {
	for _, n := range everyNode() {
		for _, by := range []int{1, -1, 5, 1 << 40} {
			x := moved(n, by)
			if !tree.Same(n, x) || !tree.Same(x, n) || !tree.Same(tree.Clean(n), tree.Clean(x)) {
				t.Error(dump(n), dump(x))
			}
		}
	}
}

// TestSameOrder: 11.2, kids are held one by one, in order.
func TestSameOrder(t *testing.T) {
	for _, pair := range [][2]string{
		{"Bin#1(Num#1 Num#2)", "Bin#1(Num#2 Num#1)"},
		{"Block(Return Block)", "Block(Block Return)"},
		{"Block(Block Block(Block))", "Block(Block(Block) Block)"},
		{"Block(Block(Block))", "Block(Block Block)"},
		{"Name:x", "Name:y"}, {"Name:x", "Name:X"}, {"Name:x", "Name:xx"}, {"Name", "Name:x"}, {"Num", "Flag"}, {"Num#1", "Num#-1"},
		{"Call:f", "Call:f(Num)"}, {"Call:f(Num)", "Call:f(Num Num)"}, {"Call:f(Num Num)", "Call:f(Num Num#1)"}, {"Call:f(Num)", "Fork:f(Num)"},
	} {
		a, b := read(pair[0]), read(pair[1])
		if tree.Same(a, b) || tree.Same(b, a) {
			t.Error(pair)
		}
	}
}

// rooms are the places in memory of all nodes that lie in lists below n.
func rooms(n api.Node) []*api.Node {
	var l []*api.Node
	for i := range n.Kids {
		l = append(l, &n.Kids[i])
		l = append(l, rooms(n.Kids[i])...)
	}
	return l
}

// noPlaces: has no node a place?
func noPlaces(n api.Node) bool {
	for _, k := range n.Kids {
		if !noPlaces(k) {
			return false
		}
	}
	return n.At == 0
}

// TestClean: 11.2, the same without places, in new memory all the way down;
// what came in is as it was.
func TestClean(t *testing.T) {
	for _, n := range append(everyNode(), samples()...) {
		was := dump(n)
		c := tree.Clean(n)
		if look(c) != look(n) || !noPlaces(c) || dump(n) != was {
			t.Errorf("%s: %s", was, dump(c))
		}
		for _, r := range rooms(c) {
			if slices.Contains(rooms(n), r) {
				t.Error("not new: " + look(n))
			}
		}
		again := tree.Clean(n)
		for _, r := range rooms(c) {
			if slices.Contains(rooms(again), r) {
				t.Error("told twice: " + look(n))
			}
			r.Kind, r.N, r.Name = -5, -5, "spoilt"
		}
		if dump(n) != was || look(again) != look(n) {
			t.Error("spoilt: " + was)
		}
	}
	x := tree.Clean(api.Node{Kind: -3, At: -4, N: math.MinInt, Name: "a b\x00"})
	if dump(x) != `(-3 -9223372036854775808 "a b\x00"@0)` {
		t.Error(dump(x))
	}
}

// TestCleanShared: 11.2, one list in several places is several lists.
func TestCleanShared(t *testing.T) {
	kids := nodes("Num#1|Num#2")
	call := api.Node{Kind: api.Call, Name: "f", Kids: kids}
	c := tree.Clean(api.Node{Kind: api.Call, Name: "g", Kids: []api.Node{call, call}})
	if &c.Kids[0].Kids[0] == &c.Kids[1].Kids[0] || &c.Kids[0].Kids[0] == &kids[0] {
		t.Error("one list twice")
	}
	part := make([]api.Node, 3, 9)
	c = tree.Clean(api.Node{Kind: api.Block, Kids: part[:2]})
	_ = append(c.Kids, api.Node{Kind: 77})
	if part[:3][2].Kind != 0 {
		t.Error("behind a list")
	}
}

// inOrder are a node and all below it, as the chapter tells.
func inOrder(n api.Node) []api.Node {
	l := []api.Node{n}
	for _, k := range n.Kids {
		l = append(l, inOrder(k)...)
	}
	return l
}

// dumps are nodes as texts.
func dumps(l []api.Node) []string {
	var out []string
	for _, n := range l {
		out = append(out, dump(n))
	}
	return out
}

// TestWalk: 11.3, each node ahead of its kids, these from the front, with
// their places; the same when it is gone through twice.
func TestWalk(t *testing.T) {
	for _, n := range append(everyNode(), samples()...) {
		want := dumps(inOrder(n))
		seq := tree.Walk(n)
		for range 2 {
			var got []string
			for k := range seq {
				got = append(got, dump(k))
			}
			if !slices.Equal(got, want) {
				t.Errorf("%s: %v", look(n), got)
			}
		}
		if len(want) != tree.Count(n) {
			t.Errorf("%s: %d nodes", look(n), tree.Count(n))
		}
	}
	s := ""
	for k := range tree.Walk(read("Bin#1(Un#2(Name:a) Call:b(Name:c Index(Name:d Name:e)))")) {
		s += strconv.Itoa(k.Kind) + k.Name + " "
	}
	if s != "16 15 12a 17b 12c 13 12d 12e " {
		t.Error(s)
	}
}

// TestWalkStopped: 11.3, told to stop at any node, it hands out no more; the
// next time all are there again.
func TestWalkStopped(t *testing.T) {
	for _, n := range everyNode() {
		want := dumps(inOrder(n))
		seq := tree.Walk(n)
		for stop := 1; stop <= len(want)+1; stop++ {
			var got []string
			seq(func(k api.Node) bool {
				got = append(got, dump(k))
				return len(got) != stop
			})
			if !slices.Equal(got, want[:min(stop, len(want))]) {
				t.Errorf("%s: stopped at %d: %v", look(n), stop, got)
			}
		}
		var all []string
		for k := range seq {
			all = append(all, dump(k))
		}
		if !slices.Equal(all, want) {
			t.Error("behind stops: " + look(n))
		}
	}
}

// TestWalkWithin: 11.3, one walk within another, of the same nodes.
func TestWalkWithin(t *testing.T) {
	n := read("Block(Return(Num#1) Block(Print(Num#2)))")
	seq := tree.Walk(n)
	many := 0
	for range seq {
		for k := range seq {
			if many++; k.Kind == api.Return {
				break
			}
		}
	}
	if many != 6*2 {
		t.Error(many)
	}
}

// TestFind: 11.3, those of the kinds alone, in order, each once, with kids and
// places.
func TestFind(t *testing.T) {
	n := read("Prog(Iso:a(TypInt) Fun:f(Param:p(TypInt) TypBool Block(Return(Flag#1))) Block(Var:x(Num#1) Block(Set(Name:x Num#2) Do(Call:f(Num#3 Call:g))) Print(Name:x)))")
	for _, c := range []struct {
		kinds []int
		want  string
	}{
		{nil, ""},
		{[]int{}, ""},
		{[]int{api.Num}, "Num#1 Num#2 Num#3"},
		{[]int{api.Num, api.Num}, "Num#1 Num#2 Num#3"},
		{[]int{api.Call}, "Call:f(Num#3 Call:g) Call:g"},
		{[]int{api.Name, api.Num}, "Num#1 Name:x Num#2 Num#3 Name:x"},
		{[]int{api.Num, api.Name}, "Num#1 Name:x Num#2 Num#3 Name:x"},
		{[]int{api.Num, api.Name, api.Num, api.Name}, "Num#1 Name:x Num#2 Num#3 Name:x"},
		{[]int{api.TypInt, api.TypBool, api.Flag}, "TypInt TypInt TypBool Flag#1"},
		{[]int{api.Join}, ""},
		{[]int{api.Join, -1, 99, api.NoNode, 1 << 40, math.MinInt}, ""},
		{[]int{-1, api.Print, 99}, "Print(Name:x)"},
		{[]int{api.Iso, api.Prog - 1<<32}, "Iso:a(TypInt)"},
		{[]int{api.Set, api.Do}, "Set(Name:x Num#2) Do(Call:f(Num#3 Call:g))"},
	} {
		l := "|"
		for _, k := range tree.Find(n, c.kinds...) {
			l += look(k) + "|"
		}
		want := "|"
		if c.want != "" {
			for _, k := range read("Block(" + c.want + ")").Kids {
				want += look(k) + "|"
			}
		}
		if l != want {
			t.Errorf("%v: %s; want %s", c.kinds, l, want)
		}
	}
	if l := tree.Find(n, api.Prog); len(l) != 1 || dump(l[0]) != dump(n) {
		t.Error(dumps(l))
	}
	if l := tree.Find(read("NoNode"), api.NoNode); len(l) != 1 {
		t.Error(l)
	}
	if l := tree.Find(api.Node{Kind: 99, At: 5}, 98, 99); len(l) != 1 || l[0].At != 5 {
		t.Error(l)
	}
	all := []int{}
	for _, k := range kinds {
		all = append(all, k)
	}
	if l := tree.Find(n, all...); !slices.Equal(dumps(l), dumps(inOrder(n))) {
		t.Error(dumps(l))
	}
}

// TestFindAll: 11.3, any one and any two kinds in all right nodes; the list is
// new, and the kinds stay as they were.
func TestFindAll(t *testing.T) {
	for _, n := range everyNode() {
		for _, a := range kinds {
			for _, b := range kinds {
				var want []api.Node
				for _, k := range inOrder(n) {
					if k.Kind == a || k.Kind == b {
						want = append(want, k)
					}
				}
				asked := []int{a, b}
				if got := tree.Find(n, asked...); !slices.Equal(dumps(got), dumps(want)) || asked[0] != a || asked[1] != b {
					t.Errorf("%s: %d, %d: %v", look(n), a, b, dumps(got))
				}
			}
		}
	}
	n := read("Block(Return Return)")
	l := tree.Find(n, api.Return)
	l[0].Kind, l[1].Kind = 7, 7
	if _ = append(l, api.Node{}); n.Kids[0].Kind != api.Return || n.Kids[1].Kind != api.Return || tree.Find(n, api.Return)[0].Kind != api.Return {
		t.Error("a list that is not new")
	}
}

// TestCountDeep: 11.3, of one, of many beside each other, of many in one
// another, of both, whatever their kinds.
func TestCountDeep(t *testing.T) {
	for s, want := range map[string][2]int{
		"Num": {1, 1}, "NoNode": {1, 1}, "Block(Block)": {2, 2}, "Block(Num Num)": {3, 2}, "Block(Num Num Num Num Num)": {6, 2},
		"Block(Block(Block(Block)))": {4, 4}, "Block(Block(Block) Num)": {4, 3}, "Block(Num Block(Block))": {4, 3}, "Block(Block(Num) Block(Block(Num)) Block(Num))": {8, 4}, "Call:f(Call:g(Num Num) Num Call:h)": {6, 3},
	} {
		n := read(s)
		if tree.Count(n) != want[0] || tree.Deep(n) != want[1] {
			t.Errorf("%s: %d, %d", s, tree.Count(n), tree.Deep(n))
		}
	}
	for _, kind := range []int{-1, 0, 99, math.MaxInt} {
		if n := (api.Node{Kind: kind, Kids: make([]api.Node, 1000)}); tree.Count(n) != 1001 || tree.Deep(n) != 2 {
			t.Error(kind)
		}
	}
	many := api.Node{Kind: api.Block, Kids: make([]api.Node, 1<<20)}
	if tree.Count(many) != 1<<20+1 || tree.Deep(many) != 2 || tree.Stmt(many) {
		t.Error("many")
	}
}

// chain is a node within 2^16 - 1 others.
func chain(n api.Node, around func(n api.Node) api.Node) api.Node {
	for range 1<<16 - 1 {
		n = around(n)
	}
	return n
}

// TestFar: P1, 11.1 to 11.3, nodes that lie in one another as deep as may be.
func TestFar(t *testing.T) {
	one := func(n api.Node) []api.Node { return []api.Node{n} }
	block := func(n api.Node) api.Node { return api.Node{Kind: api.Block, At: 9, Kids: one(n)} }
	for _, c := range []struct {
		inner  string
		around func(n api.Node) api.Node
		want   string
	}{
		{"TypInt", func(n api.Node) api.Node { return api.Node{Kind: api.TypArr, Kids: one(n)} }, "type"},
		{"NoNode", func(n api.Node) api.Node { return api.Node{Kind: api.TypArr, Kids: one(n)} }, ""},
		{"Num", func(n api.Node) api.Node { return api.Node{Kind: api.Un, N: api.Minus, Kids: one(n)} }, "expr"},
		{"Num#-1", func(n api.Node) api.Node { return api.Node{Kind: api.Un, N: api.Minus, Kids: one(n)} }, ""},
		{"Name:x", func(n api.Node) api.Node { return api.Node{Kind: api.Field, Name: "f", Kids: one(n)} }, "expr"},
		{"Return", block, "stmt"},
		{"Num", block, ""},
	} {
		n := chain(read(c.inner), c.around)
		if got := answers(n); got != c.want {
			t.Errorf("%s, far: %q", c.inner, got)
		}
		x := tree.Clean(n)
		if tree.Count(n) != 1<<16 || tree.Deep(n) != 1<<16 || !tree.Same(n, x) || x.At != 0 || tree.Count(x) != 1<<16 {
			t.Errorf("%s, far", c.inner)
		}
		if l := tree.Find(n, read(c.inner).Kind); len(l) == 0 || dump(l[len(l)-1]) != dump(read(c.inner)) {
			t.Errorf("%s, far", c.inner)
		}
	}
	place := chain(read("Name:x"), func(n api.Node) api.Node { return api.Node{Kind: api.Field, Name: "f", Kids: one(n)} }).Kids[0]
	is(t, api.Node{Kind: api.Set, Kids: []api.Node{place, read("Num")}}, "stmt")
	if tree.Same(chain(read("Num"), block), chain(read("Num#1"), block)) {
		t.Error("the same, far")
	}
}

// TestOneSort: 11.4, no node is two of type, expression and statement (nor of
// any of the five).
func TestOneSort(t *testing.T) {
	some := samples()
	for _, n := range append(everyNode(), some...) {
		for _, x := range append(changed(n, some), n) {
			if got := answers(x); strings.Contains(got, " ") {
				t.Errorf("%s: %q", look(x), got)
			}
		}
	}
}
