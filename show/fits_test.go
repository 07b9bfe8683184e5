package show_test

import (
	"runtime"
	"strings"
	"testing"

	"marline/api"
	"marline/parse"
	"marline/show"
	"marline/tree"
)

// fits: does a node fit, or not, as is wanted; is one that fits read from its text
// as it is, but for the places; and is one that does not, not?
func fits(t *testing.T, n api.Node, want bool) {
	t.Helper()
	was := look(n)
	if got := show.Fits(n); got != want {
		t.Errorf("%.200s: %v", was, got)
	}
	if got := show.Fits(tree.Clean(n)); got != want {
		t.Errorf("%.200s, without places: %v", was, got)
	}
	if now := look(n); now != was {
		t.Errorf("%.200s was changed to %.200s", was, now)
	}
	src := show.Prog(n)
	back, fault := parse.Prog(src)
	if want && (fault != parse.Fault{} || !tree.Same(back, n) || show.Prog(back) != src) {
		t.Errorf("%.200s is read from %.200q as %.200s, %v", was, src, look(back), fault)
	}
	if !want && fault == (parse.Fault{}) {
		t.Errorf("%.200s is read from %.200q", was, src)
	}
}

// mainOf is a program of some statements.
func mainOf(l ...api.Node) api.Node { return node(api.Prog, node(api.Block, l...)) }

// names are of so many bytes in all, if each counts as some more than it has.
func names(bytes, more int) []string {
	k := (bytes + more + 31) / (more + 32)
	var l []string
	for i := range k {
		l = append(l, rep("n", (bytes+i)/k-more))
	}
	return l
}

// each are nodes of a kind with some names and the same kids.
func each(kind int, names []string, kids ...api.Node) []api.Node {
	var l []api.Node
	for _, s := range names {
		l = append(l, api.Node{Kind: kind, Name: s, Kids: kids})
	}
	return l
}

// in30 are statements in 30 blocks that lie in one another.
func in30(l []api.Node) api.Node {
	n := node(api.Block, l...)
	for range 29 {
		n = node(api.Block, n)
	}
	return n
}

// filled are programs that get longer by names: each name has some more bytes
// about it.
var filled = []struct {
	what string
	more int
	made func(l []string) api.Node
}{
	{"statements", len("\tjoin ;\n"), func(l []string) api.Node { return mainOf(each(api.Join, l)...) }},
	{"tabs", len("join ;\n") + 31, func(l []string) api.Node { return mainOf(in30(each(api.Join, l))) }},
	{"declarations", len("iso  []int;\n"), func(l []string) api.Node {
		return node(api.Prog, append(each(api.Iso, l, read("TypArr(TypInt)")), node(api.Block))...)
	}},
	{"fields", len("\t bool;\n"), func(l []string) api.Node {
		return node(api.Prog, api.Node{Kind: api.Rec, Name: "P", Kids: each(api.Param, l, read("TypBool"))}, node(api.Block))
	}},
	{"params", len(",  rev"), func(l []string) api.Node {
		kids := append(each(api.Param, l, read("TypRev")), nodes("NoNode|Block")...)
		return node(api.Prog, api.Node{Kind: api.Fun, Name: "f", Kids: kids}, node(api.Block))
	}},
	{"arguments", len(", "), func(l []string) api.Node {
		return mainOf(node(api.Do, api.Node{Kind: api.Call, Name: "f", Kids: each(api.Name, l)}))
	}},
	{"sums", len(" + "), func(l []string) api.Node {
		n := name(l[0])
		for _, s := range l[1:] {
			n = bin(api.Plus, n, name(s))
		}
		return mainOf(node(api.Return, n), node(api.Block))
	}},
	{"places", len("."), func(l []string) api.Node {
		n := name("a")
		for _, s := range l {
			n = api.Node{Kind: api.Field, Name: s, Kids: []api.Node{n}}
		}
		return mainOf(node(api.Set, n, read("Flag")))
	}},
	{"choices", len(" else if  {\n\t}"), func(l []string) api.Node {
		n := read("If(Num Block Block(Return))")
		for _, s := range l {
			n = node(api.If, name(s), node(api.Block), n)
		}
		return mainOf(n)
	}},
}

// TestLong: 16.2, 16.3, programs whose text has MaxSrc bytes, less, and more.
func TestLong(t *testing.T) {
	const most = 16384
	for _, x := range filled {
		one := len(show.Prog(x.made([]string{"n"}))) - x.more - 1
		for _, bytes := range []int{most / 2, most - 100, most - 40, most - 10, most - 3, most - 2, most - 1, most, most + 1, most + 2, most + 3, most + 10, most + 40, most + 100, 2 * most, 10 * most} {
			n := x.made(names(bytes-one, x.more))
			if got := len(show.Prog(n)); got != bytes {
				t.Fatalf("%s: %d bytes, not %d", x.what, got, bytes)
			}
			fits(t, n, bytes <= most)
		}
	}
}

// TestNumbers: 16.2, 16.3, programs with the greatest numbers and the least, and with
// some that are none.
func TestNumbers(t *testing.T) {
	for number, want := range map[string]bool{"0": true, "1": true, "9223372036854775807": true, "-1": false, "-9223372036854775807": false, "-9223372036854775808": false} {
		for _, written := range []string{
			"Prog(Block(Print(Num#$)))",
			"Prog(Block(Print(Un#2(Num#$))))",
			"Prog(Fun:f(NoNode Block(Set(Index(Name:a Num#$) Num))) Block)",
			"Prog(Iso:x#$(TypInt) Block)",
			"Prog(Iso:x#$(TypArr(TypInt) Name:m) Block)",
		} {
			fits(t, read(strings.Replace(written, "$", number, 1)), want)
		}
	}
}

// nested are nodes that are put, in place of the $, into another one again and
// again, and then into a program: how many times at most, so that it fits (0: any
// number of times).
var nested = []struct {
	within, in, first string
	most              int
}{
	{"Prog(Block($))", "Block($)", "Return", 59},
	{"Prog(Block($))", "Block($)", "Do(Call:f)", 58},
	{"Prog(Block($))", "Block(Block $ Block)", "Join:h", 58},
	{"Prog(Fun:f(Param:x(TypInt) NoNode $) Block)", "Block($)", "Block", 59},
	{"Prog(Fun:f(TypInt Block($)) Block)", "While(Flag Block($))", "Return", 59},
	{"Prog(Merge:m(Param:o(TypInt) Param:a(TypInt) Param:b(TypInt) Block($)) Block)", "Block($)", "Block", 58},
	{"Prog(Block($))", "While(Call:f Block($))", "Return", 59},
	{"Prog(Block($))", "While(Call:f Block(Return $))", "Block", 58},
	{"Prog(Block($))", "If(Name:a Block($))", "Return", 59},
	{"Prog(Block($))", "If(Name:a Block($) Block)", "Return", 59},
	{"Prog(Block($))", "If(Name:a Block Block($))", "Return", 59},
	{"Prog(Block($))", "If(Name:a Block $)", "Block", 0},
	{"Prog(Block($))", "If(Index(Name:a Num) Block(Return) $)", "Block", 0},
	{"Prog(Block(Print($)))", "Call:f($)", "Num", 59},
	{"Prog(Block(Do(Call:f($))))", "Call:f(Call:g $ Num)", "Num", 57},
	{"Prog(Block(Do(Call:f($))))", "Call:f(Name:g $ Num)", "Num", 58},
	{"Prog(Block(Var:x($)))", "Fork:f($)", "Num", 59},
	{"Prog(Block(Return($)))", "New(TypInt $)", "Num", 59},
	{"Prog(Block(Return($)))", "New(TypArr(TypInt) $)", "Num", 59},
	{"Prog(Block(Set(Name:a $)))", "Index(Name:a $)", "Num", 59},
	{"Prog(Block(Set(Index(Name:a $) Num)))", "Index(Name:a $)", "Num", 58},
	{"Prog(Block(Set(Index(Name:a Num) $)))", "Index($ Num)", "Name:a", 0},
	{"Prog(Block(Set($ Num)))", "Index($ Num)", "Name:a", 0},
	{"Prog(Block(Set($ Num)))", "Field:f($)", "Name:a", 0},
	{"Prog(Block(Print($)))", "Field:f(Un#2($))", "Name:a", 59},
	{"Prog(Block(Print($)))", "Index(Un#14($) Num)", "Name:a", 59},
	{"Prog(Block(Print($)))", "Index(Un#14($) Num)", "Index(Name:a Num)", 58},
	{"Prog(Block(Print($)))", "Bin#1(Name:a $)", "Name:b", 60},
	{"Prog(Block(Print($)))", "Bin#1($ Name:a)", "Name:b", 0},
	{"Prog(Block(Print($)))", "Bin#5(Name:a $)", "Name:b", 60},
	{"Prog(Block(Print($)))", "Bin#5($ Name:a)", "Name:b", 0},
	{"Prog(Block(Print($)))", "Bin#7(Name:a $)", "Name:b", 60},
	{"Prog(Block(Print($)))", "Bin#7($ Name:a)", "Name:b", 60},
	{"Prog(Block(While($ Block)))", "Bin#12(Name:a $)", "Name:b", 60},
	{"Prog(Block(While($ Block)))", "Bin#12($ Name:a)", "Name:b", 0},
	{"Prog(Block(If($ Block)))", "Bin#13(Name:a $)", "Call:f", 59},
	{"Prog(Block(If($ Block)))", "Bin#13($ Name:a)", "Name:b", 0},
	{"Prog(Block(Print($)))", "Un#2(Bin#2(Name:a $))", "Name:b", 59},
	{"Prog(Block(Print($)))", "Un#2(Bin#1($ Name:a))", "Name:b", 59},
	{"Prog(Block(Print($)))", "Un#2($)", "Name:b", 60},
	{"Prog(Block(Print($)))", "Un#14($)", "Name:b", 60},
	{"Prog(Block(Print($)))", "Un#14(Un#2($))", "Name:b", 30},
	{"Prog(Block(Print($)))", "Un#2(Un#14(Un#14($)))", "Call:f", 20},
	{"Prog(Block(Print($)))", "Un#2($)", "Un#14(Bin#1(Num Num))", 59},
	{"Prog(Block(Print(Bin#1(Name:a $))))", "Un#2($)", "Num", 60},
	{"Prog(Block(Print(Bin#2(Name:a $))))", "Un#2($)", "Num", 59},
	{"Prog(Block(Print(Bin#2(Name:a $))))", "Un#14($)", "Num", 59},
	{"Prog(Block(Print(Bin#7(Name:a $))))", "Un#14($)", "Num", 60},
	{"Prog(Block(Print(Bin#2($ Name:a))))", "Un#14($)", "Num", 60},
	{"Prog(Iso:x($) Block)", "TypArr($)", "TypInt", 0},
	{"Prog(Iso:x#3($ Name:m) Block)", "TypArr($)", "TypInt", 0},
	{"Prog(Rec:P(Param:x($)) Block)", "TypArr($)", "TypRec:P", 0},
	{"Prog(Block(Print(New($))))", "TypArr($)", "TypRec:P", 0},
}

// put is a node that is written with a $, with another one in its place.
func put(written string, n api.Node) api.Node {
	return laid(read(strings.Replace(written, "$", "NoNode:$", 1)), n)
}

func laid(x, n api.Node) api.Node {
	if x.Name == "$" {
		return n
	}
	for i, k := range x.Kids {
		x.Kids[i] = laid(k, n)
	}
	return x
}

// TestDeepTokens: 16.2, 16.3, programs in which as many brackets are open as may
// be, or as many signs stand in a row, and one more.
func TestDeepTokens(t *testing.T) {
	for _, x := range nested {
		n := read(x.first)
		for k := range 150 {
			p := put(x.within, n)
			if sortOf(p) != "prog" {
				t.Fatalf("%s, %s: no program", x.within, x.in)
			}
			fits(t, p, x.most == 0 || k <= x.most)
			n = put(x.in, n)
		}
	}
}

// TestMany: 16.2, nodes with very many parts, also deep in one another, and with
// one list of kids in very many places, do not fit.
func TestMany(t *testing.T) {
	for _, x := range []struct{ within, in string }{
		{"Prog(Block($))", "Block($)"},
		{"Prog(Fun:f(NoNode $) Block)", "Block($)"},
		{"Prog(Block($))", "While(Num Block($))"},
		{"Prog(Block($))", "If(Num Block Block($))"},
		{"Prog(Block($))", "If(Num Block $)"},
	} {
		for _, many := range []int{1200, 4000, 8000, 15000, 30000} {
			n := node(api.Block)
			for range many {
				n = put(x.in, n)
			}
			p := put(x.within, n)
			if !tree.Prog(p) || show.Fits(p) {
				t.Errorf("%s, %s, %d", x.within, x.in, many)
			}
		}
	}
	n, b := name("a"), node(api.Block)
	for range 60 {
		n, b = bin(api.Plus, n, n), node(api.Block, b, b)
	}
	for _, p := range []api.Node{mainOf(node(api.Print, n)), mainOf(b), node(api.Prog, b), node(api.Prog, b, b), n, b, node(api.Call, n)} {
		if show.Fits(p) {
			t.Errorf("a node of kind %d with very many parts fits", p.Kind)
		}
	}
}

// TestSparing: 16.2, of a text that is far too long no more is put together than
// tells so.
func TestSparing(t *testing.T) {
	p := mainOf(nest(15000, node(api.Block), read("Block(Block)"), 0))
	var before, behind runtime.MemStats
	runtime.ReadMemStats(&before)
	if show.Fits(p) {
		t.Error("15000 blocks in one another fit")
	}
	runtime.ReadMemStats(&behind)
	if bytes := behind.TotalAlloc - before.TotalAlloc; bytes > 1<<20 {
		t.Errorf("%d bytes", bytes)
	}
}

// TestDense: 16.2, 16.3, a program fits that has nearly as many parts as bytes.
func TestDense(t *testing.T) {
	x := read("Num")
	for range 60 {
		x = un(api.Minus, x)
	}
	call := api.Node{Kind: api.Call, Name: "f"}
	for range 259 {
		call.Kids = append(call.Kids, x)
	}
	n := mainOf(node(api.Do, call))
	if parts := tree.Count(n); parts != 259*61+4 {
		t.Error(parts)
	}
	fits(t, n, true)
}
