package show_test

import (
	"slices"
	"strconv"
	"strings"
	"testing"

	"marline/api"
	"marline/lex"
	"marline/tree"
)

// spellings are the signs', in the order of their numbers, from 1 on.
const spellings = "+ - * / % == != < <= > >= && || !"

// tightness of the signs that stand between two, likewise.
const tightness = "4 4 5 5 5 3 3 3 3 3 3 2 1"

// sign and tight are those of a sign's number.
func sign(n int) string { return strings.Fields(spellings)[n-1] }

func tight(n int) int {
	k, err := strconv.Atoi(strings.Fields(tightness)[n-1])
	if err != nil {
		panic(err)
	}
	return k
}

// bin and un make nodes of signs.
func bin(sign int, a, b api.Node) api.Node {
	return api.Node{Kind: api.Bin, N: sign, Kids: []api.Node{a, b}}
}

func un(sign int, a api.Node) api.Node {
	return api.Node{Kind: api.Un, N: sign, Kids: []api.Node{a}}
}

func name(s string) api.Node { return api.Node{Kind: api.Name, Name: s} }

// in is a text in brackets, or not.
func in(brackets bool, s string) string {
	if brackets {
		return "(" + s + ")"
	}
	return s
}

// comes: does an expression have this text, and is it read from that again; and
// is each pair of brackets in it needed?
func comes(t *testing.T, n api.Node, want string) {
	t.Helper()
	is(t, "expr", n, 0, want)
	if back := reads("expr", want); !tree.Same(back, n) {
		t.Errorf("%q is read as %s, not as %s", want, look(back), look(n))
	}
	for _, less := range without(want) {
		if tree.Same(reads("expr", less), n) {
			t.Errorf("%q needs no more than %q", want, less)
		}
	}
}

// without are the texts that lack one pair of brackets around an expression each:
// ahead of arguments stands a name or a type.
func without(s string) []string {
	l, _, _ := lex.All(s)
	var texts []string
	var open []int
	for i, k := range l {
		if k.Text == "(" || k.Text == "[" {
			open = append(open, i)
		}
		if k.Text != ")" && k.Text != "]" {
			continue
		}
		first := open[len(open)-1]
		open = open[:len(open)-1]
		args := first > 0 && (l[first-1].Kind == api.TokName || slices.Contains([]string{"int", "bool", "rev"}, l[first-1].Text))
		if k.Text == ")" && !args {
			texts = append(texts, s[:l[first].At]+" "+s[l[first].At+1:k.At]+" "+s[k.At+1:])
		}
	}
	return texts
}

// TestBrackets: 16.1, each pair of signs, one in the other, as the first kid and as
// the second one: the brackets stand as the chapter says, and none for nothing.
func TestBrackets(t *testing.T) {
	a, b, c := name("a"), name("b"), name("c")
	for out := 1; out <= 13; out++ {
		for inner := 1; inner <= 13; inner++ {
			x := " " + sign(inner) + " "
			o := " " + sign(out) + " "
			first := tight(inner) < tight(out) || tight(inner) == tight(out) && tight(out) == 3
			second := tight(inner) <= tight(out)
			comes(t, bin(out, bin(inner, a, b), c), in(first, "a"+x+"b")+o+"c")
			comes(t, bin(out, a, bin(inner, b, c)), "a"+o+in(second, "b"+x+"c"))
			comes(t, bin(out, bin(inner, a, b), bin(inner, b, c)), in(first, "a"+x+"b")+o+in(second, "b"+x+"c"))
		}
	}
}

// TestThree: 16.1, each three signs, in each other in all ways.
func TestThree(t *testing.T) {
	a, b, c, d := name("a"), name("b"), name("c"), name("d")
	for x := 1; x <= 13; x++ {
		for y := 1; y <= 13; y++ {
			for z := 1; z <= 13; z++ {
				for _, n := range []api.Node{
					bin(x, bin(y, bin(z, a, b), c), d),
					bin(x, bin(y, a, bin(z, b, c)), d),
					bin(x, a, bin(y, bin(z, b, c), d)),
					bin(x, a, bin(y, b, bin(z, c, d))),
					bin(x, bin(y, a, b), bin(z, c, d)),
				} {
					comes(t, n, told("expr", n, 0))
				}
			}
		}
	}
}

// TestLevels: 16.1, written out: brackets by how tightly signs bind.
func TestLevels(t *testing.T) {
	for _, x := range []struct{ written, want string }{
		{"Bin#1(Bin#1(Name:a Name:b) Name:c)", "a + b + c"},
		{"Bin#1(Name:a Bin#1(Name:b Name:c))", "a + (b + c)"},
		{"Bin#2(Name:a Bin#1(Name:b Name:c))", "a - (b + c)"},
		{"Bin#2(Bin#1(Name:a Name:b) Name:c)", "a + b - c"},
		{"Bin#3(Bin#4(Name:a Name:b) Name:c)", "a / b * c"},
		{"Bin#5(Name:a Bin#3(Name:b Name:c))", "a % (b * c)"},
		{"Bin#3(Bin#1(Name:a Name:b) Name:c)", "(a + b) * c"},
		{"Bin#1(Bin#3(Name:a Name:b) Bin#4(Name:c Name:d))", "a * b + c / d"},
		{"Bin#6(Bin#6(Name:a Name:b) Name:c)", "(a == b) == c"},
		{"Bin#6(Name:a Bin#7(Name:b Name:c))", "a == (b != c)"},
		{"Bin#8(Bin#11(Name:a Name:b) Name:c)", "(a >= b) < c"},
		{"Bin#9(Bin#1(Name:a Name:b) Bin#10(Name:c Name:d))", "a + b <= (c > d)"},
		{"Bin#1(Bin#8(Name:a Name:b) Name:c)", "(a < b) + c"},
		{"Bin#12(Bin#12(Name:a Name:b) Name:c)", "a && b && c"},
		{"Bin#12(Name:a Bin#12(Name:b Name:c))", "a && (b && c)"},
		{"Bin#12(Bin#13(Name:a Name:b) Bin#6(Name:c Name:d))", "(a || b) && c == d"},
		{"Bin#13(Bin#13(Name:a Name:b) Bin#12(Name:c Name:d))", "a || b || c && d"},
		{"Bin#13(Name:a Bin#13(Name:b Name:c))", "a || (b || c)"},
		{"Bin#13(Bin#12(Name:a Bin#13(Name:b Name:c)) Name:d)", "a && (b || c) || d"},
		{"Bin#2(Un#2(Name:a) Un#2(Un#14(Name:b)))", "-a - -!b"},
		{"Bin#3(Un#2(Bin#1(Name:a Name:b)) Un#2(Name:c))", "-(a + b) * -c"},
		{"Un#2(Bin#3(Un#2(Name:a) Name:b))", "-(-a * b)"},
		{"Un#14(Un#2(Bin#6(Name:a Un#14(Name:b))))", "!-(a == !b)"},
		{"Index(Un#2(Num#1) Num#2)", "(-1)[2]"},
		{"Index(Un#14(Un#2(Name:a)) Un#2(Name:b))", "(!-a)[-b]"},
		{"Index(Bin#1(Name:a Name:b) Bin#1(Name:c Name:d))", "(a + b)[c + d]"},
		{"Index(Index(Bin#13(Name:a Name:b) Un#2(Num)) Bin#13(Name:c Name:d))", "(a || b)[-0][c || d]"},
		{"Field:f(Un#2(Name:a))", "(-a).f"},
		{"Field:f(Bin#5(Name:a Name:b))", "(a % b).f"},
		{"Field:f(Field:g(Un#14(Name:a)))", "(!a).g.f"},
		{"Un#2(Field:f(Un#2(Index(Bin#3(Name:a Name:b) Name:c))))", "-(-(a * b)[c]).f"},
		{"Un#2(Index(Name:a Num))", "-a[0]"},
		{"Bin#3(Index(Bin#1(Name:a Name:b) Num) Call:f(Bin#1(Name:c Name:d)))", "(a + b)[0] * f(c + d)"},
		{"Call:f(Bin#13(Name:a Name:b) Un#2(Un#2(Num#1)))", "f(a || b, --1)"},
		{"Fork:f(Bin#1(Name:a Bin#1(Name:b Name:c)))", "fork f(a + (b + c))"},
		{"New(TypInt Bin#13(Name:a Name:b) Un#14(Bin#13(Name:a Name:b)))", "new int(a || b, !(a || b))"},
		{"Bin#1(Fork:f New(TypArr(TypInt) Num))", "fork f() + new []int(0)"},
		{"Bin#12(Flag#1 Num#3)", "true && 3"},
	} {
		comes(t, read(x.written), x.want)
	}
}

// some are expressions of each kind, with each sign.
func some() []api.Node {
	l := nodes("Num|Num#42|Flag|Flag#1|Name:x|Index(Name:a Num)|Field:f(Name:a)|Un#2(Num#5)|Un#14(Name:x)|Un#2(Un#2(Num#1))|Un#14(Bin#12(Name:a Name:b))|Call:f|Call:f(Num Name:x)|Fork:f|Fork:f(Num)|New(TypInt)|New(TypRec:p Num#1 Flag)|New(TypArr(TypBool))")
	for sign := 1; sign <= 13; sign++ {
		l = append(l, bin(sign, name("y"), name("z")))
	}
	return l
}

// TestParts: 16.1, each kind of expressions as each part of each other one.
func TestParts(t *testing.T) {
	parts := some()
	of := read("TypArr(TypRec:p)")
	for _, a := range parts {
		for _, n := range []api.Node{
			{Kind: api.Field, Name: "f", Kids: []api.Node{a}},
			un(2, a), un(14, a), un(2, un(14, a)),
			{Kind: api.Call, Name: "f", Kids: []api.Node{a}},
			{Kind: api.Fork, Name: "f", Kids: []api.Node{a}},
			{Kind: api.New, Kids: []api.Node{of, a}},
		} {
			comes(t, n, told("expr", n, 0))
		}
		for _, b := range parts {
			for _, n := range []api.Node{
				{Kind: api.Index, Kids: []api.Node{a, b}},
				{Kind: api.Call, Name: "f", Kids: []api.Node{a, b}},
				{Kind: api.Fork, Name: "f", Kids: []api.Node{a, b, a}},
				{Kind: api.New, Kids: []api.Node{of, a, b}},
			} {
				comes(t, n, told("expr", n, 0))
			}
			for sign := 1; sign <= 13; sign++ {
				n := bin(sign, a, b)
				comes(t, n, told("expr", n, 0))
			}
		}
	}
}

// TestRows: 16.1, signs in a row: they stand side by side, without brackets.
func TestRows(t *testing.T) {
	for _, row := range []string{"-", "!", "--", "-!", "!-", "!!", "-!-!!--", rep("-", 60), rep("!", 60), rep("-!", 100)} {
		n, one, two := name("a"), bin(1, name("a"), name("b")), name("a")
		for i := len(row) - 1; i >= 0; i-- {
			sign := map[byte]int{'-': 2, '!': 14}[row[i]]
			n, one = un(sign, n), un(sign, one)
		}
		two = bin(2, n, n)
		is(t, "expr", n, 0, row+"a")
		is(t, "expr", one, 0, row+"(a + b)")
		is(t, "expr", two, 0, row+"a - "+row+"a")
		for _, x := range []api.Node{n, one, two} {
			if !tree.Same(reads("expr", told("expr", x, 0)), x) {
				t.Errorf("%s is not read from its text", row)
			}
		}
	}
}
