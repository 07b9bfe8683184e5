package parse_test

import (
	"strings"
	"testing"

	"marline/api"
	"marline/lex"
	"marline/parse"
	"marline/tree"
)

// piece is a text with an error in it: the error's place in the text, and its
// rank: 1 of lex, 2 of nest, 3 of form.
type piece struct {
	src  string
	at   int
	why  api.Errno
	rank int
}

// pieces are texts of each error that a source can have.
var pieces = []piece{
	{"&", 0, api.ErrForm, 1},
	{"12345678901234567890", 0, api.ErrRange, 1},
	{"b = " + rep("z", 33) + ";", 4, api.ErrLong, 1},
	{rep("{", 61), 60, api.ErrDeep, 2},
	{"c" + rep("-", 61) + "1", 61, api.ErrDeep, 2},
	{"; ;", 0, api.ErrForm, 3},
}

// orders are all rows of some of n things, each at most once.
func orders(n int) [][]int {
	all := [][]int{{}}
	for i := 0; i < len(all); i++ {
		used := 0
		for _, k := range all[i] {
			used |= 1 << k
		}
		for k := range n {
			if used>>k&1 == 0 {
				all = append(all, append(append([]int(nil), all[i]...), k))
			}
		}
	}
	return all
}

// TestOrder: 15.1, of several errors that of lex is told ahead of that of nest,
// that ahead of one of form, wherever they stand in the source; and of those of
// one layer the first one from the left.
func TestOrder(t *testing.T) {
	for _, x := range []struct {
		line, ahead, behind string
		open                int // how many brackets are open ahead
	}{
		{"prog", "", "", 0},
		{"prog", "main { a = 1;\n", "\n}", 1},
		{"prog", "fun f() { }\nmain ", "", 0},
		{"prog", "main { } ", " main { }", 0},
		{"prog", "main { if a { x = b[", "] } }", 3},
		{"expr", "", "", 0},
		{"expr", "a\n", "b", 0},
		{"expr", "(f(1) ", ")\n", 1},
	} {
		for _, row := range orders(len(pieces)) {
			src, first, at := x.ahead, piece{rank: 4}, 0
			for _, k := range row {
				p := pieces[k]
				if p.rank < first.rank {
					first, at = p, len(src)+p.at
				}
				src += p.src + "\n "
			}
			src += x.behind
			if first.src == rep("{", 61) {
				at -= x.open
			}
			if len(row) > 0 {
				holds(t, x.line, src, api.Node{}, fault(src, at, first.why))
			}
			alike(t, x.line, src)
		}
	}
}

// TestOrderFar: 15.1, an error of lex or of nest is told, however far behind one of
// form it is; one of form behind another one is not.
func TestOrderFar(t *testing.T) {
	for _, x := range wrong {
		src, at := marked(t, x.src)
		for _, p := range pieces {
			for _, far := range []string{"\n", "\r\n\t", rep("\n# a\n", 100), rep(" x", 1000) + "\n"} {
				all := src + far + p.src
				l, _, e := lex.All(src)
				switch {
				case e != api.OK:
					fails(t, x.line, all, at, x.why)
				case p.rank == 1:
					fails(t, x.line, all, len(src+far)+p.at, p.why)
				case p.src[0] == 'c':
					fails(t, x.line, all, len(src+far)+p.at, p.why)
				case p.rank == 2:
					fails(t, x.line, all, len(src+far)+p.at-left(l), p.why)
				case at < len(src):
					fails(t, x.line, all, at, x.why)
				}
			}
		}
	}
}

// left is how many brackets are open behind tokens.
func left(l []api.Token) int {
	n := 0
	for _, k := range l {
		switch k.Text {
		case "(", "[", "{":
			n++
		case ")", "]", "}":
			n = max(n-1, 0)
		}
	}
	return n
}

// TestEvery: 15.1, 15.2, each text of up to two bytes, of up to four bytes of some
// of each sort, and of up to six of very few.
func TestEvery(t *testing.T) {
	for a := range 256 {
		both(t, string([]byte{byte(a)}))
		for b := range 256 {
			both(t, string([]byte{byte(a), byte(b)}))
		}
	}
	each(t, "", "a10 \n#()[]{}.,;=-!+<&|\"\xe4", 4)
	each(t, "", "a1()-\n", 6)
	each(t, "", "f(a)[.", 6)
	each(t, "main", "{}; \n(", 6)
}

// each: is each text of up to n of some bytes, behind a text, told alike?
func each(t *testing.T, ahead, some string, n int) {
	t.Helper()
	both(t, ahead)
	for i := 0; n > 0 && i < len(some); i++ {
		each(t, ahead+some[i:i+1], some, n-1)
	}
}

// TestRows: 15.1, 15.2, each row of up to three tokens of each kind, and of what
// no token begins with, parted by blanks.
func TestRows(t *testing.T) {
	some := strings.Fields("a len 7 00 true int fork new ( ) [ ] { } , . ; = ! - + * < && rec iso fun merge main var if else while return join print by & 9223372036854775808 #\u00e4")
	for _, a := range some {
		for _, b := range some {
			both(t, a+" "+b)
			both(t, "main { "+a+"\n"+b)
			for _, c := range some {
				both(t, a+"\n"+b+"\t"+c)
			}
		}
	}
}

// sources are those of which each byte is changed: some of each line of the
// grammar.
var sources = []struct{ line, src string }{
	{"prog", "rec P { a int; b []Q; }\niso y[3] rev by m;\nmain { x.y[1] = 2; }"},
	{"prog", "fun f(a int, b []bool) P { return new P(a, -1); }\nmain { join h; f(1); }"},
	{"prog", "merge m(o int, a int, t int) { while o < t { } }\nmain { print 12 + 3; }"},
	{"prog", "main {\n if a { } else if !b { var c = fork d(true); } else { return; }\n} # end"},
	{"expr", "f(a, 1)[2 + b].c * -(d || !e) <= new []int(3, 0)[x]"},
	{"expr", " fork g(true)\n&& len(a # b\n) % 07 == 3"},
}

// TestChanged: 15.1, 15.2, programs and expressions with each byte changed to each
// other one, taken out, and each one put in there; cut off, and begun there.
func TestChanged(t *testing.T) {
	for _, x := range sources {
		passes(t, x.line, x.src)
		for i := range len(x.src) + 1 {
			ahead, behind := x.src[:i], x.src[i:]
			alike(t, x.line, ahead)
			alike(t, x.line, behind)
			for b := range 256 {
				alike(t, x.line, ahead+string([]byte{byte(b)})+behind)
				if behind != "" {
					alike(t, x.line, ahead+string([]byte{byte(b)})+behind[1:])
				}
			}
			if behind != "" {
				alike(t, x.line, ahead+behind[1:])
			}
		}
	}
}

// TestTurned: 15.1, 15.2, the same with two bytes changed places, and with a part
// of one of them put into another one.
func TestTurned(t *testing.T) {
	for _, x := range sources {
		for i := range x.src {
			for k := i + 1; k < len(x.src); k++ {
				turned := []byte(x.src)
				turned[i], turned[k] = turned[k], turned[i]
				alike(t, x.line, string(turned))
				alike(t, x.line, x.src[:i]+x.src[k:])
			}
			for _, y := range sources {
				part := y.src[i%len(y.src):]
				both(t, x.src[:i]+part+x.src[i:])
				both(t, x.src[:i]+part)
			}
		}
	}
}

// TestSpelled: 15.1, what is read of the tokens' texts with a blank between is the
// same, places aside.
func TestSpelled(t *testing.T) {
	spelled := func(line, src string) {
		l, _, _ := lex.All(src)
		n, f := read(line, src)
		m, g := read(line, lex.Spell(l))
		if f != (parse.Fault{}) || g != (parse.Fault{}) || !tree.Same(n, m) || look(tree.Clean(n)) != look(tree.Clean(m)) {
			t.Errorf("%s %q: %v, %v", line, src, f, g)
		}
	}
	for _, x := range sources {
		spelled(x.line, x.src)
	}
	for _, x := range shapes {
		spelled(x.line, x.src)
	}
}
