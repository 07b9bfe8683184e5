package expr_test

import (
	"strings"

	"marline/api"
)

// grammar is the chapter's, told anew; words that begin with a small letter are
// lines of it, what stands in quotes is a mark, what stands in < > a word.
const grammar = `
type    is  <int> | <bool> | <rev> | NAME | "[" "]" type
args    is  "(" [ expr { "," expr } ] ")"
expr    is  and { "||" and }
and     is  test { "&&" test }
test    is  sum [ COMPARE sum ]
sum     is  term { ADD term }
term    is  factor { TIMES factor }
factor  is  "-" factor | "!" factor | part
part    is  first { "[" expr "]" | "." NAME }
first   is  NUMBER | <true> | <false> | NAME | NAME args | <fork> NAME args | <new> type args | "(" expr ")"
`

// The signs of the grammar's lines, and what a name is made of.
const (
	compare = "== != < <= > >="
	add     = "+ -"
	times   = "* / %"
	letters = "abcdefghijklmnopqrstuvwxyzABCDEFGHIJKLMNOPQRSTUVWXYZ_"
	digits  = "0123456789"
	words   = "rec iso fun merge main var if else while return fork join print new by int bool rev true false"
	numbers = "+ - * / % == != < <= > >= && || !"
)

// theLines are the grammar's lines by their names.
var theLines = lines()

// item is a part of a line: a token, a line's name, or some choices, each a row
// of items, that come any number of times, once or not, or once.
type item struct {
	what    string
	choices [][]item
}

// lines reads the grammar.
func lines() map[string]item {
	all := map[string]item{}
	for line := range strings.Lines(strings.TrimSpace(grammar)) {
		name, is, ok := strings.Cut(line, " is ")
		if !ok {
			panic(line)
		}
		l := strings.Fields(is)
		choices, rest := choicesOf(l)
		if len(rest) > 0 {
			panic(rest[0])
		}
		all[strings.TrimSpace(name)] = item{"(", choices}
	}
	return all
}

// choicesOf are choices, and what stands behind them.
func choicesOf(l []string) ([][]item, []string) {
	choices := [][]item{nil}
	for len(l) > 0 {
		last := len(choices) - 1
		switch l[0] {
		case "]", "}":
			return choices, l
		case "|":
			choices, l = append(choices, nil), l[1:]
		case "[", "{":
			in, rest := choicesOf(l[1:])
			choices[last] = append(choices[last], item{l[0], in})
			l = rest[1:]
		default:
			choices[last] = append(choices[last], item{what: l[0]})
			l = l[1:]
		}
	}
	return choices, nil
}

// found is a way in which tokens can be read: up to where, and its parts: lines
// with theirs, and tokens.
type found struct {
	end   int
	parts []*part
}

// part is a line of the grammar with its parts, or a token.
type part struct {
	line  string
	at    int
	parts []*part
}

// search goes through all ways in which tokens can be read, and keeps how far
// any of them comes, and what is known already.
type search struct {
	lines map[string]item
	l     []api.Token
	far   int
	known map[place][]found
}

type place struct {
	line string
	at   int
}

// line are all ways to read a line from a token on, no two of them with one end.
func (s *search) line(name string, at int) []found {
	if l, ok := s.known[place{name, at}]; ok {
		return l
	}
	var l []found
	for _, f := range s.item(s.lines[name], at) {
		l = append(l, found{f.end, []*part{{name, at, f.parts}}})
	}
	s.known[place{name, at}] = l
	return l
}

// item are all ways to read an item from a token on.
func (s *search) item(x item, at int) []found {
	switch x.what {
	case "(", "[", "{":
		var l []found
		for _, choice := range x.choices {
			l = append(l, s.row(choice, at)...)
		}
		if x.what == "(" {
			return l
		}
		if x.what == "{" {
			for _, f := range l {
				for _, g := range s.item(x, f.end) {
					if g.end > f.end {
						l = append(l, found{g.end, join(f.parts, g.parts)})
					}
				}
			}
		}
		return append(l, found{end: at})
	}
	if _, ok := s.lines[x.what]; ok {
		return s.line(x.what, at)
	}
	s.far = max(s.far, at)
	if at < 0 || at >= len(s.l) || !isOne(s.l[at], x.what) {
		return nil
	}
	return []found{{at + 1, []*part{{at: at}}}}
}

// row are all ways to read a row of items from a token on.
func (s *search) row(row []item, at int) []found {
	l := []found{{end: at}}
	for _, x := range row {
		var longer []found
		for _, f := range l {
			for _, g := range s.item(x, f.end) {
				longer = append(longer, found{g.end, join(f.parts, g.parts)})
			}
		}
		l = longer
	}
	return l
}

func join(a, b []*part) []*part { return append(append([]*part(nil), a...), b...) }

// isOne: is a token what the grammar asks for?
func isOne(t api.Token, what string) bool {
	switch what {
	case "NAME":
		return t.Kind == 1 && isRight(t.Text)
	case "NUMBER":
		return t.Kind == 2 && t.N >= 0
	case "COMPARE":
		return t.Kind == 4 && isIn(compare, t.Text)
	case "ADD":
		return t.Kind == 4 && isIn(add, t.Text)
	case "TIMES":
		return t.Kind == 4 && isIn(times, t.Text)
	}
	kind := map[byte]int{'"': 4, '<': 3}[what[0]]
	return t.Kind == kind && t.Text == what[1:len(what)-1]
}

// isIn: is a text one of some that are parted by blanks?
func isIn(texts, s string) bool {
	for _, x := range strings.Fields(texts) {
		if x == s {
			return true
		}
	}
	return false
}

// isRight: is a text a name?
func isRight(s string) bool {
	for i := range len(s) {
		if strings.IndexByte(letters, s[i]) < 0 && (i == 0 || strings.IndexByte(digits, s[i]) < 0) {
			return false
		}
	}
	return s != "" && len(s) <= 32 && !isIn(words, s)
}

// told is what the chapter says of a line that is read from the i-th token on:
// its parts, and the number of the token behind it; or none, and the number of
// the first token with which no way goes on.
func told(line string, l []api.Token, i int) (*part, int) {
	s := search{theLines, l, i, map[place][]found{}}
	for _, f := range s.line(line, i) {
		if f.end >= s.far {
			return f.parts[0], f.end
		}
	}
	return nil, s.far
}

// node is the node that parts are.
func node(p *part, l []api.Token) api.Node {
	at := func(p *part) api.Token { return l[p.at] }
	switch p.line {
	case "type":
		return typeNode(p, l)
	case "expr", "and", "test", "sum", "term":
		n := node(p.parts[0], l)
		for i := 1; i < len(p.parts); i += 2 {
			sign := at(p.parts[i])
			n = api.Node{Kind: 16, At: sign.At, N: numberOf(sign.Text), Kids: []api.Node{n, node(p.parts[i+1], l)}}
		}
		return n
	case "factor":
		if len(p.parts) == 1 {
			return node(p.parts[0], l)
		}
		sign := at(p.parts[0])
		return api.Node{Kind: 15, At: sign.At, N: numberOf(sign.Text), Kids: []api.Node{node(p.parts[1], l)}}
	case "part":
		n := node(p.parts[0], l)
		for i := 1; i < len(p.parts); {
			mark := at(p.parts[i])
			if mark.Text == "." {
				n = api.Node{Kind: 14, At: mark.At, Name: at(p.parts[i+1]).Text, Kids: []api.Node{n}}
				i += 2
			} else {
				n = api.Node{Kind: 13, At: mark.At, Kids: []api.Node{n, node(p.parts[i+1], l)}}
				i += 3
			}
		}
		return n
	}
	return firstNode(p, l)
}

// typeNode is the type that parts are.
func typeNode(p *part, l []api.Token) api.Node {
	t := l[p.parts[0].at]
	switch {
	case len(p.parts) == 3:
		return api.Node{Kind: 5, At: t.At, Kids: []api.Node{node(p.parts[2], l)}}
	case t.Kind == 1:
		return api.Node{Kind: 4, At: t.At, Name: t.Text}
	}
	return api.Node{Kind: map[string]int{"int": 1, "bool": 2, "rev": 3}[t.Text], At: t.At}
}

// firstNode is the first of a part, as a node.
func firstNode(p *part, l []api.Token) api.Node {
	t, many := l[p.parts[0].at], len(p.parts)
	switch {
	case t.Kind == 2:
		return api.Node{Kind: 10, At: t.At, N: t.N}
	case t.Kind == 4:
		return node(p.parts[1], l)
	case t.Kind == 1 && many == 1:
		return api.Node{Kind: 12, At: t.At, Name: t.Text}
	case t.Kind == 1:
		return api.Node{Kind: 17, At: t.At, Name: t.Text, Kids: argNodes(p.parts[1], l)}
	case t.Text == "true":
		return api.Node{Kind: 11, At: t.At, N: 1}
	case t.Text == "false":
		return api.Node{Kind: 11, At: t.At}
	case t.Text == "fork":
		return api.Node{Kind: 18, At: t.At, Name: l[p.parts[1].at].Text, Kids: argNodes(p.parts[2], l)}
	}
	kids := []api.Node{node(p.parts[1], l)}
	return api.Node{Kind: 19, At: t.At, Kids: append(kids, argNodes(p.parts[2], l)...)}
}

// argNodes are the expressions among the parts of arguments.
func argNodes(p *part, l []api.Token) []api.Node {
	var kids []api.Node
	for _, k := range p.parts {
		if k.line == "expr" {
			kids = append(kids, node(k, l))
		}
	}
	return kids
}

// numberOf is a sign's number.
func numberOf(text string) int {
	for i, s := range strings.Fields(numbers) {
		if s == text {
			return i + 1
		}
	}
	return 0
}
