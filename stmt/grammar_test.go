package stmt_test

import (
	"strings"

	"marline/api"
)

// grammar is the chapter's, and the one that it goes on with, told anew; words
// that begin with a small letter are lines of it, what stands in quotes is a
// mark, what stands in < > a word.
const grammar = `
block   is  "{" { stmt } "}"
place   is  NAME { "[" expr "]" | "." NAME }
stmt    is  block | <var> NAME "=" expr ";" | place "=" expr ";" | NAME args ";" | choice | <while> expr block | <return> [ expr ] ";" | <join> NAME ";" | <print> expr ";"
choice  is  <if> expr block [ <else> ( block | choice ) ]
params  is  "(" [ NAME type { "," NAME type } ] ")"
decl    is  <rec> NAME "{" NAME type ";" { NAME type ";" } "}" | <iso> NAME [ "[" POSITIVE "]" ] type [ <by> NAME ] ";" | <fun> NAME params [ type ] block | <merge> NAME "(" NAME type "," NAME type "," NAME type ")" block
program is  { decl } <main> block LAST
type    is  <int> | <bool> | <rev> | NAME | "[" "]" type
args    is  "(" [ expr { "," expr } ] ")"
expr    is  and { "||" and }
and     is  test { "&&" test }
test    is  sum [ COMPARE sum ]
sum     is  term { ADD term }
term    is  factor { TIMES factor }
factor  is  "-" factor | "!" factor | part
part    is  first { "[" expr "]" | "." NAME }
first   is  NUMBER | <true> | <false> | NAME | NAME args | <fork> NAME args | <new> type args | "(" expr ")"
`

// The signs of the grammar's lines, and what a name is made of.
const (
	compare = "== != < <= > >="
	add     = "+ -"
	times   = "* / %"
	letters = "abcdefghijklmnopqrstuvwxyzABCDEFGHIJKLMNOPQRSTUVWXYZ_"
	digits  = "0123456789"
	words   = "rec iso fun merge main var if else while return fork join print new by int bool rev true false"
	numbers = "+ - * / % == != < <= > >= && || !"
)

// theLines are the grammar's lines by their names.
var theLines = lines()

// item is a part of a line: a token, a line's name, or some choices, each a row
// of items, that come any number of times, once or not, or once.
type item struct {
	what    string
	choices [][]item
}

// lines reads the grammar.
func lines() map[string]item {
	all := map[string]item{}
	for line := range strings.Lines(strings.TrimSpace(grammar)) {
		name, is, ok := strings.Cut(line, " is ")
		if !ok {
			panic(line)
		}
		l := strings.Fields(is)
		choices, rest := choicesOf(l)
		if len(rest) > 0 {
			panic(rest[0])
		}
		all[strings.TrimSpace(name)] = item{"(", choices}
	}
	return all
}

// choicesOf are choices, and what stands behind them.
func choicesOf(l []string) ([][]item, []string) {
	choices := [][]item{nil}
	for len(l) > 0 {
		last := len(choices) - 1
		switch l[0] {
		case "]", "}", ")":
			return choices, l
		case "|":
			choices, l = append(choices, nil), l[1:]
		case "[", "{", "(":
			in, rest := choicesOf(l[1:])
			choices[last] = append(choices[last], item{l[0], in})
			l = rest[1:]
		default:
			choices[last] = append(choices[last], item{what: l[0]})
			l = l[1:]
		}
	}
	return choices, nil
}

// found is a way in which tokens can be read: up to where, and its parts: lines
// with theirs, and tokens.
type found struct {
	end   int
	parts []*part
}

// part is a line of the grammar with its parts, or a token.
type part struct {
	line  string
	at    int
	parts []*part
}

// search goes through all ways in which tokens can be read, and keeps how far
// any of them comes, and what is known already.
type search struct {
	lines map[string]item
	l     []api.Token
	far   int
	known map[place][]found
}

type place struct {
	line string
	at   int
}

// line are all ways to read a line from a token on, no two of them with one end.
func (s *search) line(name string, at int) []found {
	if l, ok := s.known[place{name, at}]; ok {
		return l
	}
	var l []found
	for _, f := range s.item(s.lines[name], at) {
		l = append(l, found{f.end, []*part{{name, at, f.parts}}})
	}
	s.known[place{name, at}] = l
	return l
}

// item are all ways to read an item from a token on.
func (s *search) item(x item, at int) []found {
	switch x.what {
	case "(", "[", "{":
		var l []found
		for _, choice := range x.choices {
			l = append(l, s.row(choice, at)...)
		}
		if x.what == "(" {
			return l
		}
		if x.what == "{" {
			for _, f := range l {
				for _, g := range s.item(x, f.end) {
					if g.end > f.end {
						l = append(l, found{g.end, join(f.parts, g.parts)})
					}
				}
			}
		}
		return append(l, found{end: at})
	}
	if _, ok := s.lines[x.what]; ok {
		return s.line(x.what, at)
	}
	s.far = max(s.far, at)
	if at < 0 || at >= len(s.l) || !isOne(s.l[at], x.what) {
		return nil
	}
	if x.what == "LAST" && at != len(s.l)-1 {
		return nil
	}
	return []found{{at + 1, []*part{{at: at}}}}
}

// row are all ways to read a row of items from a token on.
func (s *search) row(row []item, at int) []found {
	l := []found{{end: at}}
	for _, x := range row {
		var longer []found
		for _, f := range l {
			for _, g := range s.item(x, f.end) {
				longer = append(longer, found{g.end, join(f.parts, g.parts)})
			}
		}
		l = longer
	}
	return l
}

func join(a, b []*part) []*part { return append(append([]*part(nil), a...), b...) }

// isOne: is a token what the grammar asks for?
func isOne(t api.Token, what string) bool {
	switch what {
	case "NAME":
		return t.Kind == 1 && isRight(t.Text)
	case "NUMBER":
		return t.Kind == 2 && t.N >= 0
	case "POSITIVE":
		return t.Kind == 2 && t.N > 0
	case "LAST":
		return t.Kind == 0
	case "COMPARE":
		return t.Kind == 4 && isIn(compare, t.Text)
	case "ADD":
		return t.Kind == 4 && isIn(add, t.Text)
	case "TIMES":
		return t.Kind == 4 && isIn(times, t.Text)
	}
	kind := map[byte]int{'"': 4, '<': 3}[what[0]]
	return t.Kind == kind && t.Text == what[1:len(what)-1]
}

// isIn: is a text one of some that are parted by blanks?
func isIn(texts, s string) bool {
	for _, x := range strings.Fields(texts) {
		if x == s {
			return true
		}
	}
	return false
}

// isRight: is a text a name?
func isRight(s string) bool {
	for i := range len(s) {
		if strings.IndexByte(letters, s[i]) < 0 && (i == 0 || strings.IndexByte(digits, s[i]) < 0) {
			return false
		}
	}
	return s != "" && len(s) <= 32 && !isIn(words, s)
}

// told is what the chapter says of a line that is read from the i-th token on:
// its parts, and the number of the token behind it; or none, and the number of
// the first token with which no way goes on. Behind a program the end is told.
func told(line string, l []api.Token, i int) (*part, int) {
	s := search{theLines, l, i, map[place][]found{}}
	for _, f := range s.line(line, i) {
		if line == "program" {
			return f.parts[0], f.end - 1
		}
		if f.end >= s.far {
			return f.parts[0], f.end
		}
	}
	return nil, s.far
}

// node is the node that parts are.
func node(p *part, l []api.Token) api.Node {
	switch p.line {
	case "block":
		return api.Node{Kind: 30, At: l[p.parts[0].at].At, Kids: nodes(p.parts[1:len(p.parts)-1], l)}
	case "stmt":
		return stmtNode(p, l)
	case "choice":
		return api.Node{Kind: 33, At: l[p.parts[0].at].At, Kids: nodes(p.parts, l)}
	case "decl":
		return declNode(p, l)
	case "program":
		return api.Node{Kind: 55, Kids: nodes(p.parts, l)}
	case "place":
		first := l[p.parts[0].at]
		return stepNode(api.Node{Kind: 12, At: first.At, Name: first.Text}, p.parts[1:], l)
	}
	return exprNode(p, l)
}

// nodes are the nodes that the lines among parts are.
func nodes(parts []*part, l []api.Token) []api.Node {
	var all []api.Node
	for _, p := range parts {
		if p.line != "" {
			all = append(all, node(p, l))
		}
	}
	return all
}

// stmtNode is the statement that parts are.
func stmtNode(p *part, l []api.Token) api.Node {
	first := p.parts[0]
	switch {
	case first.line == "place":
		return api.Node{Kind: 32, At: l[p.parts[1].at].At, Kids: nodes(p.parts, l)}
	case first.line != "":
		return node(first, l)
	}
	t := l[first.at]
	if t.Kind == 1 {
		call := api.Node{Kind: 17, At: t.At, Name: t.Text, Kids: argNodes(p.parts[1], l)}
		return api.Node{Kind: 38, At: t.At, Kids: []api.Node{call}}
	}
	n := api.Node{At: t.At, Kids: nodes(p.parts, l)}
	switch t.Text {
	case "var":
		n.Kind, n.Name = 31, l[p.parts[1].at].Text
	case "while":
		n.Kind = 34
	case "return":
		n.Kind = 35
	case "join":
		n.Kind, n.Name = 36, l[p.parts[1].at].Text
	case "print":
		n.Kind = 37
	}
	return n
}

// declNode is the declaration that parts are.
func declNode(p *part, l []api.Token) api.Node {
	t := l[p.parts[0].at]
	n := api.Node{At: t.At, Name: l[p.parts[1].at].Text}
	switch t.Text {
	case "rec":
		n.Kind, n.Kids = 51, paramNodes(p.parts[3:], l)
	case "merge":
		n.Kind, n.Kids = 54, paramNodes(p.parts[3:], l)
		n.Kids = append(n.Kids, node(p.parts[len(p.parts)-1], l))
	case "fun":
		n.Kind, n.Kids = 53, paramNodes(p.parts[2].parts[1:], l)
		if p.parts[3].line == "block" {
			n.Kids = append(n.Kids, api.Node{})
		}
		n.Kids = append(n.Kids, nodes(p.parts[3:], l)...)
	case "iso":
		n.Kind, n.Kids = 52, nodes(p.parts, l)
		if number := l[p.parts[3].at]; len(p.parts) > 5 && number.Kind == 2 {
			n.N = number.N
		}
		if by := p.parts[len(p.parts)-2]; by.line == "" {
			n.Kids = append(n.Kids, api.Node{Kind: 12, At: l[by.at].At, Name: l[by.at].Text})
		}
	}
	return n
}

// paramNodes are the names with a type behind them, each with a mark behind it.
func paramNodes(parts []*part, l []api.Token) []api.Node {
	var all []api.Node
	for ; len(parts) >= 3; parts = parts[3:] {
		name := l[parts[0].at]
		all = append(all, api.Node{Kind: 50, At: name.At, Name: name.Text, Kids: []api.Node{node(parts[1], l)}})
	}
	return all
}

// stepNode is what indices and fields behind a node make of it.
func stepNode(n api.Node, parts []*part, l []api.Token) api.Node {
	for len(parts) > 0 {
		mark := l[parts[0].at]
		if mark.Text == "." {
			n = api.Node{Kind: 14, At: mark.At, Name: l[parts[1].at].Text, Kids: []api.Node{n}}
			parts = parts[2:]
		} else {
			n = api.Node{Kind: 13, At: mark.At, Kids: []api.Node{n, node(parts[1], l)}}
			parts = parts[3:]
		}
	}
	return n
}

// exprNode is the type or expression that parts are.
func exprNode(p *part, l []api.Token) api.Node {
	switch p.line {
	case "type":
		return typeNode(p, l)
	case "expr", "and", "test", "sum", "term":
		n := node(p.parts[0], l)
		for i := 1; i < len(p.parts); i += 2 {
			sign := l[p.parts[i].at]
			n = api.Node{Kind: 16, At: sign.At, N: numberOf(sign.Text), Kids: []api.Node{n, node(p.parts[i+1], l)}}
		}
		return n
	case "factor":
		if len(p.parts) == 1 {
			return node(p.parts[0], l)
		}
		sign := l[p.parts[0].at]
		return api.Node{Kind: 15, At: sign.At, N: numberOf(sign.Text), Kids: []api.Node{node(p.parts[1], l)}}
	case "part":
		return stepNode(node(p.parts[0], l), p.parts[1:], l)
	}
	return firstNode(p, l)
}

// typeNode is the type that parts are.
func typeNode(p *part, l []api.Token) api.Node {
	t := l[p.parts[0].at]
	switch {
	case len(p.parts) == 3:
		return api.Node{Kind: 5, At: t.At, Kids: []api.Node{node(p.parts[2], l)}}
	case t.Kind == 1:
		return api.Node{Kind: 4, At: t.At, Name: t.Text}
	}
	return api.Node{Kind: map[string]int{"int": 1, "bool": 2, "rev": 3}[t.Text], At: t.At}
}

// firstNode is the first of a part, as a node.
func firstNode(p *part, l []api.Token) api.Node {
	t, many := l[p.parts[0].at], len(p.parts)
	switch {
	case t.Kind == 2:
		return api.Node{Kind: 10, At: t.At, N: t.N}
	case t.Kind == 4:
		return node(p.parts[1], l)
	case t.Kind == 1 && many == 1:
		return api.Node{Kind: 12, At: t.At, Name: t.Text}
	case t.Kind == 1:
		return api.Node{Kind: 17, At: t.At, Name: t.Text, Kids: argNodes(p.parts[1], l)}
	case t.Text == "true":
		return api.Node{Kind: 11, At: t.At, N: 1}
	case t.Text == "false":
		return api.Node{Kind: 11, At: t.At}
	case t.Text == "fork":
		return api.Node{Kind: 18, At: t.At, Name: l[p.parts[1].at].Text, Kids: argNodes(p.parts[2], l)}
	}
	kids := []api.Node{node(p.parts[1], l)}
	return api.Node{Kind: 19, At: t.At, Kids: append(kids, argNodes(p.parts[2], l)...)}
}

// argNodes are the expressions among the parts of arguments.
func argNodes(p *part, l []api.Token) []api.Node {
	var kids []api.Node
	for _, k := range p.parts {
		if k.line == "expr" {
			kids = append(kids, node(k, l))
		}
	}
	return kids
}

// numberOf is a sign's number.
func numberOf(text string) int {
	for i, s := range strings.Fields(numbers) {
		if s == text {
			return i + 1
		}
	}
	return 0
}
