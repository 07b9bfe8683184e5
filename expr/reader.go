package expr

import (
	"slices"

	"marline/api"
	"marline/word"
)

// reader reads tokens from the left on. What is begun and not ended stands in a
// row of its own, not in calls that lie in one another: tokens may open very
// many brackets, and have very many signs in a row.
type reader struct {
	l     []api.Token
	i     int        // the token at which it goes on
	wants bool       // must an expression begin there?
	over  bool       // is an expression read that can't go on there?
	read  []api.Node // what is read, and is no part of another node yet
	open  []begun    // what is begun and not ended, the outer ones first
}

// begun is what is begun and not ended: a sign that waits for what stands behind
// it, or a bracket.
type begun struct {
	node  api.Node // what it is to be, without kids; NoNode of brackets around an expression
	first int      // its kids are what is read from this number on
	bind  int      // how tightly the sign binds; 0 of a bracket
	shut  string   // the mark that ends the bracket
	many  bool     // may expressions in any number stand in it?
}

// ahead is how tightly a sign binds that stands ahead of one: more tightly than
// all that stand between two.
const ahead = 6

// token is the token at which it goes on: where there is none, the end.
func (r *reader) token() api.Token {
	if r.i < 0 || r.i >= len(r.l) {
		return api.Token{Kind: api.TokEnd}
	}
	return r.l[r.i]
}

// took reads a mark, if it stands there: did it?
func (r *reader) took(mark string) bool {
	if !isMark(r.token(), mark) {
		return false
	}
	r.i++
	return true
}

// typed reads a type.
func (r *reader) typed() (api.Node, bool) {
	var arrays []int
	for at := r.token().At; r.took("["); at = r.token().At {
		if !r.took("]") {
			return api.Node{}, false
		}
		arrays = append(arrays, at)
	}
	n, ok := plain(r.token())
	if !ok {
		return api.Node{}, false
	}
	r.i++
	for _, at := range slices.Backward(arrays) {
		n = api.Node{Kind: api.TypArr, At: at, Kids: []api.Node{n}}
	}
	return n, true
}

// step reads what comes next, up to where it is known how it goes on from there:
// could it?
func (r *reader) step() bool {
	if r.wants {
		return r.begin()
	}
	return r.goOn()
}

// begin reads what an expression begins with.
func (r *reader) begin() bool {
	t := r.token()
	switch {
	case r.took("("):
		r.open = append(r.open, begun{shut: ")"})
	case r.took("-"):
		r.sign(api.Node{Kind: api.Un, At: t.At, N: api.Minus}, ahead, 0)
	case r.took("!"):
		r.sign(api.Node{Kind: api.Un, At: t.At, N: api.Not}, ahead, 0)
	case isWord(t, "fork"):
		return r.fork()
	case isWord(t, "new"):
		return r.made()
	default:
		return r.first()
	}
	return true
}

// first reads an expression of one token, or a call.
func (r *reader) first() bool {
	n, ok := alone(r.token())
	if !ok {
		return false
	}
	r.i++
	if n.Kind == api.Name && isMark(r.token(), "(") {
		n.Kind = api.Call
		return r.args(n)
	}
	r.put(n)
	return true
}

// fork reads a fork, up to its arguments.
func (r *reader) fork() bool {
	n := api.Node{Kind: api.Fork, At: r.token().At}
	r.i++
	name := r.token()
	if !isName(name) {
		return false
	}
	n.Name = name.Text
	r.i++
	return r.args(n)
}

// made reads what is made anew, up to its arguments.
func (r *reader) made() bool {
	n := api.Node{Kind: api.New, At: r.token().At}
	r.i++
	of, ok := r.typed()
	return ok && r.args(n, of)
}

// args begins arguments: they are to be kids of a node, behind those that are
// there already.
func (r *reader) args(n api.Node, kids ...api.Node) bool {
	if !r.took("(") {
		return false
	}
	r.open = append(r.open, begun{node: n, first: len(r.read), shut: ")", many: true})
	r.read = append(r.read, kids...)
	r.wants = true
	if r.took(")") {
		r.end()
	}
	return true
}

// goOn reads that with which an expression goes on, or what stands around it.
func (r *reader) goOn() bool {
	at := r.token().At
	switch {
	case r.took("["):
		r.open = append(r.open, begun{node: api.Node{Kind: api.Index, At: at}, first: len(r.read) - 1, shut: "]"})
		r.wants = true
	case r.took("."):
		return r.field(at)
	case r.between():
	default:
		return r.leave()
	}
	return true
}

// field reads the name of a field.
func (r *reader) field(at int) bool {
	name := r.token()
	if !isName(name) {
		return false
	}
	r.i++
	last := len(r.read) - 1
	r.read[last] = api.Node{Kind: api.Field, At: at, Name: name.Text, Kids: []api.Node{r.read[last]}}
	return true
}

// between reads a sign that stands between two, if there is one, and it can
// stand there: did it?
func (r *reader) between() bool {
	t := r.token()
	sign, bind := signOf(t)
	if bind == 0 {
		return false
	}
	r.settle(bind + 1)
	if bind == word.Bind(api.Same) && r.bind() == bind {
		return false
	}
	r.settle(bind)
	r.i++
	r.sign(api.Node{Kind: api.Bin, At: t.At, N: sign}, bind, 1)
	return true
}

// sign begins what a sign is to be, with as many kids as are read already.
func (r *reader) sign(n api.Node, bind, kids int) {
	r.open = append(r.open, begun{node: n, first: len(r.read) - kids, bind: bind})
	r.wants = true
}

// bind is how tightly what was begun last binds: 0, if that is a bracket, or nothing.
func (r *reader) bind() int {
	if len(r.open) == 0 {
		return 0
	}
	return r.open[len(r.open)-1].bind
}

// settle ends the signs, from the last one on, that bind at least that tightly.
func (r *reader) settle(bind int) {
	for r.bind() >= bind {
		r.end()
	}
}

// leave ends an expression: what stands there belongs to the bracket around it,
// or, where there is none, to nothing.
func (r *reader) leave() bool {
	r.settle(1)
	if len(r.open) == 0 {
		r.over = true
		return true
	}
	b := r.open[len(r.open)-1]
	if b.many && r.took(",") {
		r.wants = true
		return true
	}
	if !r.took(b.shut) {
		return false
	}
	r.end()
	return true
}

// end ends what was begun last: of brackets around an expression it is that.
func (r *reader) end() {
	b := r.open[len(r.open)-1]
	r.open = r.open[:len(r.open)-1]
	if b.node.Kind == api.NoNode {
		return
	}
	n := b.node
	n.Kids = append(n.Kids, r.read[b.first:]...)
	r.read = r.read[:b.first]
	r.put(n)
}

// put adds an expression to what is read.
func (r *reader) put(n api.Node) {
	r.read = append(r.read, n)
	r.wants = false
}
