package stmt

import (
	"marline/api"
	"marline/expr"
)

// whole reads a statement that is begun to its end: could it?
func (r *reader) whole(begun bool) (api.Node, bool) {
	ok := begun
	for ok && len(r.open) > 0 {
		ok = r.goOn()
	}
	return r.last, ok
}

// begin reads a statement, or, of one that has others in it, what it begins with.
func (r *reader) begin() bool {
	n := api.Node{At: r.token().At}
	switch {
	case r.is(api.TokSign, "{"):
		return r.block()
	case r.is(api.TokWord, "if"):
		return r.choice()
	case r.word("while"):
		n.Kind = api.While
		return r.header(n)
	case r.word("var"):
		n.Kind = api.Var
		return r.variable(n)
	case r.word("return"):
		n.Kind = api.Return
		return r.back(n)
	case r.word("join"):
		n.Kind = api.Join
		return r.join(n)
	case r.word("print"):
		n.Kind = api.Print
		return r.closed(n)
	}
	return r.named()
}

// block begins a block.
func (r *reader) block() bool {
	n := api.Node{Kind: api.Block, At: r.token().At}
	if !r.mark("{") {
		return false
	}
	r.open = append(r.open, n)
	return true
}

// choice begins an if.
func (r *reader) choice() bool {
	n := api.Node{Kind: api.If, At: r.token().At}
	return r.word("if") && r.header(n)
}

// header begins what has an expression and then a block.
func (r *reader) header(n api.Node) bool {
	x, ok := r.expr()
	if !ok {
		return false
	}
	n.Kids = append(n.Kids, x)
	r.open = append(r.open, n)
	return r.block()
}

// goOn goes on with the statement that was begun last: with a block to its end,
// with others behind the block.
func (r *reader) goOn() bool {
	n := r.open[len(r.open)-1]
	switch {
	case n.Kind == api.Block && !r.mark("}"):
		return r.begin()
	case n.Kind == api.If && len(n.Kids) == 2 && r.word("else"):
		return r.other()
	}
	r.open = r.open[:len(r.open)-1]
	r.put(n)
	return true
}

// other begins what stands behind else.
func (r *reader) other() bool {
	if r.is(api.TokWord, "if") {
		return r.choice()
	}
	return r.block()
}

// put adds a statement to the one around it.
func (r *reader) put(n api.Node) {
	if len(r.open) == 0 {
		r.last = n
		return
	}
	around := &r.open[len(r.open)-1]
	around.Kids = append(around.Kids, n)
}

// ended reads the mark that ends a statement, and adds that to the one around it.
func (r *reader) ended(n api.Node) bool {
	if !r.mark(";") {
		return false
	}
	r.put(n)
	return true
}

// closed reads the expression that is a statement's last kid, and the end.
func (r *reader) closed(n api.Node) bool {
	x, ok := r.expr()
	if !ok {
		return false
	}
	n.Kids = append(n.Kids, x)
	return r.ended(n)
}

// variable reads the name of a var, and on.
func (r *reader) variable(n api.Node) bool {
	name, ok := r.name()
	n.Name = name.Name
	return ok && r.mark("=") && r.closed(n)
}

// back reads what stands behind return.
func (r *reader) back(n api.Node) bool {
	if r.is(api.TokSign, ";") {
		return r.ended(n)
	}
	return r.closed(n)
}

// join reads the name of what is joined.
func (r *reader) join(n api.Node) bool {
	name, ok := r.name()
	n.Name = name.Name
	return ok && r.ended(n)
}

// named reads a statement that begins with a name: a call, or what is set.
func (r *reader) named() bool {
	n, ok := r.name()
	if !ok {
		return false
	}
	if r.is(api.TokSign, "(") {
		return r.call(n)
	}
	place, ok := r.place(n)
	set := api.Node{Kind: api.Set, At: r.token().At, Kids: []api.Node{place}}
	return ok && r.mark("=") && r.closed(set)
}

// call reads the arguments of a call.
func (r *reader) call(name api.Node) bool {
	kids, i, e := expr.Args(r.l, r.i)
	r.i = i
	if e != api.OK {
		return false
	}
	call := api.Node{Kind: api.Call, At: name.At, Name: name.Name, Kids: kids}
	return r.ended(api.Node{Kind: api.Do, At: name.At, Kids: []api.Node{call}})
}

// place reads what stands behind a place's name.
func (r *reader) place(n api.Node) (api.Node, bool) {
	for ok := true; ok; {
		at := r.token().At
		switch {
		case r.mark("["):
			n, ok = r.index(n, at)
		case r.mark("."):
			n, ok = r.field(n, at)
		default:
			return n, true
		}
	}
	return api.Node{}, false
}

// index reads an index up to its closing bracket.
func (r *reader) index(of api.Node, at int) (api.Node, bool) {
	x, ok := r.expr()
	n := api.Node{Kind: api.Index, At: at, Kids: []api.Node{of, x}}
	return n, ok && r.mark("]")
}

// field reads the name of a field.
func (r *reader) field(of api.Node, at int) (api.Node, bool) {
	name, ok := r.name()
	return api.Node{Kind: api.Field, At: at, Name: name.Name, Kids: []api.Node{of}}, ok
}
