package stmt

import "marline/api"

// prog reads a program, up to the end, which must be the last token.
func (r *reader) prog() (api.Node, bool) {
	n := api.Node{Kind: api.Prog}
	for !r.word("main") {
		d, ok := r.decl()
		if !ok {
			return n, false
		}
		n.Kids = append(n.Kids, d)
	}
	n, ok := r.body(n)
	return n, ok && r.token().Kind == api.TokEnd && r.i == len(r.l)-1
}

// decl reads a declaration.
func (r *reader) decl() (api.Node, bool) {
	n := api.Node{At: r.token().At, Kind: r.sort()}
	if n.Kind == api.NoNode {
		return n, false
	}
	name, ok := r.name()
	if !ok {
		return n, false
	}
	n.Name = name.Name
	switch n.Kind {
	case api.Rec:
		return r.rec(n)
	case api.Iso:
		return r.iso(n)
	case api.Fun:
		return r.fun(n)
	}
	return r.merge(n)
}

// sort reads the word with which a declaration begins: what is it to be? NoNode,
// if there is none.
func (r *reader) sort() int {
	switch {
	case r.word("rec"):
		return api.Rec
	case r.word("iso"):
		return api.Iso
	case r.word("fun"):
		return api.Fun
	case r.word("merge"):
		return api.Merge
	}
	return api.NoNode
}

// rec reads a record's fields: there is one at least.
func (r *reader) rec(n api.Node) (api.Node, bool) {
	if !r.mark("{") {
		return n, false
	}
	for {
		p, ok := r.param()
		if !ok || !r.mark(";") {
			return n, false
		}
		n.Kids = append(n.Kids, p)
		if r.mark("}") {
			return n, true
		}
	}
}

// iso reads how many locations there are, their type, and what merges them.
func (r *reader) iso(n api.Node) (api.Node, bool) {
	var ok bool
	if n.N, ok = r.many(); !ok {
		return n, false
	}
	of, ok := r.typed()
	if !ok {
		return n, false
	}
	n.Kids = append(n.Kids, of)
	if r.word("by") {
		by, ok := r.name()
		if !ok {
			return n, false
		}
		n.Kids = append(n.Kids, by)
	}
	return n, r.mark(";")
}

// many reads a number of locations, if one stands there: if none stands in the
// bracket, that is the type's.
func (r *reader) many() (int, bool) {
	behind := reader{l: r.l, i: r.i + 1}
	n := behind.alone()
	if !r.is(api.TokSign, "[") || n.Kind != api.Num || n.N == 0 {
		return 0, true
	}
	r.i += 2
	return n.N, r.mark("]")
}

// fun reads a function's params, its type, if it has one, and its body.
func (r *reader) fun(n api.Node) (api.Node, bool) {
	kids, ok := r.params()
	if !ok {
		return n, false
	}
	var of api.Node
	if !r.is(api.TokSign, "{") {
		if of, ok = r.typed(); !ok {
			return n, false
		}
	}
	n.Kids = append(kids, of)
	return r.body(n)
}

// merge reads the three params of a merge function, and its body.
func (r *reader) merge(n api.Node) (api.Node, bool) {
	if !r.mark("(") {
		return n, false
	}
	for _, end := range [...]string{",", ",", ")"} {
		p, ok := r.param()
		if !ok || !r.mark(end) {
			return n, false
		}
		n.Kids = append(n.Kids, p)
	}
	return r.body(n)
}

// params reads a function's params.
func (r *reader) params() ([]api.Node, bool) {
	var l []api.Node
	if !r.mark("(") {
		return nil, false
	}
	for !r.mark(")") {
		if len(l) > 0 && !r.mark(",") {
			return nil, false
		}
		p, ok := r.param()
		if !ok {
			return nil, false
		}
		l = append(l, p)
	}
	return l, true
}

// param reads a name and its type.
func (r *reader) param() (api.Node, bool) {
	name, ok := r.name()
	if !ok {
		return api.Node{}, false
	}
	of, ok := r.typed()
	return api.Node{Kind: api.Param, At: name.At, Name: name.Name, Kids: []api.Node{of}}, ok
}

// body reads the block that is a node's last kid.
func (r *reader) body(n api.Node) (api.Node, bool) {
	b, ok := r.whole(r.block())
	n.Kids = append(n.Kids, b)
	return n, ok
}
