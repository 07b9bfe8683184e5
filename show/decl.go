package show

import (
	"marline/api"
	"marline/whole"
)

// prog writes a program.
func (w *writer) prog(n api.Node) {
	last := len(n.Kids) - 1
	for _, d := range n.Kids[:last] {
		w.decl(d)
	}
	w.put("main ")
	w.open(n.Kids[last])
	w.put("\n")
}

// decl writes a declaration.
func (w *writer) decl(n api.Node) {
	switch n.Kind {
	case api.Rec:
		w.put("rec ", n.Name, " ")
		w.lines(n.Kids, (*writer).field)
	case api.Iso:
		w.iso(n)
	case api.Fun:
		w.fun(n)
	case api.Merge:
		w.put("merge ", n.Name)
		w.list(n.Kids[:3], (*writer).param)
		w.put(" ")
		w.open(n.Kids[3])
	}
	w.put("\n")
}

// field writes a record's field, in a line.
func (w *writer) field(n api.Node) {
	w.tabs(w.depth)
	w.param(n)
	w.put(";\n")
}

// param writes a name and its type.
func (w *writer) param(n api.Node) {
	w.put(n.Name, " ")
	w.typed(n.Kids[0])
}

// iso writes locations.
func (w *writer) iso(n api.Node) {
	w.put("iso ", n.Name)
	if n.N != 0 {
		w.put("[", whole.Text(n.N), "]")
	}
	w.put(" ")
	w.typed(n.Kids[0])
	if len(n.Kids) == 2 {
		w.put(" by ", n.Kids[1].Name)
	}
	w.put(";")
}

// fun writes a function: behind its params stand its type, which may be none, and
// its block.
func (w *writer) fun(n api.Node) {
	params := len(n.Kids) - 2
	w.put("fun ", n.Name)
	w.list(n.Kids[:params], (*writer).param)
	if of := n.Kids[params]; of.Kind != api.NoNode {
		w.put(" ")
		w.typed(of)
	}
	w.put(" ")
	w.open(n.Kids[params+1])
}
