package show

import "marline/api"

// stmt writes a statement.
func (w *writer) stmt(n api.Node) {
	w.tabs(w.depth)
	switch n.Kind {
	case api.Block, api.If, api.While:
		w.open(n)
	default:
		w.closed(n)
		w.put(";")
	}
	w.put("\n")
}

// closed writes a statement that has no others in it, but for its end.
func (w *writer) closed(n api.Node) {
	switch n.Kind {
	case api.Var:
		w.put("var ", n.Name, " = ")
		w.expr(n.Kids[0])
	case api.Set:
		w.expr(n.Kids[0])
		w.put(" = ")
		w.expr(n.Kids[1])
	case api.Return:
		w.put("return")
		w.answer(n.Kids)
	case api.Join:
		w.put("join ", n.Name)
	case api.Print:
		w.put("print ")
		w.expr(n.Kids[0])
	case api.Do:
		w.expr(n.Kids[0])
	}
}

// answer writes the expression behind return, if there is one.
func (w *writer) answer(l []api.Node) {
	if len(l) > 0 {
		w.put(" ")
		w.expr(l[0])
	}
}

// open writes a statement that has others in it, from its first word or bracket
// to its last bracket: what stands behind else does not begin a line.
func (w *writer) open(n api.Node) {
	switch n.Kind {
	case api.Block:
		w.lines(n.Kids, (*writer).stmt)
	case api.If:
		w.header("if ", n)
		if len(n.Kids) == 3 {
			w.put(" else ")
			w.open(n.Kids[2])
		}
	case api.While:
		w.header("while ", n)
	}
}

// header writes a word, an expression and a block.
func (w *writer) header(word string, n api.Node) {
	w.put(word)
	w.expr(n.Kids[0])
	w.put(" ")
	w.open(n.Kids[1])
}
