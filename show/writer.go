package show

import (
	"strings"

	"marline/api"
)

// builder puts a text together. When that has more bytes than are asked for at
// most, it takes no more: of deep blocks the tabs alone may be very many.
type builder struct {
	strings.Builder
	most int
}

// takes: is the text not too long yet?
func (b *builder) takes() bool { return b.Len() <= b.most }

// put adds texts.
func (b *builder) put(texts ...string) {
	for _, s := range texts {
		if b.takes() {
			b.WriteString(s)
		}
	}
}

// tabs adds tabs.
func (b *builder) tabs(n int) {
	if b.takes() {
		b.WriteString(strings.Repeat("\t", n))
	}
}

// writer writes nodes; that they are right is asked for ahead.
type writer struct {
	builder
	depth int // how many tabs stand ahead of a line
}

// lines writes parts in lines that are one deeper, from the bracket at the end of
// the line ahead to the one that the line behind begins with.
func (w *writer) lines(l []api.Node, write func(*writer, api.Node)) {
	w.put("{\n")
	w.depth++
	for _, n := range l {
		write(w, n)
	}
	w.depth--
	w.tabs(w.depth)
	w.put("}")
}

// list writes parts between brackets, with a comma between any two.
func (w *writer) list(l []api.Node, write func(*writer, api.Node)) {
	w.put("(")
	for i, n := range l {
		if i > 0 {
			w.put(", ")
		}
		write(w, n)
	}
	w.put(")")
}
