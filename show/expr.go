package show

import (
	"strconv"

	"marline/api"
	"marline/whole"
	"marline/word"
)

// How tightly expressions bind that are no Bin: more tightly than any sign that
// stands between two.
const (
	bindsAhead = 6 // Un
	bindsMost  = 7 // all others
)

// binds is how tightly an expression binds.
func binds(n api.Node) int {
	switch n.Kind {
	case api.Bin:
		return word.Bind(n.N)
	case api.Un:
		return bindsAhead
	}
	return bindsMost
}

// typed writes a type.
func (w *writer) typed(n api.Node) {
	switch n.Kind {
	case api.TypInt:
		w.put("int")
	case api.TypBool:
		w.put("bool")
	case api.TypRev:
		w.put("rev")
	case api.TypRec:
		w.put(n.Name)
	case api.TypArr:
		w.put("[]")
		w.typed(n.Kids[0])
	}
}

// expr writes an expression.
func (w *writer) expr(n api.Node) {
	switch n.Kind {
	case api.Num:
		w.put(whole.Text(n.N))
	case api.Flag:
		w.put(strconv.FormatBool(n.N == 1))
	case api.Name:
		w.put(n.Name)
	case api.Index:
		w.part(n.Kids[0], bindsMost)
		w.put("[")
		w.expr(n.Kids[1])
		w.put("]")
	case api.Field:
		w.part(n.Kids[0], bindsMost)
		w.put(".", n.Name)
	case api.Un:
		w.put(word.Spell(n.N))
		w.part(n.Kids[0], bindsAhead)
	case api.Bin:
		w.between(n)
	case api.Call:
		w.put(n.Name)
		w.list(n.Kids, (*writer).expr)
	case api.Fork:
		w.put("fork ", n.Name)
		w.list(n.Kids, (*writer).expr)
	case api.New:
		w.put("new ")
		w.typed(n.Kids[0])
		w.list(n.Kids[1:], (*writer).expr)
	}
}

// between writes a Bin. Signs that bind as tightly are read from the left on, so
// that the first one needs no brackets; but those that compare are not read in a
// row at all.
func (w *writer) between(n api.Node) {
	least := binds(n)
	if least == word.Bind(api.Same) {
		least++
	}
	w.part(n.Kids[0], least)
	w.put(" ", word.Spell(n.N), " ")
	w.part(n.Kids[1], binds(n)+1)
}

// part writes a part of an expression: in brackets, if it doesn't bind as tightly
// as is asked for at least.
func (w *writer) part(n api.Node, least int) {
	if binds(n) >= least {
		w.expr(n)
		return
	}
	w.put("(")
	w.expr(n)
	w.put(")")
}
