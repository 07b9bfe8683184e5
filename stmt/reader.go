package stmt

import (
	"marline/api"
	"marline/expr"
)

// reader reads tokens from the left on. Statements that are begun and not ended
// stand in a row of its own, not in calls that lie in one another: tokens may
// open very many blocks, and have very many else if in a row.
type reader struct {
	l    []api.Token
	i    int        // the token at which it goes on
	open []api.Node // the statements that are begun and not ended, the outer ones first
	last api.Node   // the statement that ended last, with none around it
}

// told is what is told of what is read, or of where it could not go on.
func (r *reader) told(n api.Node, ok bool) (api.Node, int, api.Errno) {
	if !ok {
		return api.Node{}, r.i, api.ErrForm
	}
	return n, r.i, api.OK
}

// token is the token at which it goes on: where there is none, the end.
func (r *reader) token() api.Token {
	if r.i < 0 || r.i >= len(r.l) {
		return api.Token{Kind: api.TokEnd}
	}
	return r.l[r.i]
}

// is: does this word or mark stand there?
func (r *reader) is(kind int, text string) bool {
	t := r.token()
	return t.Kind == kind && t.Text == text
}

// word and mark read a word and a mark, if it stands there: did they?
func (r *reader) word(s string) bool { return r.took(r.is(api.TokWord, s)) }
func (r *reader) mark(s string) bool { return r.took(r.is(api.TokSign, s)) }

// took goes on behind a token, if it is the one that is wanted.
func (r *reader) took(wanted bool) bool {
	if wanted {
		r.i++
	}
	return wanted
}

// alone is the name or number that stands there, as an expression: which tokens
// are names, expr alone knows.
func (r *reader) alone() api.Node {
	n, _, _ := expr.Expr([]api.Token{r.token()}, 0)
	return n
}

// name reads a name.
func (r *reader) name() (api.Node, bool) {
	n := r.alone()
	return n, r.took(n.Kind == api.Name)
}

// typed reads a type.
func (r *reader) typed() (api.Node, bool) {
	n, i, e := expr.Type(r.l, r.i)
	r.i = i
	return n, e == api.OK
}

// expr reads an expression.
func (r *reader) expr() (api.Node, bool) {
	n, i, e := expr.Expr(r.l, r.i)
	r.i = i
	return n, e == api.OK
}
