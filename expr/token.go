package expr

import (
	"strings"

	"marline/api"
	"marline/word"
)

// isNumber: is a token a number that lex tells?
func isNumber(t api.Token) bool { return t.Kind == api.TokNum && t.N >= 0 }

// isName: is a token a name that lex tells? A node with another name would be none.
func isName(t api.Token) bool {
	const digits = "0123456789"
	const letters = "abcdefghijklmnopqrstuvwxyzABCDEFGHIJKLMNOPQRSTUVWXYZ_"
	if t.Kind != api.TokName || t.Text == "" || len(t.Text) > api.MaxName {
		return false
	}
	return !strings.Contains(digits, t.Text[:1]) && strings.Trim(t.Text, letters+digits) == "" && !word.Is(t.Text)
}

// isWord: is a token this word?
func isWord(t api.Token, s string) bool { return t.Kind == api.TokWord && t.Text == s }

// isMark: is a token this mark?
func isMark(t api.Token, s string) bool { return t.Kind == api.TokSign && t.Text == s }

// signOf is the sign that a token is, and how tightly it binds between two: 0 of
// what can't stand there.
func signOf(t api.Token) (int, int) {
	if t.Kind != api.TokSign {
		return 0, 0
	}
	sign, _ := word.Sign(t.Text)
	return sign, word.Bind(sign)
}

// plain is a type of one token.
func plain(t api.Token) (api.Node, bool) {
	n := api.Node{At: t.At}
	switch {
	case isWord(t, "int"):
		n.Kind = api.TypInt
	case isWord(t, "bool"):
		n.Kind = api.TypBool
	case isWord(t, "rev"):
		n.Kind = api.TypRev
	case isName(t):
		n.Kind, n.Name = api.TypRec, t.Text
	default:
		return api.Node{}, false
	}
	return n, true
}

// alone is an expression of one token.
func alone(t api.Token) (api.Node, bool) {
	n := api.Node{At: t.At}
	switch {
	case isNumber(t):
		n.Kind, n.N = api.Num, t.N
	case isWord(t, "true"):
		n.Kind, n.N = api.Flag, 1
	case isWord(t, "false"):
		n.Kind = api.Flag
	case isName(t):
		n.Kind, n.Name = api.Name, t.Text
	default:
		return api.Node{}, false
	}
	return n, true
}
