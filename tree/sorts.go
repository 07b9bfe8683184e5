package tree

import (
	"marline/api"
	"marline/word"
)

// Type: is a node a type?
func Type(n api.Node) bool {
	switch n.Kind {
	case api.TypInt, api.TypBool, api.TypRev:
		return bare(n) && are(n.Kids)
	case api.TypRec:
		return named(n) && are(n.Kids)
	case api.TypArr:
		return bare(n) && are(n.Kids, Type)
	}
	return false
}

// Expr: is a node an expression?
func Expr(n api.Node) bool {
	switch n.Kind {
	case api.Num:
		return n.N >= 0 && n.Name == "" && are(n.Kids)
	case api.Flag:
		return (n.N == 0 || n.N == 1) && n.Name == "" && are(n.Kids)
	case api.Name:
		return named(n) && are(n.Kids)
	case api.Index:
		return bare(n) && are(n.Kids, Expr, Expr)
	case api.Field:
		return named(n) && are(n.Kids, Expr)
	case api.Un:
		return (n.N == api.Minus || n.N == api.Not) && n.Name == "" && are(n.Kids, Expr)
	case api.Bin:
		return word.Bind(n.N) > 0 && n.Name == "" && are(n.Kids, Expr, Expr)
	case api.Call, api.Fork:
		return named(n) && all(n.Kids, Expr)
	case api.New:
		return bare(n) && len(n.Kids) > 0 && Type(n.Kids[0]) && all(n.Kids[1:], Expr)
	}
	return false
}

// place: is a node a place, to which something can be set?
func place(n api.Node) bool {
	switch n.Kind {
	case api.Name:
		return named(n) && are(n.Kids)
	case api.Index:
		return bare(n) && are(n.Kids, place, Expr)
	case api.Field:
		return named(n) && are(n.Kids, place)
	}
	return false
}

// Stmt: is a node a statement?
func Stmt(n api.Node) bool {
	switch n.Kind {
	case api.Var:
		return named(n) && are(n.Kids, Expr)
	case api.Join:
		return named(n) && are(n.Kids)
	}
	return bare(n) && holds(n)
}

// holds: has a node, that is to be a statement without a name, the kids of one?
func holds(n api.Node) bool {
	switch n.Kind {
	case api.Block:
		return all(n.Kids, Stmt)
	case api.Set:
		return are(n.Kids, place, Expr)
	case api.If:
		return are(n.Kids, Expr, block) || are(n.Kids, Expr, block, otherwise)
	case api.While:
		return are(n.Kids, Expr, block)
	case api.Return:
		return are(n.Kids) || are(n.Kids, Expr)
	case api.Print:
		return are(n.Kids, Expr)
	case api.Do:
		return are(n.Kids, call)
	}
	return false
}

// block: is a node a block of statements?
func block(n api.Node) bool { return n.Kind == api.Block && Stmt(n) }

// otherwise: can a node stand behind else?
func otherwise(n api.Node) bool { return n.Kind == api.If && Stmt(n) || block(n) }

// call: is a node a call?
func call(n api.Node) bool { return n.Kind == api.Call && Expr(n) }

// Decl: is a node a declaration?
func Decl(n api.Node) bool {
	switch n.Kind {
	case api.Rec:
		return named(n) && len(n.Kids) > 0 && all(n.Kids, param)
	case api.Iso:
		return n.N >= 0 && isName(n.Name) && (are(n.Kids, Type) || are(n.Kids, Type, mergeName))
	case api.Fun:
		ahead := len(n.Kids) - 2
		return named(n) && ahead >= 0 && all(n.Kids[:ahead], param) && are(n.Kids[ahead:], answer, block)
	case api.Merge:
		return named(n) && are(n.Kids, param, param, param, block)
	}
	return false
}

// param: is a node a parameter, or a record's field?
func param(n api.Node) bool { return n.Kind == api.Param && named(n) && are(n.Kids, Type) }

// mergeName: is a node the name of what locations are merged by?
func mergeName(n api.Node) bool { return n.Kind == api.Name && Expr(n) }

// answer: is a node what a function answers, a type or nothing?
func answer(n api.Node) bool {
	return n.Kind == api.NoNode && bare(n) && are(n.Kids) || Type(n)
}

// Prog: is a node a program?
func Prog(n api.Node) bool {
	last := len(n.Kids) - 1
	return n.Kind == api.Prog && bare(n) && last >= 0 && all(n.Kids[:last], Decl) && block(n.Kids[last])
}

// bare: has a node neither a number nor a name?
func bare(n api.Node) bool { return n.N == 0 && n.Name == "" }

// named: has a node a right name, and no number?
func named(n api.Node) bool { return n.N == 0 && isName(n.Name) }

// are: are nodes of these sorts, one by one, and none beside?
func are(l []api.Node, sorts ...func(api.Node) bool) bool {
	if len(l) != len(sorts) {
		return false
	}
	for i, isOne := range sorts {
		if !isOne(l[i]) {
			return false
		}
	}
	return true
}

// all: are all nodes of a sort?
func all(l []api.Node, isOne func(api.Node) bool) bool {
	for _, n := range l {
		if !isOne(n) {
			return false
		}
	}
	return true
}

// isName: would a text be cut into one token, a name?
func isName(s string) bool {
	if s == "" || len(s) > api.MaxName || s[0] >= '0' && s[0] <= '9' {
		return false
	}
	for i := range len(s) {
		if !inName(s[i]) {
			return false
		}
	}
	return !word.Is(s)
}

// inName: is a byte a letter or a digit?
func inName(b byte) bool {
	return b >= 'a' && b <= 'z' || b >= 'A' && b <= 'Z' || b == '_' || b >= '0' && b <= '9'
}
