package show_test

import (
	"slices"
	"strconv"
	"strings"

	"marline/api"
)

// told is a right node's text as the chapter's section Words says it, told anew.
func told(sort string, n api.Node, depth int) string {
	switch sort {
	case "type":
		return toldType(n)
	case "expr":
		return toldExpr(n)
	case "stmt":
		return joined(toldStmt(n), depth)
	case "decl":
		return joined(toldDecl(n), 0)
	}
	return joined(toldProg(n), 0)
}

// joined are lines as a text, with tabs ahead.
func joined(lines []string, tabs int) string {
	s := ""
	for _, line := range lines {
		s += rep("\t", tabs) + line + "\n"
	}
	return s
}

func toldType(n api.Node) string {
	words := map[int]string{1: "int", 2: "bool", 3: "rev", 4: n.Name}
	if n.Kind == 5 {
		return "[]" + toldType(n.Kids[0])
	}
	return words[n.Kind]
}

// kid is the text of an expression's kid, in brackets, if it is of one of some
// kinds.
func kid(n api.Node, kinds ...int) string {
	return in(slices.Contains(kinds, n.Kind), toldExpr(n))
}

func toldExpr(n api.Node) string {
	switch n.Kind {
	case 10:
		return strconv.Itoa(n.N)
	case 11:
		return []string{"false", "true"}[n.N]
	case 12:
		return n.Name
	case 13:
		return kid(n.Kids[0], 15, 16) + "[" + kid(n.Kids[1]) + "]"
	case 14:
		return kid(n.Kids[0], 15, 16) + "." + n.Name
	case 15:
		return sign(n.N) + kid(n.Kids[0], 16)
	case 16:
		first, second := n.Kids[0], n.Kids[1]
		less := first.Kind == 16 && (tight(first.N) < tight(n.N) || tight(first.N) == 3 && tight(n.N) == 3)
		most := second.Kind == 16 && tight(second.N) <= tight(n.N)
		return in(less, toldExpr(first)) + " " + sign(n.N) + " " + in(most, toldExpr(second))
	case 17:
		return n.Name + toldArgs(n.Kids)
	case 18:
		return "fork " + n.Name + toldArgs(n.Kids)
	}
	return "new " + toldType(n.Kids[0]) + toldArgs(n.Kids[1:])
}

func toldArgs(l []api.Node) string {
	var texts []string
	for _, n := range l {
		texts = append(texts, toldExpr(n))
	}
	return "(" + strings.Join(texts, ", ") + ")"
}

// body are the lines of what ends with a block, ahead of which stands a text.
func body(head string, block api.Node) []string {
	lines := []string{head + "{"}
	for _, n := range block.Kids {
		for _, line := range toldStmt(n) {
			lines = append(lines, "\t"+line)
		}
	}
	return append(lines, "}")
}

// toldStmt are a statement's lines at the depth 0.
func toldStmt(n api.Node) []string {
	texts := make([]string, 2)
	if n.Kind != 30 {
		for i, k := range n.Kids {
			if i < 2 && k.Kind < 30 {
				texts[i] = toldExpr(k)
			}
		}
	}
	switch n.Kind {
	case 30:
		return body("", n)
	case 31:
		return []string{"var " + n.Name + " = " + texts[0] + ";"}
	case 32:
		return []string{texts[0] + " = " + texts[1] + ";"}
	case 33:
		lines := body("if "+texts[0]+" ", n.Kids[1])
		if len(n.Kids) == 2 {
			return lines
		}
		more := toldStmt(n.Kids[2])
		more[0] = "} else " + more[0]
		return append(lines[:len(lines)-1], more...)
	case 34:
		return body("while "+texts[0]+" ", n.Kids[1])
	case 35:
		if len(n.Kids) == 0 {
			return []string{"return;"}
		}
		return []string{"return " + texts[0] + ";"}
	case 36:
		return []string{"join " + n.Name + ";"}
	case 37:
		return []string{"print " + texts[0] + ";"}
	}
	return []string{texts[0] + ";"}
}

// params are the texts of names with types.
func params(l []api.Node) []string {
	var texts []string
	for _, n := range l {
		texts = append(texts, n.Name+" "+toldType(n.Kids[0]))
	}
	return texts
}

func toldDecl(n api.Node) []string {
	last := len(n.Kids) - 1
	switch n.Kind {
	case 51:
		return []string{"rec " + n.Name + " {", "\t" + strings.Join(params(n.Kids), ";\n\t") + ";", "}"}
	case 52:
		many, by := "["+strconv.Itoa(n.N)+"]", ""
		if n.N == 0 {
			many = ""
		}
		if last == 1 {
			by = " by " + n.Kids[1].Name
		}
		return []string{"iso " + n.Name + many + " " + toldType(n.Kids[0]) + by + ";"}
	case 53:
		answer := toldType(n.Kids[last-1])
		if answer != "" {
			answer += " "
		}
		return body("fun "+n.Name+"("+strings.Join(params(n.Kids[:last-1]), ", ")+") "+answer, n.Kids[last])
	}
	return body("merge "+n.Name+"("+strings.Join(params(n.Kids[:last]), ", ")+") ", n.Kids[last])
}

func toldProg(n api.Node) []string {
	var lines []string
	last := len(n.Kids) - 1
	for _, d := range n.Kids[:last] {
		lines = append(lines, toldDecl(d)...)
	}
	return append(lines, body("main ", n.Kids[last])...)
}
