package show_test

import (
	"strings"
	"testing"

	"marline/api"
	"marline/parse"
	"marline/tree"
)

// mixer tells numbers that look as if they had been drawn, the same ones each time.
type mixer uint64

func (m *mixer) below(n int) int {
	*m = *m*6364136223846793005 + 1442695040888963407
	return int(uint64(*m) >> 33 % uint64(n))
}

// one is one of some words.
func (m *mixer) one(words string) string {
	l := strings.Fields(words)
	return l[m.below(len(l))]
}

func (m *mixer) name() string { return m.one("a b x len i1 _ P Q a_name_of_thirty_two_bytes_01234") }

// kids are up to most nodes that are made one by one.
func (m *mixer) kids(most int, made func(deep int) api.Node, deep int) []api.Node {
	var l []api.Node
	for range m.below(most + 1) {
		l = append(l, made(deep))
	}
	return l
}

func (m *mixer) typed(deep int) api.Node {
	if deep > 0 && m.below(3) == 0 {
		return node(api.TypArr, m.typed(deep-1))
	}
	kind := 1 + m.below(4)
	if kind == api.TypRec {
		return api.Node{Kind: kind, Name: m.name()}
	}
	return node(kind)
}

func (m *mixer) expr(deep int) api.Node {
	if deep == 0 || m.below(6) == 0 {
		return []api.Node{{Kind: api.Num, N: m.below(1 << m.below(31))}, {Kind: api.Flag, N: m.below(2)}, name(m.name())}[m.below(3)]
	}
	deep--
	switch m.below(9) {
	case 0:
		return node(api.Index, m.expr(deep), m.expr(deep))
	case 1:
		return api.Node{Kind: api.Field, Name: m.name(), Kids: []api.Node{m.expr(deep)}}
	case 2:
		return un(2+12*m.below(2), m.expr(deep))
	case 3:
		return api.Node{Kind: api.Call, Name: m.name(), Kids: m.kids(3, m.expr, deep)}
	case 4:
		return api.Node{Kind: api.Fork, Name: m.name(), Kids: m.kids(2, m.expr, deep)}
	case 5:
		return node(api.New, append([]api.Node{m.typed(2)}, m.kids(2, m.expr, deep)...)...)
	}
	return bin(1+m.below(13), m.expr(deep), m.expr(deep))
}

func (m *mixer) place(deep int) api.Node {
	if deep == 0 || m.below(3) == 0 {
		return name(m.name())
	}
	if m.below(2) == 0 {
		return node(api.Index, m.place(deep-1), m.expr(deep-1))
	}
	return api.Node{Kind: api.Field, Name: m.name(), Kids: []api.Node{m.place(deep - 1)}}
}

func (m *mixer) block(deep int) api.Node {
	return node(api.Block, m.kids(4, m.stmt, max(0, deep-1))...)
}

func (m *mixer) choice(deep int) api.Node {
	n := node(api.If, m.expr(2), m.block(deep))
	switch m.below(3) {
	case 0:
		n.Kids = append(n.Kids, m.block(deep))
	case 1:
		n.Kids = append(n.Kids, m.choice(max(0, deep-1)))
	}
	return n
}

func (m *mixer) stmt(deep int) api.Node {
	if deep > 0 && m.below(2) == 0 {
		return []func(int) api.Node{m.block, m.choice, func(deep int) api.Node { return node(api.While, m.expr(2), m.block(deep)) }}[m.below(3)](deep)
	}
	x := []api.Node{m.expr(m.below(5))}
	switch m.below(7) {
	case 0:
		return api.Node{Kind: api.Var, Name: m.name(), Kids: x}
	case 1:
		return node(api.Set, m.place(3), x[0])
	case 2:
		return node(api.Return, x...)
	case 3:
		return node(api.Return)
	case 4:
		return api.Node{Kind: api.Join, Name: m.name()}
	case 5:
		return node(api.Print, x...)
	}
	return node(api.Do, api.Node{Kind: api.Call, Name: m.name(), Kids: m.kids(3, m.expr, 2)})
}

func (m *mixer) param(deep int) api.Node {
	return api.Node{Kind: api.Param, Name: m.name(), Kids: []api.Node{m.typed(deep)}}
}

func (m *mixer) decl(deep int) api.Node {
	n := api.Node{Kind: api.Rec + m.below(4), Name: m.name()}
	switch n.Kind {
	case api.Rec:
		n.Kids = append(m.kids(3, m.param, 3), m.param(1))
	case api.Iso:
		n.N = m.below(3) * m.below(40)
		n.Kids = append([]api.Node{m.typed(3)}, []api.Node{name(m.name())}[m.below(2):]...)
	case api.Fun:
		n.Kids = append(m.kids(3, m.param, 2), []api.Node{{}, m.typed(2)}[m.below(2)], m.block(deep))
	default:
		n.Kids = []api.Node{m.param(1), m.param(2), m.param(0), m.block(deep)}
	}
	return n
}

// prog is a program, now and then with many declarations, or with many blocks in
// one another, so that it is too long or too deep.
func (m *mixer) prog(deep int) api.Node {
	var l []api.Node
	for range 1 + m.below(4)/3*m.below(60) {
		l = append(l, m.kids(5, m.decl, deep)...)
	}
	main := m.block(deep)
	for range m.below(4) / 3 * m.below(70) {
		main = node(api.Block, main)
	}
	return node(api.Prog, append(l, main)...)
}

// TestMixed: 16.1 to 16.3, long nodes of each sort, by mixed choices: told as the
// chapter says, told anew, and read from their texts again.
func TestMixed(t *testing.T) {
	m := mixer(16)
	made := []func(deep int) api.Node{m.typed, m.expr, m.stmt, m.decl, m.prog}
	faults := map[api.Errno]int{}
	for turn := 0; turn < 3000 && !t.Failed(); turn++ {
		k, depth := turn%len(sorts), 0
		sort, n := sorts[k], made[k](1+turn/len(sorts)%6)
		if sort == "stmt" {
			depth = m.below(5)
		}
		want := told(sort, n, depth)
		is(t, sort, n, depth, want)
		if len(want) <= api.MaxSrc && !tree.Same(reads(sort, want), n) {
			t.Errorf("%.200q is not read as %.200s", want, look(n))
		}
		if sort != "prog" {
			continue
		}
		_, fault := parse.Prog(want)
		fits(t, n, fault.Why == api.OK)
		faults[fault.Why]++
	}
	if faults[api.OK] < 10 || faults[api.ErrLong] < 10 || faults[api.ErrDeep] < 10 || len(faults) > 3 {
		t.Error(faults)
	}
}
