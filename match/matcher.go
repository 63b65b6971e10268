package match

import (
	"slices"

	"mummer/api"
	"mummer/binds"
	"mummer/data"
)

// head is the node of a pattern that stands for the macro.
const head = 1

// A table says what symbols mean.
type table []api.BnBind

// means reports whether the symbols a and b mean the same; what is ambiguous does not, not even as itself.
func (t table) means(a, b api.StNode) bool {
	same, e := binds.Same(t, api.BnBind{Name: a.S, Scopes: a.Scopes}, api.BnBind{Name: b.S, Scopes: b.Scopes})
	return same && e == api.OK
}

// literals are identifiers.
type literals []api.PaId

// has reports whether the symbol n is one of them.
func (l literals) has(n api.StNode) bool {
	return slices.Contains(l, api.PaId{S: n.S, Scopes: n.Scopes})
}

// A syntax has its nodes, and for each of them the index after its subtree.
type syntax struct {
	nodes []api.StNode
	after []int
}

// syntaxOf returns the syntax with these nodes, which are without error.
func syntaxOf(l []api.StNode) syntax {
	kids := make([]int, len(l))
	for i, n := range l {
		kids[i] = n.Kids
	}
	after, _ := data.Shape(kids)
	return syntax{nodes: l, after: after}
}

// elements returns the indices of the elements of node i.
func (s syntax) elements(i int) []int {
	var l []int
	for k := i + 1; k < s.after[i]; k = s.after[k] {
		l = append(l, k)
	}
	return l
}

// A matcher matches an input with the pattern of a rule; both are without error.
type matcher struct {
	table
	literals
	pattern, input syntax
}

// A mismatch is what the matcher panics with: the node of the input at which it is seen first that it does not match.
type mismatch struct{ node int }

// run returns what the variables of the pattern have, in their order; or, if the input does not match, where that is seen first.
func (m matcher) run() (has [][]api.MaNode, node int, ok bool) {
	defer func() {
		if end, is := recover().(mismatch); is {
			has, node, ok = nil, end.node, false
		}
	}()
	return m.element(0, 0), 0, true
}

// isDots reports whether node p of the pattern is an ellipsis.
func (m matcher) isDots(p int) bool { return p != head && m.pattern.nodes[p].S == "..." }

// isAny reports whether node p of the pattern matches anything, and is no variable.
func (m matcher) isAny(p int) bool { return p == head || m.pattern.nodes[p].S == "_" }

// isVar reports whether node p of the pattern is a variable.
func (m matcher) isVar(p int) bool {
	n := m.pattern.nodes[p]
	return n.Kind == api.StSymbol && !m.isDots(p) && !m.isAny(p) && !m.has(n)
}

// element matches node i of the input with node p of the pattern, and returns what the variables in p have.
func (m matcher) element(p, i int) [][]api.MaNode {
	want, n := m.pattern.nodes[p], m.input.nodes[i]
	same := n.Kind == want.Kind
	switch {
	case m.isAny(p):
		return nil
	case m.isVar(p):
		return [][]api.MaNode{{{Kids: -1, At: i}}}
	case same && want.Kind == api.StList:
		return m.list(p, i)
	case same && want.Kind == api.StSymbol && m.means(want, n):
		return nil
	case same && want.Kind != api.StSymbol && n.N == want.N:
		return nil
	}
	panic(mismatch{i})
}

// list is element for two lists.
func (m matcher) list(p, i int) [][]api.MaNode {
	places, given := m.pattern.elements(p), m.input.elements(i)
	dots := slices.IndexFunc(places, m.isDots)
	if dots < 0 {
		if len(given) != len(places) {
			panic(mismatch{i})
		}
		return m.row(places, given)
	}
	before, last := dots-1, places[dots+1:]
	after := len(given) - len(last)
	if after < before {
		panic(mismatch{i})
	}
	has := m.row(places[:before], given[:before])
	has = append(has, m.repeated(places[before], given[before:after])...)
	return append(has, m.row(last, given[after:])...)
}

// row matches elements of the input with as many of the pattern, each with the one in its place.
func (m matcher) row(places, given []int) [][]api.MaNode {
	var has [][]api.MaNode
	for k, p := range places {
		has = append(has, m.element(p, given[k])...)
	}
	return has
}

// repeated matches each of these elements of the input with the repeated element p.
func (m matcher) repeated(p int, given []int) [][]api.MaNode {
	var has [][]api.MaNode
	for k := p; k < m.pattern.after[p]; k++ {
		if m.isVar(k) {
			has = append(has, []api.MaNode{{Kids: len(given)}})
		}
	}
	for _, i := range given {
		join(has, m.element(p, i))
	}
	return has
}

// join puts each list of more behind the list in its place.
func join[T any](lists, more [][]T) {
	for k, l := range more {
		lists[k] = append(lists[k], l...)
	}
}
