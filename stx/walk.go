package stx

import (
	"strconv"

	"mummer/api"
	"mummer/scopes"
)

// walk calls visit with each node of l, in their order, up to the first one with an error; it returns this one, and its error.
func walk(l []api.StNode, visit func(i int, n api.StNode) api.Errno) (node int, e api.Errno) {
	for i, n := range l {
		if e := visit(i, n); e != api.OK {
			return i, e
		}
	}
	return 0, api.OK
}

// lists are those that the next node of a walk is in, the outermost first: how many elements of each have not begun. The last one of them is never 0: the next node is its element.
type lists []int

// count counts a node with so many children, and returns how many lists end with it.
func (l *lists) count(kids int) int {
	around := *l
	last := len(around) - 1
	if last >= 0 {
		around[last]--
	}
	if kids > 0 {
		*l = append(around, kids)
		return 0
	}
	for last >= 0 && around[last] == 0 {
		last--
	}
	*l = around[:last+1]
	return len(around) - len(*l)
}

// Add returns l, in which each node has the scope, too.
func Add(l []api.StNode, scope int) ([]api.StNode, api.Errno) {
	return changed(l, change{scope: scope, with: scopes.Add})
}

// Flip returns l, in which the scope is flipped in each node.
func Flip(l []api.StNode, scope int) ([]api.StNode, api.Errno) {
	return changed(l, change{scope: scope, with: scopes.Flip})
}

// A change has the nodes that were walked over, with the scopes that with makes of theirs.
type change struct {
	scope int
	with  func(s string, id int) (string, api.Errno)
	nodes []api.StNode
}

// visit changes the scopes of the next node.
func (c *change) visit(_ int, n api.StNode) api.Errno {
	s, e := c.with(n.Scopes, c.scope)
	n.Scopes = s
	c.nodes = append(c.nodes, n)
	return e
}

// changed returns l as c changes it.
func changed(l []api.StNode, c change) ([]api.StNode, api.Errno) {
	if e := checkAll(l); e != api.OK {
		return nil, e
	}
	if _, e := walk(l, c.visit); e != api.OK {
		return nil, e
	}
	return c.nodes, api.OK
}

// Print returns the text of l.
func Print(l []api.StNode) (string, api.Errno) {
	if e := checkAll(l); e != api.OK {
		return "", e
	}
	var p printing
	if _, e := walk(l, p.visit); e != api.OK {
		return "", e
	}
	return string(p.text), api.OK
}

// A printing has the text of the nodes that were walked over.
type printing struct {
	around lists
	text   []byte
}

// visit writes the next node, with all that stands before the one after it.
func (p *printing) visit(_ int, n api.StNode) api.Errno {
	if n.Kids > 0 {
		p.text = append(p.text, '(')
		p.around.count(n.Kids)
		return api.OK
	}
	s, e := leaf(n)
	p.text = append(p.text, s...)
	for range p.around.count(0) {
		p.text = append(p.text, ')')
	}
	if len(p.around) > 0 {
		p.text = append(p.text, ' ')
	}
	return e
}

// leaf returns the text of a node without children.
func leaf(n api.StNode) (string, api.Errno) {
	switch {
	case n.Kind == api.StList:
		return "()", api.OK
	case n.Kind == api.StInt:
		return strconv.FormatInt(n.N, 10), api.OK
	case n.Kind == api.StSymbol:
		s, e := scopes.Print(n.Scopes)
		return n.S + "{" + s + "}", e
	case n.N == 1:
		return "#t", api.OK
	}
	return "#f", api.OK
}
