package printer_test

import (
	"strconv"
	"strings"

	"mummer/api"
)

func in(n int64) api.DtNode  { return api.DtNode{Kind: api.DtInt, N: n} }
func bo(n int64) api.DtNode  { return api.DtNode{Kind: api.DtBool, N: n} }
func sy(s string) api.DtNode { return api.DtNode{Kind: api.DtSymbol, S: s} }
func li(kids int) api.DtNode { return api.DtNode{Kind: api.DtList, Kids: kids} }

func sp(from, to int) api.SpSpan { return api.SpSpan{From: from, To: to} }

// A nest is a datum with its elements in it.
type nest struct {
	node api.DtNode
	kids []nest
}

func leaf(n api.DtNode) nest { return nest{node: n} }

func listOf(kids ...nest) nest { return nest{li(len(kids)), kids} }

// flat returns the nodes of d.
func (d nest) flat() []api.DtNode {
	l := []api.DtNode{d.node}
	for _, kid := range d.kids {
		l = append(l, kid.flat()...)
	}
	return l
}

// text is the definition of the text of a datum.
func (d nest) text() string {
	switch d.node.Kind {
	case api.DtInt:
		return strconv.Itoa(int(d.node.N))
	case api.DtBool:
		return []string{"#f", "#t"}[d.node.N]
	case api.DtSymbol:
		return d.node.S
	}
	var l []string
	for _, kid := range d.kids {
		l = append(l, kid.text())
	}
	return "(" + strings.Join(l, " ") + ")"
}

// where is the definition of the spans of the nodes, where the text of d begins at the byte at.
func (d nest) where(at int) []api.SpSpan {
	l := []api.SpSpan{sp(at, at+len(d.text()))}
	at++
	for _, kid := range d.kids {
		l = append(l, kid.where(at)...)
		at += len(kid.text()) + 1
	}
	return l
}

// layout is the definition of the layout of a datum.
func (d nest) layout(width, column, brackets int) string {
	text := d.text()
	if column+len(text)+brackets <= width || len(d.kids) == 0 {
		return text
	}
	s := "("
	for i, kid := range d.kids {
		if i > 0 {
			s += "\n" + strings.Repeat(" ", column+1)
		}
		after := 0
		if i == len(d.kids)-1 {
			after = brackets + 1
		}
		s += kid.layout(width, column+1, after)
	}
	return s + ")"
}

// lines is the definition of the lines of a datum.
func (d nest) lines(width int) []string {
	return strings.Split(d.layout(width, 0, 0), "\n")
}

// rows returns all rows of data with n nodes together.
func rows(n int, leaves []api.DtNode) [][]nest {
	if n == 0 {
		return [][]nest{nil}
	}
	var l [][]nest
	for first := 1; first <= n; first++ {
		for _, d := range allOf(first, leaves) {
			for _, rest := range rows(n-first, leaves) {
				l = append(l, append([]nest{d}, rest...))
			}
		}
	}
	return l
}

// allOf returns all data with n nodes, with these leaves.
func allOf(n int, leaves []api.DtNode) []nest {
	var l []nest
	for _, x := range leaves {
		if n == 1 {
			l = append(l, leaf(x))
		}
	}
	for _, kids := range rows(n-1, leaves) {
		l = append(l, listOf(kids...))
	}
	return l
}

// upTo returns all data with at most n nodes, with these leaves.
func upTo(n int, leaves ...api.DtNode) []nest {
	var l []nest
	for i := 1; i <= n; i++ {
		l = append(l, allOf(i, leaves)...)
	}
	return l
}

// A dice throws numbers that follow from how it begins.
type dice uint64

func (d *dice) below(n int) int {
	*d = *d*6364136223846793005 + 1442695040888963407
	return int(*d>>33) % n
}

// grown returns a datum of at most n nodes and so many levels of lists.
func (d *dice) grown(n, levels int) nest {
	if n == 1 || levels == 0 || d.below(4) == 0 {
		return leaf([]api.DtNode{in(int64(d.below(2000)) - 1000), bo(int64(d.below(2))), sy(strings.Repeat("é", 1+d.below(12))), sy("a"), sy("define"), li(0)}[d.below(6)])
	}
	var kids []nest
	for n--; n > 0 && d.below(8) > 0; {
		kid := d.grown(1+d.below(n), levels-1)
		kids = append(kids, kid)
		n -= len(kid.flat())
	}
	return listOf(kids...)
}
