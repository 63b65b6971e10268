package printer

import (
	"strings"

	"mummer/api"
)

// A printed is a datum with its text, and the span of each node in it.
type printed struct {
	nodes []api.DtNode
	text  string
	spans []api.SpSpan
}

// A list is one whose elements are laid out in lines of their own: how many of them are still to come, and how many brackets are after it.
type list struct{ left, after int }

// lines returns the lines of d in this width.
func (d printed) lines(width int) []string {
	var lines []string
	line := ""
	// The lists around the node, the innermost last. Each begins a column after the one around it, so that their number is the column.
	var around []list
	node := 0
layout:
	for {
		s, after := d.spans[node], bracketsAfter(around)
		if d.nodes[node].Kids > 0 && len(around)+s.To-s.From+after > width {
			line += "("
			around = append(around, list{d.nodes[node].Kids, after})
			node++
			continue
		}
		line += d.text[s.From:s.To]
		node = d.next(node)
		for column := len(around); column > 0; column-- {
			inner := &around[column-1]
			inner.left--
			if inner.left > 0 {
				lines = append(lines, line)
				line = strings.Repeat(" ", column)
				continue layout
			}
			line += ")"
			around = around[:column-1]
		}
		return append(lines, line)
	}
}

// bracketsAfter returns how many brackets are after the next element of the innermost one of these lists.
func bracketsAfter(around []list) int {
	if n := len(around); n > 0 && around[n-1].left == 1 {
		return around[n-1].after + 1
	}
	return 0
}

// next returns the first node after the subtree of this one.
func (d printed) next(node int) int {
	end := d.spans[node].To
	for node < len(d.nodes) && d.spans[node].From < end {
		node++
	}
	return node
}
