package pattern

import (
	"iter"

	"mummer/api"
	"mummer/data"
)

// A spot is where a node stands in a pattern.
type spot struct {
	depth int  // how many repeated elements it is in, itself included
	stray bool // an ellipsis may not stand here
}

// first returns the index of the first element of the list at this node that is looked at: the macro's symbol is not.
func first(node int) int {
	if node == 0 {
		return 2
	}
	return node + 1
}

// ends returns, for each node of p, which is syntax, the index after its subtree.
func ends(p []api.StNode) []int {
	kids := make([]int, len(p))
	for i, n := range p {
		kids[i] = n.Kids
	}
	after, _ := data.Shape(kids)
	return after
}

// elements yields the indices of the elements of the list at this node that are looked at.
func elements(p []api.StNode, node int) iter.Seq[int] {
	return func(yield func(int) bool) {
		after := ends(p)
		for i := first(node); i < after[node]; i = after[i] {
			if !yield(i) {
				return
			}
		}
	}
}

// A list is one that the next node of a walk may be in.
type list struct {
	first, end, depth int
	dots              bool // there is an ellipsis in it before that node
}

// spots yields the nodes of p, from the second element on, each with its spot. The head of p is without error.
func spots(p []api.StNode) iter.Seq2[int, spot] {
	return func(yield func(int, spot) bool) {
		after := ends(p)
		around := []list{{first: first(0), end: len(p)}}
		for i := first(0); i < len(p); i++ {
			for around[len(around)-1].end == i {
				around = around[:len(around)-1]
			}
			in := &around[len(around)-1]
			s := spot{depth: in.depth, stray: in.dots || i == in.first}
			in.dots = in.dots || isEllipsis(p[i])
			if next := after[i]; next < in.end && isEllipsis(p[next]) {
				s.depth++
			}
			if !yield(i, s) {
				return
			}
			if p[i].Kind == api.StList {
				around = append(around, list{first: i + 1, end: after[i], depth: s.depth})
			}
		}
	}
}
