package data

import (
	"iter"
	"slices"

	"mummer/api"
)

// A tree is a datum, with the index after the subtree of each node.
type tree struct {
	nodes []api.DtNode
	ends  []int
}

// treeOf returns t as a tree, or the error of Check.
func treeOf(t []api.DtNode) (tree, api.Errno) {
	if _, e := Check(t); e != api.OK {
		return tree{}, e
	}
	kids := make([]int, len(t))
	for i, n := range t {
		kids[i] = n.Kids
	}
	ends, _ := endsOf(kids)
	return tree{nodes: t, ends: ends}, api.OK
}

// treeWith is treeOf for a datum that is to have a node i.
func treeWith(t []api.DtNode, i int) (tree, api.Errno) {
	d, e := treeOf(t)
	if e != api.OK {
		return tree{}, e
	}
	if i < 0 || i >= len(t) {
		return tree{}, api.ErrNone
	}
	return d, api.OK
}

// kids yields the children of node i.
func (d tree) kids(i int) iter.Seq[int] {
	return func(yield func(int) bool) {
		for kid := i + 1; kid < d.ends[i]; kid = d.ends[kid] {
			if !yield(kid) {
				return
			}
		}
	}
}

// parent returns the node whose child node i, which is not the root, is: the last one before it whose subtree has not ended there.
func (d tree) parent(i int) int {
	p := i - 1
	for d.ends[p] <= i {
		p--
	}
	return p
}

// endsOf returns the index after the subtree of each node; ok: the numbers of children are those of one flat tree.
func endsOf(kids []int) (ends []int, ok bool) {
	ends = make([]int, len(kids))
	next := 0
	var walk func() bool
	walk = func() bool {
		if next == len(kids) { // also what keeps a number of children that is too great from being counted to its end
			return false
		}
		node := next
		next++
		for range kids[node] {
			if !walk() {
				return false
			}
		}
		ends[node] = next
		return true
	}
	if !walk() || next < len(kids) {
		return nil, false
	}
	return ends, true
}

// placeOf returns the index of the first element of l that is x, -1 if none is.
func placeOf[T comparable](l []T, x T) int {
	for i, y := range l {
		if y == x {
			return i
		}
	}
	return -1
}

// Shape returns the index after the subtree of each node of the flat tree whose nodes have these numbers of children.
func Shape(kids []int) (ends []int, e api.Errno) {
	if len(kids) > api.MaxNodes {
		return nil, api.ErrLong
	}
	for _, n := range kids {
		if n < 0 {
			return nil, api.ErrRange
		}
	}
	ends, ok := endsOf(kids)
	if !ok {
		return nil, api.ErrForm
	}
	return ends, api.OK
}

// Size returns how many nodes the subtree of node i has.
func Size(t []api.DtNode, i int) (int, api.Errno) {
	d, e := treeWith(t, i)
	if e != api.OK {
		return 0, e
	}
	return d.ends[i] - i, api.OK
}

// Kids returns the indices of the children of node i.
func Kids(t []api.DtNode, i int) ([]int, api.Errno) {
	d, e := treeWith(t, i)
	if e != api.OK {
		return nil, e
	}
	return slices.Collect(d.kids(i)), api.OK
}

// Parent returns the node whose child node i is.
func Parent(t []api.DtNode, i int) (int, api.Errno) {
	d, e := treeWith(t, i)
	if e != api.OK {
		return 0, e
	}
	if i == 0 {
		return 0, api.ErrNone
	}
	return d.parent(i), api.OK
}

// Depth returns the greatest depth of a node.
func Depth(t []api.DtNode) (int, api.Errno) {
	d, e := treeOf(t)
	if e != api.OK {
		return 0, e
	}
	depths := make([]int, len(t))
	for i := range t {
		for kid := range d.kids(i) {
			depths[kid] = depths[i] + 1
		}
	}
	return slices.Max(depths), api.OK
}

// Path returns which child of the root node i is in, then which child of this one, and so on.
func Path(t []api.DtNode, i int) ([]int, api.Errno) {
	d, e := treeWith(t, i)
	if e != api.OK {
		return nil, e
	}
	var path []int
	for i > 0 {
		parent := d.parent(i)
		path = append(path, placeOf(slices.Collect(d.kids(parent)), i))
		i = parent
	}
	slices.Reverse(path)
	return path, api.OK
}

// At returns the node that has this path.
func At(t []api.DtNode, path []int) (int, api.Errno) {
	d, e := treeOf(t)
	if e != api.OK {
		return 0, e
	}
	node := 0
	for _, n := range path {
		kids := slices.Collect(d.kids(node))
		if n < 0 || n >= len(kids) {
			return 0, api.ErrNone
		}
		node = kids[n]
	}
	return node, api.OK
}
