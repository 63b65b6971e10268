package match

import "mummer/api"

// Check returns OK if b has a tree of its depth.
func Check(b api.MaBind) api.Errno {
	if b.Depth < 0 || b.Depth > api.MaxPaDepth {
		return api.ErrForm
	}
	if after, ok := behind(b.Tree, 0, b.Depth); !ok || after != len(b.Tree) {
		return api.ErrForm
	}
	return api.OK
}

// behind returns the index after the subtree of node i, if there is one whose leaves are so much deeper.
func behind(tree []api.MaNode, i, depth int) (after int, ok bool) {
	if i >= len(tree) {
		return 0, false
	}
	n := tree[i]
	after = i + 1
	if depth == 0 {
		return after, n.Kids == -1 && n.At >= 0
	}
	if n.Kids < 0 || n.At != 0 {
		return 0, false
	}
	for range n.Kids {
		if after, ok = behind(tree, after, depth-1); !ok {
			return 0, false
		}
	}
	return after, true
}

// Leaves returns the nodes of the input that b has.
func Leaves(b api.MaBind) ([]int, api.Errno) {
	if e := Check(b); e != api.OK {
		return nil, e
	}
	var l []int
	for _, n := range b.Tree {
		if n.Kids == -1 {
			l = append(l, n.At)
		}
	}
	return l, api.OK
}

// Count returns how many there are below the node of b with this path.
func Count(b api.MaBind, path []int) (many int, e api.Errno) {
	if e := Check(b); e != api.OK {
		return 0, e
	}
	node, depth := 0, b.Depth
	for _, place := range path {
		// A leaf has no children, and -1 of them here.
		if place < 0 || place >= b.Tree[node].Kids {
			return 0, api.ErrNone
		}
		node++
		depth--
		for range place {
			node, _ = behind(b.Tree, node, depth)
		}
	}
	if depth == 0 {
		return 0, api.ErrNone
	}
	return b.Tree[node].Kids, api.OK
}
