package stx

import (
	"slices"

	"mummer/api"
)

// checkWith returns the error of Check for l, or ErrNone if it has no node i.
func checkWith(l []api.StNode, i int) api.Errno {
	if e := checkAll(l); e != api.OK {
		return e
	}
	if i < 0 || i >= len(l) {
		return api.ErrNone
	}
	return api.OK
}

// subtree returns the subtree of node i of the syntax l: a part of l that does not grow into the rest.
func subtree(l []api.StNode, i int) []api.StNode {
	end := i
	for missing := 1; missing > 0; end++ {
		missing += l[end].Kids - 1
	}
	return l[i:end:end]
}

// Size returns how many nodes the subtree of node i has.
func Size(l []api.StNode, i int) (int, api.Errno) {
	if e := checkWith(l, i); e != api.OK {
		return 0, e
	}
	return len(subtree(l, i)), api.OK
}

// Kids returns the indices of the children of node i.
func Kids(l []api.StNode, i int) ([]int, api.Errno) {
	if e := checkWith(l, i); e != api.OK {
		return nil, e
	}
	var kids []int
	next := i + 1
	for range l[i].Kids {
		kids = append(kids, next)
		next += len(subtree(l, next))
	}
	return kids, api.OK
}

// Sub returns the subtree of node i.
func Sub(l []api.StNode, i int) ([]api.StNode, api.Errno) {
	if e := checkWith(l, i); e != api.OK {
		return nil, e
	}
	return slices.Clone(subtree(l, i)), api.OK
}

// Put returns l, in which s stands instead of the subtree of node i.
func Put(l []api.StNode, i int, s []api.StNode) ([]api.StNode, api.Errno) {
	if e := checkAll(l, s); e != api.OK {
		return nil, e
	}
	if e := checkWith(l, i); e != api.OK {
		return nil, e
	}
	after := i + len(subtree(l, i))
	return made(slices.Concat(l[:i], s, l[after:]))
}

// List returns the list of all parts; its node has the scopes, the span and the origin of like.
func List(parts [][]api.StNode, like api.StNode) ([]api.StNode, api.Errno) {
	if e := checkAll(parts...); e != api.OK {
		return nil, e
	}
	root := api.StNode{Kind: api.StList, Kids: len(parts), Scopes: like.Scopes, Span: like.Span, Origin: like.Origin}
	l := []api.StNode{root}
	for _, part := range parts {
		l = append(l, part...)
		if len(l) > api.MaxNodes { // more nodes would only take memory
			return nil, api.ErrLong
		}
	}
	return made(l)
}

// made returns l, which was put together, if it is syntax.
func made(l []api.StNode) ([]api.StNode, api.Errno) {
	if e := checkAll(l); e != api.OK {
		return nil, e
	}
	return l, api.OK
}
