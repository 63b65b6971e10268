package data

import (
	"cmp"
	"slices"

	"mummer/api"
)

// Compare returns -1, 0 or 1: a is before b, is b, or comes after b.
func Compare(a, b []api.DtNode) (int, api.Errno) {
	c, e := treeOf(a)
	if e != api.OK {
		return 0, e
	}
	d, e := treeOf(b)
	if e != api.OK {
		return 0, e
	}
	return compareAt(c, d, 0, 0), api.OK
}

// compareAt compares the subtree of node i of a with that of node j of b.
func compareAt(a, b tree, i, j int) int {
	x, y := a.nodes[i], b.nodes[j]
	// Of N and S each kind has at most one; the other one is the same in both nodes.
	if order := cmp.Or(cmp.Compare(x.Kind, y.Kind), cmp.Compare(x.N, y.N), cmp.Compare(x.S, y.S)); order != 0 {
		return order
	}
	return slices.CompareFunc(slices.Collect(a.kids(i)), slices.Collect(b.kids(j)), func(i, j int) int {
		return compareAt(a, b, i, j)
	})
}

// Symbols returns all symbols of t, each once.
func Symbols(t []api.DtNode) ([]string, api.Errno) {
	if e := checkAll(t); e != api.OK {
		return nil, e
	}
	var l []string
	for _, n := range t {
		if n.Kind == api.DtSymbol {
			l = append(l, n.S)
		}
	}
	slices.Sort(l)
	return slices.Compact(l), api.OK
}

// Rename returns t, with the symbols of from replaced by those at the same places in to.
func Rename(t []api.DtNode, from, to []string) ([]api.DtNode, api.Errno) {
	if e := checkAll(t); e != api.OK {
		return nil, e
	}
	if len(from) != len(to) {
		return nil, api.ErrArg
	}
	for i := range from {
		if !Symbol(from[i]) || !Symbol(to[i]) {
			return nil, api.ErrForm
		}
	}
	if twice(from) {
		return nil, api.ErrTwice
	}
	u := slices.Clone(t)
	for i, n := range t {
		if place := placeOf(from, n.S); place >= 0 { // no symbol is empty, as the S of other kinds is
			u[i].S = to[place]
		}
	}
	return u, api.OK
}

// twice reports whether a string is in l twice.
func twice(l []string) bool {
	sorted := slices.Sorted(slices.Values(l))
	return len(slices.Compact(sorted)) < len(l)
}
