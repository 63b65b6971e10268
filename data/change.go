package data

import (
	"slices"

	"mummer/api"
)

// Sub returns the subtree of node i.
func Sub(t []api.DtNode, i int) ([]api.DtNode, api.Errno) {
	d, e := treeWith(t, i)
	if e != api.OK {
		return nil, e
	}
	return slices.Clone(t[i:d.ends[i]]), api.OK
}

// Put returns t, in which s stands instead of the subtree of node i.
func Put(t []api.DtNode, i int, s []api.DtNode) ([]api.DtNode, api.Errno) {
	if e := checkAll(t, s); e != api.OK {
		return nil, e
	}
	d, e := treeWith(t, i)
	if e != api.OK {
		return nil, e
	}
	return made(slices.Concat(t[:i], s, t[d.ends[i]:]))
}

// List returns the list of all parts.
func List(parts [][]api.DtNode) ([]api.DtNode, api.Errno) {
	if e := checkAll(parts...); e != api.OK {
		return nil, e
	}
	l := []api.DtNode{{Kind: api.DtList, Kids: len(parts)}}
	for _, part := range parts {
		l = append(l, part...)
	}
	return made(l)
}

// checkAll returns the error of the first of these that is no datum.
func checkAll(l ...[]api.DtNode) api.Errno {
	for _, t := range l {
		if _, e := Check(t); e != api.OK {
			return e
		}
	}
	return api.OK
}

// made returns t, which was put together of data, unless it is too large or too deep.
func made(t []api.DtNode) ([]api.DtNode, api.Errno) {
	if _, e := Check(t); e != api.OK {
		return nil, e
	}
	return t, api.OK
}
