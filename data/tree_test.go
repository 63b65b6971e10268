package data_test

import (
	"math"
	"slices"
	"testing"

	"mummer/api"
	"mummer/data"
)

// A nest is a datum with its elements in it.
type nest struct {
	node api.DtNode
	kids []nest
}

// flat returns the nodes of d.
func (d nest) flat() []api.DtNode {
	l := []api.DtNode{d.node}
	for _, kid := range d.kids {
		l = append(l, kid.flat()...)
	}
	return l
}

// listOf returns the list of kids.
func listOf(kids []nest) nest { return nest{li(len(kids)), kids} }

// at returns what has this path in d.
func (d nest) at(path []int) nest {
	for _, n := range path {
		d = d.kids[n]
	}
	return d
}

// with returns d, with s at this path.
func (d nest) with(path []int, s nest) nest {
	if len(path) == 0 {
		return s
	}
	kids := slices.Clone(d.kids)
	kids[path[0]] = kids[path[0]].with(path[1:], s)
	return nest{d.node, kids}
}

// paths returns the paths of all nodes of d, in their order.
func (d nest) paths() [][]int {
	l := [][]int{{}}
	for i, kid := range d.kids {
		for _, p := range kid.paths() {
			l = append(l, append([]int{i}, p...))
		}
	}
	return l
}

// rows returns all rows of data with n nodes together.
func rows(n int, leaves []api.DtNode) [][]nest {
	if n == 0 {
		return [][]nest{nil}
	}
	var l [][]nest
	for first := 1; first <= n; first++ {
		for _, d := range allOf(first, leaves) {
			for _, rest := range rows(n-first, leaves) {
				l = append(l, append([]nest{d}, rest...))
			}
		}
	}
	return l
}

// allOf returns all data with n nodes, with these leaves.
func allOf(n int, leaves []api.DtNode) []nest {
	var l []nest
	for _, leaf := range leaves {
		if n == 1 {
			l = append(l, nest{leaf, nil})
		}
	}
	for _, kids := range rows(n-1, leaves) {
		l = append(l, listOf(kids))
	}
	return l
}

// upTo returns all data with at most n nodes.
func upTo(n int, leaves ...api.DtNode) []nest {
	var l []nest
	for i := range n {
		l = append(l, allOf(i+1, leaves)...)
	}
	return l
}

// P4.2, P4.4, P4.7, P4.8: the nodes of all small data: their sizes, children, parents, depths and paths.
func TestNodes(t *testing.T) {
	for _, d := range slices.Concat(upTo(7, in(3)), upTo(5, sy("a"), bo(0))) {
		l, paths, depth := d.flat(), d.paths(), 0
		for i, p := range paths {
			depth = max(depth, len(p))
			checkNode(t, l, d.at(p), paths, i)
		}
		if n, e := data.Depth(l); n != depth || e != api.OK {
			t.Errorf("Depth(%v): %d, %d", l, n, e)
		}
		if node, e := data.Check(l); node != 0 || e != api.OK {
			t.Fatalf("Check(%v): %d, %d", l, node, e)
		}
	}
	for _, n := range []int{0, 1, 31, 32} {
		if got, e := data.Depth(chain(n, li(0))); got != n || e != api.OK {
			t.Errorf("Depth of %d lists in each other: %d, %d", n, got, e)
		}
	}
}

// checkNode holds what is said of node i of l against d, which is its subtree, and the paths of all nodes.
func checkNode(t *testing.T, l []api.DtNode, d nest, paths [][]int, i int) {
	t.Helper()
	size := len(d.flat())
	if n, e := data.Size(l, i); n != size || e != api.OK {
		t.Errorf("Size(%v, %d): %d, %d", l, i, n, e)
	}
	var kids []int
	together := 1
	for k, p := range paths {
		if len(p) == len(paths[i])+1 && slices.Equal(p[:len(p)-1], paths[i]) {
			kids = append(kids, k)
			n, _ := data.Size(l, k)
			together += n
		}
	}
	if got, e := data.Kids(l, i); !slices.Equal(got, kids) || e != api.OK {
		t.Errorf("Kids(%v, %d): %v, %d", l, i, got, e)
	}
	if together != size {
		t.Errorf("%v: node %d and its children have %d nodes, and it has %d", l, i, together, size)
	}
	parent, want := 0, api.ErrNone
	if i > 0 {
		parent = slices.IndexFunc(paths, func(p []int) bool { return slices.Equal(p, paths[i][:len(paths[i])-1]) })
		want = api.OK
	}
	if n, e := data.Parent(l, i); n != parent || e != want {
		t.Errorf("Parent(%v, %d): %d, %d", l, i, n, e)
	}
	if p, e := data.Path(l, i); !slices.Equal(p, paths[i]) || e != api.OK {
		t.Errorf("Path(%v, %d): %v, %d", l, i, p, e)
	}
	if n, e := data.At(l, paths[i]); n != i || e != api.OK {
		t.Errorf("At(%v, %v): %d, %d", l, paths[i], n, e)
	}
}

// P4.4, P4.8: paths that no node has, beside those that one has.
func TestAtAll(t *testing.T) {
	for _, d := range upTo(5, in(3)) {
		l, paths := d.flat(), d.paths()
		var grow func(p []int)
		grow = func(p []int) {
			node := slices.IndexFunc(paths, func(q []int) bool { return slices.Equal(p, q) })
			want := api.OK
			if node < 0 {
				node, want = 0, api.ErrNone
			}
			if n, e := data.At(l, p); n != node || e != want {
				t.Errorf("At(%v, %v): %d, %d", l, p, n, e)
			}
			for n := -1; n <= 4 && len(p) < 4; n++ {
				grow(append(slices.Clone(p), n))
			}
		}
		grow(nil)
	}
	for _, p := range [][]int{{math.MaxInt}, {math.MinInt}, {1, math.MaxInt}, {1, math.MinInt}, {3}, {0, 0}, make([]int, 100000)} {
		if n, e := data.At(example(), p); n != 0 || e != api.ErrNone {
			t.Errorf("At(%s): %d, %d", brief(p), n, e)
		}
	}
	deep := chain(32, in(1))
	if n, e := data.At(deep, make([]int, 32)); n != 32 || e != api.OK {
		t.Errorf("At of a deep node: %d, %d", n, e)
	}
	if n, e := data.At(deep, make([]int, 33)); n != 0 || e != api.ErrNone {
		t.Errorf("At below a deep node: %d, %d", n, e)
	}
	if p, e := data.Path(deep, 32); !slices.Equal(p, make([]int, 32)) || e != api.OK {
		t.Errorf("Path of a deep node: %v, %d", p, e)
	}
	if p, e := data.Path(wide(399), 399); !slices.Equal(p, []int{398}) || e != api.OK {
		t.Errorf("Path of the last node of many: %v, %d", p, e)
	}
}

// nodeErrors returns the errors of all functions with a node, if their other results are zero.
func nodeErrors(t *testing.T, l []api.DtNode, i int) []api.Errno {
	size, e1 := data.Size(l, i)
	kids, e2 := data.Kids(l, i)
	parent, e3 := data.Parent(l, i)
	sub, e4 := data.Sub(l, i)
	put, e5 := data.Put(l, i, []api.DtNode{in(1)})
	path, e6 := data.Path(l, i)
	if size != 0 || parent != 0 || len(kids)+len(sub)+len(put)+len(path) > 0 {
		t.Errorf("node %d of %s: other results are not zero", i, brief(l))
	}
	return []api.Errno{e1, e2, e3, e4, e5, e6}
}

// P4.2, P4.3, P4.4: nodes that are not there; what is wrong with a datum goes before that.
func TestNoNode(t *testing.T) {
	for _, d := range upTo(4, sy("a")) {
		l := d.flat()
		for _, i := range []int{math.MinInt, -1, len(l), len(l) + 1, 400, math.MaxInt} {
			if es := nodeErrors(t, l, i); !slices.Equal(es, slices.Repeat([]api.Errno{api.ErrNone}, 6)) {
				t.Errorf("node %d of %v: %v", i, l, es)
			}
		}
	}
	for _, l := range badData() {
		_, want := data.Check(l)
		for _, i := range []int{math.MinInt, -1, 0, 1, len(l), math.MaxInt} {
			if es := nodeErrors(t, l, i); !slices.Equal(es, slices.Repeat([]api.Errno{want}, 6)) {
				t.Errorf("node %d of %s: %v; want %d", i, brief(l), es, want)
			}
		}
	}
}

// shaped is P4.6 for numbers from 0 on: where the numbers from each one on have first as many nodes as they ask for.
func shaped(kids []int) ([]int, bool) {
	ends := make([]int, len(kids))
	for i := range kids {
		need, end := 1, i
		for need > 0 {
			if end == len(kids) {
				return nil, false
			}
			need += kids[end] - 1
			end++
		}
		ends[i] = end
	}
	return ends, len(kids) > 0 && ends[0] == len(kids)
}

func checkShape(t *testing.T, kids, want []int, wantErr api.Errno) {
	t.Helper()
	if ends, e := data.Shape(kids); !slices.Equal(ends, want) || e != wantErr {
		t.Errorf("Shape(%s): %s, %d; want %s, %d", brief(kids), brief(ends), e, brief(want), wantErr)
	}
}

// P4.6: all short lists of numbers.
func TestShapeShort(t *testing.T) {
	var grow func(kids []int)
	grow = func(kids []int) {
		ends, ok := []int(nil), !slices.Contains(kids, -1)
		want := api.ErrRange
		if ok {
			want = api.ErrForm
			if ends, ok = shaped(kids); ok {
				want = api.OK
			} else {
				ends = nil
			}
		}
		checkShape(t, kids, ends, want)
		for n := -1; n <= 4 && len(kids) < 6; n++ {
			grow(append(slices.Clone(kids), n))
		}
	}
	grow(nil)
}

// P4.6: the limit of nodes, trees that are deeper than data, and great numbers.
func TestShapeLimits(t *testing.T) {
	for _, n := range []int{401, 1999, 2000} {
		down, row, ends := slices.Repeat([]int{1}, n), make([]int, n), make([]int, n)
		down[n-1], row[0] = 0, n-1
		checkShape(t, down, slices.Repeat([]int{n}, n), api.OK)
		for i := range ends {
			ends[i] = i + 1
		}
		ends[0] = n
		checkShape(t, row, ends, api.OK)
		row[0]++
		checkShape(t, row, nil, api.ErrForm)
	}
	checkShape(t, slices.Repeat([]int{1}, 2000), nil, api.ErrForm)
	checkShape(t, append(slices.Repeat([]int{1}, 2000), 0), nil, api.ErrLong)
	checkShape(t, slices.Repeat([]int{-1}, 2001), nil, api.ErrLong)
	checkShape(t, slices.Repeat([]int{-1}, 2000), nil, api.ErrRange)
	checkShape(t, []int{}, nil, api.ErrForm)
	for _, n := range []int{3, 1 << 32, 1 << 62, math.MaxInt} {
		checkShape(t, []int{n}, nil, api.ErrForm)
		checkShape(t, []int{n, 0, 0}, nil, api.ErrForm)
		checkShape(t, []int{2, n, n, n, n}, nil, api.ErrForm)
		checkShape(t, []int{0, n}, nil, api.ErrForm)
		checkShape(t, []int{n, 0, -1}, nil, api.ErrRange)
		checkShape(t, []int{0, 0, -n}, nil, api.ErrRange)
	}
	checkShape(t, []int{0, math.MinInt}, nil, api.ErrRange)
}

// P4.6: Shape of the children of a datum says where its subtrees end.
func TestShapeData(t *testing.T) {
	for _, d := range upTo(6, in(3)) {
		l := d.flat()
		var kids, ends []int
		for i, n := range l {
			size, _ := data.Size(l, i)
			kids, ends = append(kids, n.Kids), append(ends, i+size)
		}
		checkShape(t, kids, ends, api.OK)
	}
}
