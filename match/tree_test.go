package match_test

import (
	"fmt"
	"math"
	"slices"
	"testing"

	"mummer/api"
	"mummer/match"
)

// A shape is what a variable has: a leaf, or what is below a node.
type shape struct {
	leaf bool
	at   int
	kids []shape
}

// flat returns the tree of s.
func (s shape) flat() []api.MaNode {
	if s.leaf {
		return tree(leaf(s.at))
	}
	l := tree(times(len(s.kids)))
	for _, k := range s.kids {
		l = append(l, k.flat()...)
	}
	return l
}

// leaves returns the nodes that s has.
func (s shape) leaves() []int {
	if s.leaf {
		return []int{s.at}
	}
	var l []int
	for _, k := range s.kids {
		l = append(l, k.leaves()...)
	}
	return l
}

// count is the definition of Count.
func (s shape) count(path []int) (int, api.Errno) {
	switch {
	case s.leaf:
		return 0, api.ErrNone
	case len(path) == 0:
		return len(s.kids), api.OK
	case path[0] < 0 || path[0] >= len(s.kids):
		return 0, api.ErrNone
	}
	return s.kids[path[0]].count(path[1:])
}

// shapes returns all shapes of this depth with n nodes, whose leaves are 0 and 1.
func shapes(depth, n int) []shape {
	if depth == 0 {
		if n == 1 {
			return []shape{{leaf: true}, {leaf: true, at: 1}}
		}
		return nil
	}
	if n == 0 {
		return nil
	}
	var all []shape
	for _, kids := range forests(depth-1, n-1) {
		all = append(all, shape{kids: kids})
	}
	return all
}

// forests returns all lists of shapes of this depth with n nodes in all.
func forests(depth, n int) [][]shape {
	if n == 0 {
		return [][]shape{nil}
	}
	var all [][]shape
	for first := 1; first <= n; first++ {
		for _, s := range shapes(depth, first) {
			for _, rest := range forests(depth, n-first) {
				all = append(all, append([]shape{s}, rest...))
			}
		}
	}
	return all
}

// goodTrees returns the texts of all trees of this depth with at most n nodes, whose leaves are 0 and 1.
func goodTrees(depth, n int) map[string]bool {
	good := map[string]bool{}
	for k := range n + 1 {
		if depth < 0 || depth > 3 {
			break
		}
		for _, s := range shapes(depth, k) {
			good[fmt.Sprint(s.flat())] = true
		}
	}
	return good
}

// allTrees calls f with all lists of at most n of these nodes.
func allTrees(n int, of []api.MaNode, f func([]api.MaNode)) {
	var grow func(l []api.MaNode)
	grow = func(l []api.MaNode) {
		f(l)
		for _, x := range of {
			if len(l) < n {
				grow(append(slices.Clone(l), x))
			}
		}
	}
	grow(nil)
}

// wantTree fails if Check does not have this error, and Leaves and Count it, too.
func wantTree(t *testing.T, b api.MaBind, want api.Errno) {
	t.Helper()
	if e := match.Check(b); e != want {
		t.Fatalf("Check(%.300v): %d; want %d", b, e, want)
	}
	if want == api.OK {
		return
	}
	if l, e := match.Leaves(b); len(l) > 0 || e != want {
		t.Fatalf("Leaves(%.300v): %v, %d", b, l, e)
	}
	for _, path := range [][]int{nil, {0}, {-1}, {0, 0}} {
		if n, e := match.Count(b, path); n != 0 || e != want {
			t.Fatalf("Count(%.300v, %v): %d, %d", b, path, n, e)
		}
	}
}

// P13.3: all short lists of nodes, with all depths.
func TestCheckTrees(t *testing.T) {
	var fields []api.MaNode
	for kids := -2; kids <= 2; kids++ {
		for at := -1; at <= 1; at++ {
			fields = append(fields, api.MaNode{Kids: kids, At: at})
		}
	}
	counted := 0
	for depth := -1; depth <= 5; depth++ {
		good := goodTrees(depth, 6)
		hold := func(l []api.MaNode) {
			want := api.ErrForm
			if good[fmt.Sprint(l)] {
				want = api.OK
				counted++
			}
			wantTree(t, api.MaBind{Id: id("a"), Depth: depth, Tree: l}, want)
		}
		allTrees(3, fields, hold)
		allTrees(6, tree(leaf(0), leaf(1), times(0), times(1), times(2)), hold)
	}
	if counted < 100 {
		t.Errorf("%d trees", counted)
	}
}

// paths returns all paths of at most n numbers from -1 to 3.
func paths(n int) [][]int {
	all := [][]int{nil}
	for i := 0; i < len(all); i++ {
		for place := -1; place <= 3 && len(all[i]) < n; place++ {
			all = append(all, append(slices.Clone(all[i]), place))
		}
	}
	return all
}

// P13.3: Leaves and Count of all small trees, with all short paths.
func TestSmallTrees(t *testing.T) {
	for depth := range 4 {
		for n := range 8 {
			for _, s := range shapes(depth, n) {
				holdTree(t, api.MaBind{Depth: depth, Tree: s.flat()}, s, paths(4))
			}
		}
	}
}

// holdTree holds Check, Leaves and Count of b against what its tree is.
func holdTree(t *testing.T, b api.MaBind, s shape, paths [][]int) {
	t.Helper()
	wantTree(t, b, api.OK)
	if l, e := match.Leaves(b); !slices.Equal(l, s.leaves()) || e != api.OK {
		t.Fatalf("Leaves(%v): %v, %d; want %v", b, l, e, s.leaves())
	}
	for _, path := range paths {
		many, want := s.count(path)
		if n, e := match.Count(b, path); n != many || e != want {
			t.Fatalf("Count(%v, %v): %d, %d; want %d, %d", b, path, n, e, many, want)
		}
	}
}

// shape throws a shape of this depth.
func (d *dice) shape(depth int) shape {
	if depth == 0 {
		return shape{leaf: true, at: d.below(2000)}
	}
	var s shape
	for range d.below(6) {
		s.kids = append(s.kids, d.shape(depth-1))
	}
	return s
}

// P13.3: greater trees, whole, without their last nodes, with one more, and with one node changed.
func TestThrownTrees(t *testing.T) {
	var d dice
	for i := range 1000 {
		depth := i % 4
		s := d.shape(depth)
		b := api.MaBind{Depth: depth, Tree: s.flat()}
		var some [][]int
		for range 20 {
			var path []int
			for range d.below(4) {
				path = append(path, d.below(5))
			}
			some = append(some, path)
		}
		holdTree(t, b, s, some)
		for n := range b.Tree {
			wantTree(t, api.MaBind{Depth: depth, Tree: b.Tree[:n]}, api.ErrForm)
		}
		wantTree(t, api.MaBind{Depth: depth, Tree: append(slices.Clone(b.Tree), leaf(0))}, api.ErrForm)
		k := d.below(len(b.Tree))
		for _, n := range []api.MaNode{{Kids: -1, At: -1}, {Kids: -2}, {Kids: math.MinInt}, {Kids: 0, At: 1}, {Kids: 3, At: -1}, {Kids: math.MaxInt}} {
			bad := slices.Clone(b.Tree)
			bad[k] = n
			wantTree(t, api.MaBind{Depth: depth, Tree: bad}, api.ErrForm)
		}
	}
}

// P13.3: no field but the depth and the tree is looked at; numbers as great as can be; many nodes; long paths.
func TestGreatTrees(t *testing.T) {
	for _, id := range []api.PaId{{}, {S: "a"}, {S: "no symbol", Scopes: "odd"}, {S: "..."}} {
		wantTree(t, api.MaBind{Id: id, Tree: tree(leaf(math.MaxInt))}, api.OK)
		wantTree(t, api.MaBind{Id: id}, api.ErrForm)
	}
	for _, depth := range []int{math.MinInt, -1, 4, 5, math.MaxInt} {
		for _, l := range [][]api.MaNode{nil, tree(leaf(0)), tree(times(0)), tree(times(1), times(1), times(1), times(1), leaf(0))} {
			wantTree(t, api.MaBind{Depth: depth, Tree: l}, api.ErrForm)
		}
	}
	for depth := 1; depth < 4; depth++ {
		for _, kids := range []int{1, 2, 1 << 31, 1 << 32, 1 << 62, math.MaxInt} {
			wantTree(t, api.MaBind{Depth: depth, Tree: tree(times(kids))}, api.ErrForm)
			wantTree(t, api.MaBind{Depth: depth, Tree: tree(times(kids), times(kids), times(kids))}, api.ErrForm)
		}
	}
	many := tree(times(1000))
	var all []int
	for i := range 1000 {
		many = append(many, times(i))
		for k := range i {
			many = append(many, leaf(k))
			all = append(all, k)
		}
	}
	b := api.MaBind{Depth: 2, Tree: many}
	if l, e := match.Leaves(b); !slices.Equal(l, all) || e != api.OK {
		t.Errorf("%d leaves, %d", len(l), e)
	}
	for _, x := range []struct {
		path []int
		many int
		e    api.Errno
	}{
		{nil, 1000, api.OK}, {[]int{999}, 999, api.OK}, {[]int{500}, 500, api.OK}, {[]int{1000}, 0, api.ErrNone}, {[]int{999, 998}, 0, api.ErrNone},
		{[]int{math.MaxInt}, 0, api.ErrNone}, {[]int{math.MinInt}, 0, api.ErrNone}, {make([]int, 100000), 0, api.ErrNone}, {[]int{0, 0}, 0, api.ErrNone}, {[]int{999, -1}, 0, api.ErrNone},
	} {
		if n, e := match.Count(b, x.path); n != x.many || e != x.e {
			t.Errorf("Count(%.20v): %d, %d", x.path, n, e)
		}
	}
}
