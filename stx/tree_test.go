package stx_test

import (
	"math"
	"slices"
	"strconv"
	"testing"

	"mummer/api"
	"mummer/stx"
)

// checkNodes holds what is said of each node of d against d itself.
func checkNodes(t *testing.T, d nest) {
	t.Helper()
	l := d.flat()
	for i, x := range d.all() {
		if n, e := stx.Size(l, i); n != len(x.flat()) || e != api.OK {
			t.Fatalf("Size(%s, %d): %d, %d; want %d", brief(l), i, n, e, len(x.flat()))
		}
		var kids []int
		next := i + 1
		for _, kid := range x.kids {
			kids = append(kids, next)
			next += len(kid.flat())
		}
		if k, e := stx.Kids(l, i); !slices.Equal(k, kids) || e != api.OK {
			t.Fatalf("Kids(%s, %d): %v, %d; want %v", brief(l), i, k, e, kids)
		}
		s, e := stx.Sub(l, i)
		wantTree(t, "Sub of "+brief(l), s, e, x.flat(), api.OK)
	}
}

// P10.3: the nodes of all small trees, and of greater ones: their sizes, children and subtrees.
func TestNodes(t *testing.T) {
	for _, d := range small() {
		checkNodes(t, d)
	}
	var d dice
	for range 30 {
		checkNodes(t, d.grown(1+d.below(120), 1+d.below(40)))
	}
	for _, n := range []int{0, 1, 199, 200} {
		l := chain(n, in(1))
		for i := range l {
			s, e := stx.Sub(l, i)
			wantTree(t, "Sub", s, e, l[i:], api.OK)
		}
	}
	if k, e := stx.Kids(wide(1999), 0); len(k) != 1999 || k[0] != 1 || k[1998] != 1999 || e != api.OK {
		t.Errorf("Kids: %s, %d", brief(k), e)
	}
}

// nodeErrors returns the errors of all functions with a node, if their other results are zero.
func nodeErrors(t *testing.T, l []api.StNode, i int, s []api.StNode) []api.Errno {
	t.Helper()
	size, e1 := stx.Size(l, i)
	kids, e2 := stx.Kids(l, i)
	sub, e3 := stx.Sub(l, i)
	put, e4 := stx.Put(l, i, s)
	if size != 0 || len(kids)+len(sub)+len(put) > 0 {
		t.Errorf("node %d of %s: other results are not zero", i, brief(l))
	}
	return []api.Errno{e1, e2, e3, e4}
}

// P10.3: nodes that are not there; what is wrong with the syntax goes before that, what was put last.
func TestNoNode(t *testing.T) {
	for _, d := range upTo(4, nodes(li(0)), nodes(sy("a"))) {
		l := d.flat()
		for _, i := range []int{math.MinInt, -1, len(l), len(l) + 1, 2000, math.MaxInt} {
			if es := nodeErrors(t, l, i, nodes(in(1))); !slices.Equal(es, slices.Repeat([]api.Errno{api.ErrNone}, 4)) {
				t.Errorf("node %d of %v: %v", i, l, es)
			}
			put, e := stx.Put(l, i, chain(200, in(1)))
			wantTree(t, "Put of what is too deep at no node", put, e, nil, api.ErrNone)
			for _, s := range badSyntax() {
				_, want := stx.Check(s)
				put, e := stx.Put(l, i, s)
				wantTree(t, "Put at no node of "+brief(s), put, e, nil, want)
			}
		}
	}
	for _, l := range badSyntax() {
		_, want := stx.Check(l)
		if want == api.OK {
			t.Fatalf("%s is syntax", brief(l))
		}
		for _, i := range []int{math.MinInt, -1, 0, 1, len(l), math.MaxInt} {
			for _, s := range [][]api.StNode{nodes(in(1)), nil, nodes(bo(2)), wide(2000)} {
				if es := nodeErrors(t, l, i, s); !slices.Equal(es, slices.Repeat([]api.Errno{want}, 4)) {
					t.Errorf("node %d of %s: %v; want %d", i, brief(l), es, want)
				}
			}
		}
	}
}

// checkPut holds Put of s at node i of d against trees within trees, with Sub of it.
func checkPut(t *testing.T, d nest, i int, s nest) {
	t.Helper()
	l := d.flat()
	put, e := stx.Put(l, i, s.flat())
	wantTree(t, "Put at a node of "+brief(l), put, e, d.with(i, s).flat(), api.OK)
	sub, e := stx.Sub(put, i)
	wantTree(t, "Sub of Put", sub, e, s.flat(), api.OK)
}

// P10.3, P10.7: what was put is at its place, and Sub returns it; the own subtree changes nothing.
func TestPut(t *testing.T) {
	puts := upTo(3, nodes(placed(scoped(li(0), "9"), 5, 6, 7)), nodes(scoped(sy("new"), "4")))
	for _, d := range upTo(5, nodes(li(0)), nodes(placed(in(3), 1, 2, 0), scoped(sy("a"), "1"))) {
		for i, own := range d.all() {
			checkPut(t, d, i, own)
			for _, s := range puts {
				checkPut(t, d, i, s)
			}
			put, e := stx.Put(d.flat(), i, own.flat())
			wantTree(t, "Put of the own subtree", put, e, d.flat(), api.OK)
		}
	}
	var x dice
	for range 200 {
		d, s := x.grown(1+x.below(300), 30), x.grown(1+x.below(300), 30)
		checkPut(t, d, x.below(len(d.flat())), s)
	}
}

// P10.3: what was put makes syntax of 2000 nodes and depths of 200, and no greater.
func TestPutLimits(t *testing.T) {
	for _, x := range []struct {
		l    []api.StNode
		i    int
		s    []api.StNode
		want api.Errno
	}{
		{wide(1500), 700, wide(499), api.OK}, {wide(1500), 700, wide(500), api.ErrLong}, {wide(1500), 1500, wide(1999), api.ErrLong}, {wide(1999), 1, wide(1), api.ErrLong}, {wide(1999), 1, nodes(sy("a")), api.OK}, {wide(1999), 0, wide(1999), api.OK},
		{chain(150, in(1)), 150, chain(50, in(1)), api.OK}, {chain(150, in(1)), 150, chain(51, in(1)), api.ErrLong}, {chain(200, in(1)), 100, chain(100, in(1)), api.OK}, {chain(200, in(1)), 101, chain(100, in(1)), api.ErrLong}, {chain(200, in(1)), 0, chain(200, in(1)), api.OK}, {chain(200, in(1)), 200, nodes(li(0)), api.OK},
	} {
		l, e := stx.Put(x.l, x.i, x.s)
		var want []api.StNode
		if x.want == api.OK {
			size, _ := stx.Size(x.l, x.i)
			want = slices.Concat(x.l[:x.i], x.s, x.l[x.i+size:])
		}
		wantTree(t, "Put", l, e, want, x.want)
	}
}

// checkList holds List of the parts against the definition, for a node that has what like has.
func checkList(t *testing.T, parts []nest, like api.StNode) {
	t.Helper()
	var flat [][]api.StNode
	for _, p := range parts {
		flat = append(flat, p.flat())
	}
	root := api.StNode{Scopes: like.Scopes, Span: like.Span, Origin: like.Origin}
	l, e := stx.List(flat, like)
	wantTree(t, "List of "+brief(flat), l, e, listOf(root, parts...).flat(), api.OK)
}

// P10.3: lists of all small rows; of like nothing but scopes, span and origin is looked at.
func TestList(t *testing.T) {
	lists, leaves := nodes(li(0)), nodes(placed(in(3), 1, 2, 0), scoped(sy("a"), "1"))
	for n := range 5 {
		for _, parts := range rows(n, lists, leaves) {
			for _, kind := range []int{api.StList, api.StInt, api.StSymbol, 0, -7, 99} {
				for _, like := range nodes(in(1), placed(scoped(in(1), "5,9"), 3, 8, 2), placed(scoped(sy("7"), "0"), math.MaxInt, math.MaxInt, math.MaxInt)) {
					like.Kind, like.Kids, like.N, like.S = kind, kind-3, int64(kind), "( "
					checkList(t, parts, like)
				}
			}
		}
	}
	var d dice
	for range 100 {
		var parts []nest
		for range d.below(10) {
			parts = append(parts, d.grown(1+d.below(100), 30))
		}
		checkList(t, parts, d.node(api.StNode{}))
	}
}

// P10.7: the subtrees of the children of a list make up the list.
func TestListOfKids(t *testing.T) {
	trees := small()
	var d dice
	for range 20 {
		trees = append(trees, d.grown(1+d.below(60), 20))
	}
	for _, x := range trees {
		l := x.flat()
		for i, n := range l {
			if n.Kind != api.StList {
				continue
			}
			var parts [][]api.StNode
			kids, _ := stx.Kids(l, i)
			for _, kid := range kids {
				s, _ := stx.Sub(l, kid)
				parts = append(parts, s)
			}
			whole, _ := stx.Sub(l, i)
			list, e := stx.List(parts, n)
			wantTree(t, "List of the children in "+brief(l), list, e, whole, api.OK)
		}
	}
}

// P10.3: the first part that is no syntax goes first, then what is made.
func TestListErrors(t *testing.T) {
	hold := func(parts [][]api.StNode, like api.StNode, want api.Errno) {
		t.Helper()
		l, e := stx.List(parts, like)
		wantTree(t, "List of "+strconv.Itoa(len(parts))+" parts", l, e, nil, want)
	}
	bad := badSyntax()
	long := api.StNode{Scopes: span(0, 10001), Span: sp(1, 0), Origin: -1}
	for i, a := range bad {
		_, want := stx.Check(a)
		hold([][]api.StNode{a}, li(0), want)
		hold([][]api.StNode{nodes(in(1)), a, bad[(i+1)%len(bad)]}, long, want)
		hold([][]api.StNode{a, wide(1999), wide(1999)}, li(0), want)
		hold([][]api.StNode{wide(1999), wide(1999), a}, li(0), want)
	}
	for _, parts := range [][][]api.StNode{nil, {}, {nodes(in(1))}, {wide(1998)}, {chain(200, in(1))}} {
		hold(parts, long, api.ErrLong)
		hold(parts, api.StNode{Scopes: "\x01"}, api.ErrForm)
		hold(parts, api.StNode{Scopes: "\x01", Origin: -1}, api.ErrForm)
		hold(parts, api.StNode{Span: sp(1, 0), Origin: -1}, api.ErrForm)
		hold(parts, api.StNode{Span: sp(-1, 0)}, api.ErrForm)
		hold(parts, api.StNode{Origin: -1}, api.ErrRange)
	}
	hold([][]api.StNode{chain(200, in(1))}, li(0), api.ErrLong)
	hold([][]api.StNode{nodes(in(1)), chain(200, in(1)), nodes(in(1))}, li(0), api.ErrLong)
	for _, like := range nodes(li(0), api.StNode{Scopes: "\x01"}, api.StNode{Origin: -1}) {
		hold([][]api.StNode{wide(1999)}, like, api.ErrLong)
		hold([][]api.StNode{wide(1000), wide(998)}, like, api.ErrLong)
		hold(slices.Repeat([][]api.StNode{nodes(in(1))}, 2000), like, api.ErrLong)
		hold(slices.Repeat([][]api.StNode{wide(1999)}, 500), like, api.ErrLong)
	}
}

// P10.3: lists as great as there may be.
func TestListLimits(t *testing.T) {
	for _, parts := range [][][]api.StNode{slices.Repeat([][]api.StNode{nodes(in(1))}, 1999), {wide(1998)}, {wide(1000), wide(997)}, {chain(199, in(1))}, {nodes(in(1)), chain(199, li(0)), chain(199, sy("a"))}} {
		l, e := stx.List(parts, sy("a"))
		wantTree(t, "List", l, e, append(nodes(li(len(parts))), slices.Concat(parts...)...), api.OK)
	}
}
