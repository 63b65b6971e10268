package stx_test

import (
	"fmt"
	"math"
	"slices"
	"strconv"
	"strings"
	"testing"

	"mummer/api"
	"mummer/data"
	"mummer/scopes"
)

func in(n int64) api.StNode              { return api.StNode{Kind: api.StInt, N: n} }
func bo(n int64) api.StNode              { return api.StNode{Kind: api.StBool, N: n} }
func sy(s string) api.StNode             { return api.StNode{Kind: api.StSymbol, S: s} }
func li(kids int) api.StNode             { return api.StNode{Kind: api.StList, Kids: kids} }
func sp(from, to int) api.SpSpan         { return api.SpSpan{From: from, To: to} }
func nodes(l ...api.StNode) []api.StNode { return l }

// scoped returns n with the scopes of a list expression, as 1-3,5.
func scoped(n api.StNode, list string) api.StNode {
	s, e := scopes.Parse(list)
	if e != api.OK {
		panic("no set: " + list)
	}
	n.Scopes = s
	return n
}

// placed returns n with this span and origin.
func placed(n api.StNode, from, to, origin int) api.StNode {
	n.Span, n.Origin = sp(from, to), origin
	return n
}

// span returns the set of the scopes from first on, before after.
func span(first, after int) string {
	var b []byte
	for id := first; id < after; id++ {
		b = append(b, byte(id/256), byte(id%256))
	}
	return string(b)
}

// example is L of the chapter: (f x 1).
func example() []api.StNode {
	return nodes(li(3), scoped(sy("f"), "1"), scoped(sy("x"), "1-2"), in(1))
}

// chain is a leaf within n lists.
func chain(n int, leaf api.StNode) []api.StNode { return append(slices.Repeat(nodes(li(1)), n), leaf) }

// wide is a list of n integers.
func wide(n int) []api.StNode { return append(nodes(li(n)), slices.Repeat(nodes(in(1)), n)...) }

// A nest is syntax with its elements in it.
type nest struct {
	node api.StNode
	kids []nest
}

// flat returns the nodes of d.
func (d nest) flat() []api.StNode {
	l := nodes(d.node)
	for _, kid := range d.kids {
		l = append(l, kid.flat()...)
	}
	return l
}

// all returns d and all below it, in the order of the nodes.
func (d nest) all() []nest {
	l := []nest{d}
	for _, kid := range d.kids {
		l = append(l, kid.all()...)
	}
	return l
}

// depth returns the greatest depth of a node.
func (d nest) depth() int {
	n := 0
	for _, kid := range d.kids {
		n = max(n, kid.depth()+1)
	}
	return n
}

// with returns d, in which s stands instead of node i.
func (d nest) with(i int, s nest) nest {
	if i == 0 {
		return s
	}
	i--
	kids := slices.Clone(d.kids)
	for k, kid := range kids {
		size := len(kid.flat())
		if i >= 0 && i < size {
			kids[k] = kid.with(i, s)
		}
		i -= size
	}
	return nest{d.node, kids}
}

// text is the definition of the text of syntax, for symbols of at most 500 scopes.
func (d nest) text() string {
	switch d.node.Kind {
	case api.StInt:
		return fmt.Sprint(d.node.N)
	case api.StBool:
		return []string{"#f", "#t"}[d.node.N]
	case api.StSymbol:
		list, _ := scopes.Print(d.node.Scopes)
		return d.node.S + "{" + list + "}"
	}
	var l []string
	for _, kid := range d.kids {
		l = append(l, kid.text())
	}
	return "(" + strings.Join(l, " ") + ")"
}

// listOf returns the list of kids, whose node has what n has beside.
func listOf(n api.StNode, kids ...nest) nest {
	n.Kind, n.Kids = api.StList, len(kids)
	return nest{n, kids}
}

// rows returns all rows of trees with n nodes together.
func rows(n int, lists, leaves []api.StNode) [][]nest {
	if n == 0 {
		return [][]nest{nil}
	}
	var l [][]nest
	for first := 1; first <= n; first++ {
		for _, d := range allOf(first, lists, leaves) {
			for _, rest := range rows(n-first, lists, leaves) {
				l = append(l, append([]nest{d}, rest...))
			}
		}
	}
	return l
}

// allOf returns all trees with n nodes, made of these lists and leaves.
func allOf(n int, lists, leaves []api.StNode) []nest {
	var l []nest
	for _, leaf := range leaves {
		if n == 1 {
			l = append(l, nest{leaf, nil})
		}
	}
	for _, kids := range rows(n-1, lists, leaves) {
		for _, list := range lists {
			l = append(l, listOf(list, kids...))
		}
	}
	return l
}

// upTo returns all trees with at most n nodes, made of these lists and leaves.
func upTo(n int, lists, leaves []api.StNode) []nest {
	var l []nest
	for i := 1; i <= n; i++ {
		l = append(l, allOf(i, lists, leaves)...)
	}
	return l
}

// small are small trees: of one leaf each shape, and of few nodes all mixtures.
func small() []nest {
	lists := nodes(li(0), placed(scoped(li(0), "2,7"), 3, 9, 4))
	leaves := nodes(placed(in(-3), 2, 2, 0), bo(1), placed(scoped(sy("ab"), "0,2"), 1, 5, 3), scoped(bo(0), "7"))
	return slices.Concat(upTo(6, nodes(li(0)), nodes(in(3))), upTo(3, lists, leaves))
}

// A dice throws numbers that follow from how it begins.
type dice uint64

func (d *dice) below(n int) int {
	*d = *d*6364136223846793005 + 1442695040888963407
	return int(*d>>33) % n
}

// node returns n with thrown scopes, span and origin.
func (d *dice) node(n api.StNode) api.StNode {
	var ids []int
	for range d.below(4) {
		ids = append(ids, []int{0, 1, 2, 3, 255, 256, 300, 65535}[d.below(8)])
	}
	n.Scopes, _ = scopes.Of(ids)
	from := d.below(100)
	return placed(n, from, from+d.below(50), d.below(3))
}

// grown returns a tree of at most n nodes and so many levels of lists.
func (d *dice) grown(n, levels int) nest {
	if n == 1 || levels == 0 {
		leaf := nodes(in(int64(d.below(2000))-1000), bo(int64(d.below(2))), sy("a"), sy("λé"), sy("..."), li(0))[d.below(6)]
		return nest{d.node(leaf), nil}
	}
	var kids []nest
	for n--; n > 0 && d.below(30) > 0; {
		kid := d.grown(1+d.below(n), levels-1)
		kids = append(kids, kid)
		n -= len(kid.flat())
	}
	return listOf(d.node(api.StNode{}), kids...)
}

// missing is how many nodes must still come after those of l, if each one is without children.
func missing(l []api.StNode) int {
	n := 1
	for _, x := range l {
		n += x.Kids - 1
	}
	return n
}

// depthOf is how many nodes before node i have lacked nodes all the way to it.
func depthOf(l []api.StNode, i int) int {
	depth := 0
	for p := range i {
		lacks := true
		for k := p + 1; k <= i; k++ {
			lacks = lacks && missing(l[p:k]) > 0
		}
		if lacks {
			depth++
		}
	}
	return depth
}

// badForm is what P10.1 says of the kind and the fields N, S and Kids.
func badForm(n api.StNode) bool {
	if n.Kind < 1 || n.Kind > 4 || n.Kids < 0 {
		return true
	}
	return n.Kids != 0 && n.Kind != api.StList || n.N != 0 && n.Kind != api.StInt && n.Kind != api.StBool || n.S != "" && n.Kind != api.StSymbol
}

// nodeError is P10.1 for a node of the tree, with this depth.
func nodeError(n api.StNode, depth int) api.Errno {
	switch {
	case badForm(n):
		return api.ErrForm
	case depth > 200:
		return api.ErrLong
	case n.Kind == api.StBool && n.N != 0 && n.N != 1:
		return api.ErrRange
	case n.Kind == api.StSymbol && !data.Symbol(n.S):
		return api.ErrForm
	case scopes.Check(n.Scopes) != api.OK:
		return scopes.Check(n.Scopes)
	case n.Span.From < 0 || n.Span.To < n.Span.From:
		return api.ErrForm
	case n.Origin < 0:
		return api.ErrRange
	}
	return api.OK
}

// checked is P10.1, by looking at all nodes before each one.
func checked(l []api.StNode) (int, api.Errno) {
	if len(l) == 0 {
		return 0, api.ErrForm
	}
	if len(l) > 2000 {
		return 0, api.ErrLong
	}
	for i, n := range l {
		if missing(l[:i]) == 0 {
			return i, api.ErrForm
		}
		if e := nodeError(n, depthOf(l, i)); e != api.OK {
			return i, e
		}
	}
	if missing(l) > 0 {
		return len(l), api.ErrForm
	}
	return 0, api.OK
}

// badSyntax returns lists of nodes that are no syntax, for each error of Check.
func badSyntax() [][]api.StNode {
	l := [][]api.StNode{
		nil, {}, wide(2000), chain(201, in(1)), slices.Repeat(nodes(in(1)), 2001),
		nodes(li(2), in(1)), nodes(in(1), in(2)), nodes(li(0), li(0)), nodes(li(math.MaxInt)), example()[:3],
	}
	for _, f := range flaws() {
		l = append(l, nodes(f), nodes(li(2), sy("a"), f))
	}
	return l
}

// flaws returns nodes that no tree has.
func flaws() []api.StNode {
	return nodes(
		api.StNode{}, api.StNode{Kind: 5}, api.StNode{Kind: -1}, li(-1), li(math.MinInt),
		api.StNode{Kind: api.StInt, Kids: 1}, api.StNode{Kind: api.StInt, S: "1"},
		api.StNode{Kind: api.StBool, Kids: 1}, api.StNode{Kind: api.StBool, S: "t"}, bo(2), bo(-1), bo(math.MinInt64),
		api.StNode{Kind: api.StSymbol, S: "a", Kids: 1}, api.StNode{Kind: api.StSymbol, S: "a", N: 1},
		sy(""), sy("1"), sy("-12"), sy("a b"), sy("a("), sy("#t"), sy("\xff"), sy(strings.Repeat("a", 25)),
		api.StNode{Kind: api.StList, N: 1}, api.StNode{Kind: api.StList, S: "a"},
		api.StNode{Kind: api.StInt, Scopes: "\x01"}, api.StNode{Kind: api.StList, Scopes: "\x00\x01\x00"}, api.StNode{Kind: api.StBool, Scopes: "\x00\x05\x00\x01"}, api.StNode{Kind: api.StSymbol, S: "a", Scopes: "\x00\x01\x00\x01"},
		api.StNode{Kind: api.StInt, Scopes: span(0, 10001)}, api.StNode{Kind: api.StSymbol, S: "a", Scopes: span(55535, 65536)},
		placed(in(1), -1, 0, 0), placed(li(0), 1, 0, 0), placed(sy("a"), -2, -1, 0), placed(bo(0), 0, -1, 0), placed(in(1), math.MaxInt, math.MinInt, 0),
		placed(in(1), 0, 0, -1), placed(li(0), 1, 2, math.MinInt), placed(sy("a"), 0, 0, -1),
	)
}

// brief returns the beginning of what v is as a text.
func brief(v any) string {
	s := fmt.Sprintf("%+v", v)
	if len(s) > 300 {
		s = s[:300] + ".. (" + strconv.Itoa(len(s)) + " bytes)"
	}
	return s
}

// wantTree fails if the call did not have this tree, or this error.
func wantTree(t *testing.T, call string, l []api.StNode, e api.Errno, want []api.StNode, wantErr api.Errno) {
	t.Helper()
	if !slices.Equal(l, want) || e != wantErr {
		t.Fatalf("%s: %s, %d; want %s, %d", brief(call), brief(l), e, brief(want), wantErr)
	}
}
