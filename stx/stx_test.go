package stx_test

import (
	"math"
	"slices"
	"strings"
	"testing"

	"mummer/api"
	"mummer/data"
	"mummer/stx"
)

func checkCheck(t *testing.T, l []api.StNode, node int, want api.Errno) {
	t.Helper()
	if n, e := stx.Check(l); n != node || e != want {
		t.Fatalf("Check(%s): %d, %d; want %d, %d", brief(l), n, e, node, want)
	}
}

// allLists calls f with all lists of at most n of these nodes.
func allLists(n int, of []api.StNode, f func([]api.StNode)) {
	var grow func(l []api.StNode)
	grow = func(l []api.StNode) {
		f(l)
		for _, x := range of {
			if len(l) < n {
				grow(append(slices.Clone(l), x))
			}
		}
	}
	grow(nil)
}

// P10.1: all short lists of good and bad nodes.
func TestCheckShort(t *testing.T) {
	hold := func(l []api.StNode) {
		node, e := checked(l)
		checkCheck(t, l, node, e)
	}
	allLists(4, nodes(in(7), sy("a"), li(0), li(1), li(2), li(3), api.StNode{}, li(-1), bo(2), sy(""), placed(li(2), 2, 1, 0), placed(in(1), 0, 0, -1)), hold)
	allLists(6, nodes(in(0), li(0), li(1), li(2), li(4)), hold)
	allLists(2, append(flaws(), in(1), li(1), li(2)), hold)
}

// P10.1: nodes of all kinds, with what they may have and may not have in each field.
func TestCheckFields(t *testing.T) {
	spans := []api.SpSpan{sp(0, 0), sp(0, 1), sp(4, 4), sp(math.MaxInt, math.MaxInt), sp(0, math.MaxInt), sp(-1, 0), sp(-1, -1), sp(1, 0), sp(0, -1), sp(math.MinInt, math.MaxInt)}
	for kind := -1; kind <= 6; kind++ {
		for kids := -1; kids <= 1; kids++ {
			for n := int64(-1); n <= 2; n++ {
				for _, s := range []string{"", "a", "1"} {
					for _, set := range []string{"", "\x00\x01", "\x00", "\x00\x02\x00\x01", span(0, 10000), span(0, 10001)} {
						for _, span := range spans {
							for _, origin := range []int{0, 1, math.MaxInt, -1, math.MinInt} {
								checkPlaces(t, api.StNode{Kind: kind, Kids: kids, N: n, S: s, Scopes: set, Span: span, Origin: origin})
							}
						}
					}
				}
			}
		}
	}
}

// checkPlaces holds Check of n as a tree, within one, and after one, against the definition.
func checkPlaces(t *testing.T, n api.StNode) {
	t.Helper()
	e := nodeError(n, 0)
	alone, within := 0, 2
	missed := api.Errno(0)
	if e == api.OK && n.Kids == 1 {
		alone, within, missed = 1, 3, api.ErrForm
	}
	if e != api.OK {
		missed = e
	}
	if missed == api.OK {
		within = 0
	}
	checkCheck(t, nodes(n), alone, missed)
	checkCheck(t, nodes(li(2), in(1), n), within, missed)
	checkCheck(t, nodes(li(0), n), 1, api.ErrForm)
}

// P10.1: of two flaws of a node, with different errors, the one that is named first is returned.
func TestCheckOrder(t *testing.T) {
	long := span(0, 10001)
	for _, x := range []struct {
		n    api.StNode
		want api.Errno
	}{
		{api.StNode{Kind: api.StBool, N: 2, S: "a"}, api.ErrForm},
		{api.StNode{Kind: api.StBool, N: 2, Scopes: "a"}, api.ErrRange},
		{api.StNode{Kind: api.StBool, N: 2, Scopes: long}, api.ErrRange},
		{api.StNode{Kind: api.StBool, N: 2, Span: sp(1, 0)}, api.ErrRange},
		{api.StNode{Kind: api.StSymbol, S: "7", Scopes: long}, api.ErrForm},
		{api.StNode{Kind: api.StSymbol, S: "7", Origin: -1}, api.ErrForm},
		{api.StNode{Kind: api.StSymbol, S: "a", Scopes: long, Span: sp(1, 0)}, api.ErrLong},
		{api.StNode{Kind: api.StInt, Scopes: "a", Origin: -1}, api.ErrForm},
		{api.StNode{Kind: api.StInt, Scopes: long, Origin: -1}, api.ErrLong},
		{api.StNode{Kind: api.StInt, Span: sp(1, 0), Origin: -1}, api.ErrForm},
		{api.StNode{Kind: 9, Scopes: long, Origin: -1}, api.ErrForm},
	} {
		checkCheck(t, nodes(x.n), 0, x.want)
		checkCheck(t, nodes(li(2), x.n, x.n), 1, x.want)
	}
	// The depth goes after the form of a node, and before what is in its fields.
	for _, f := range flaws() {
		want := api.ErrLong
		if badForm(f) {
			want = api.ErrForm
		}
		checkCheck(t, chain(201, f), 201, want)
	}
	// The first node with an error goes before others, and before nodes that are missing.
	for _, f := range flaws() {
		for _, g := range flaws() {
			checkCheck(t, nodes(li(9), in(1), f, g), 2, nodeError(f, 1))
		}
		tree := slices.Concat(nodes(li(2), f), chain(201, in(1)))
		checkCheck(t, tree, 1, nodeError(f, 1))
		checkCheck(t, slices.Concat(wide(1999), nodes(f)), 0, api.ErrLong)
		checkCheck(t, slices.Concat(wide(1998), nodes(f)), 1999, api.ErrForm)
	}
}

// P10.1: as many nodes, and as deep, as there may be, and one more; numbers as great as can be.
func TestCheckLimits(t *testing.T) {
	checkCheck(t, wide(1999), 0, api.OK)
	checkCheck(t, wide(2000), 0, api.ErrLong)
	checkCheck(t, make([]api.StNode, 2000), 0, api.ErrForm)
	checkCheck(t, make([]api.StNode, 2001), 0, api.ErrLong)
	checkCheck(t, slices.Repeat(nodes(in(1)), 2000), 1, api.ErrForm)
	for _, leaf := range nodes(in(1), bo(0), sy("a"), li(0)) {
		checkCheck(t, chain(199, leaf), 0, api.OK)
		checkCheck(t, chain(200, leaf), 0, api.OK)
		checkCheck(t, chain(201, leaf), 201, api.ErrLong)
		checkCheck(t, chain(1999, leaf), 201, api.ErrLong)
		checkCheck(t, slices.Concat(nodes(li(3), li(0)), chain(199, leaf), chain(200, leaf)), 402, api.ErrLong)
		checkCheck(t, slices.Concat(nodes(li(3), li(0)), chain(199, leaf), chain(199, leaf)), 0, api.OK)
	}
	comb := slices.Concat(slices.Repeat(nodes(li(3), in(1)), 200), nodes(li(0)), slices.Repeat(nodes(sy("a")), 200))
	checkCheck(t, comb, 0, api.OK)
	for _, n := range []int{2, 2000, 1 << 31, 1 << 62, math.MaxInt} {
		checkCheck(t, nodes(li(n)), 1, api.ErrForm)
		checkCheck(t, nodes(li(2), li(n), li(n), in(1)), 4, api.ErrForm)
		checkCheck(t, nodes(li(0), li(n)), 1, api.ErrForm)
		checkCheck(t, nodes(li(-n)), 0, api.ErrForm)
	}
	for _, n := range []int64{math.MinInt64, -1, 0, math.MaxInt64} {
		checkCheck(t, nodes(in(n)), 0, api.OK)
	}
	for _, s := range []string{"a", "é", "€", "😀"} {
		for n := range 40 {
			long, want := strings.Repeat(s, n), api.ErrForm
			if n > 0 && len(long) <= 24 {
				want = api.OK
			}
			checkCheck(t, nodes(sy(long)), 0, want)
		}
	}
}

// P10.1: greater trees, whole, without their last nodes, and with one more.
func TestCheckGrown(t *testing.T) {
	var d dice
	for range 100 {
		l := d.grown(1+d.below(300), 50).flat()
		checkCheck(t, l, 0, api.OK)
		for n := range l {
			checkCheck(t, l[:n], n, api.ErrForm)
		}
		checkCheck(t, append(slices.Clone(l), in(1)), len(l), api.ErrForm)
		i, f := d.below(len(l)), flaws()[d.below(len(flaws()))]
		bad := slices.Clone(l)
		bad[i] = f
		checkCheck(t, bad, i, nodeError(f, 0))
	}
}

// datumOf returns the data, and the spans, of syntax.
func datumOf(l []api.StNode) api.RdDatum {
	var d api.RdDatum
	for _, n := range l {
		d.Tree = append(d.Tree, api.DtNode{Kind: n.Kind, Kids: n.Kids, N: n.N, S: n.S})
		d.Spans = append(d.Spans, n.Span)
	}
	return d
}

// bare returns l without scopes and origins.
func bare(l []api.StNode) []api.StNode {
	b := slices.Clone(l)
	for i := range b {
		b[i].Scopes, b[i].Origin = "", 0
	}
	return b
}

// checkData holds Data and Spans of l against its fields.
func checkData(t *testing.T, l []api.StNode) {
	t.Helper()
	want := datumOf(l)
	if d, e := stx.Data(l); !slices.Equal(d, want.Tree) || e != api.OK {
		t.Fatalf("Data(%s): %s, %d", brief(l), brief(d), e)
	}
	if s, e := stx.Spans(l); !slices.Equal(s, want.Spans) || e != api.OK {
		t.Fatalf("Spans(%s): %s, %d", brief(l), brief(s), e)
	}
}

// P10.2, P10.7: Of is the datum with its spans alone; Data and Spans of it, and of other syntax, are what they were.
func TestData(t *testing.T) {
	trees := small()
	var d dice
	for range 100 {
		trees = append(trees, d.grown(1+d.below(400), 32))
	}
	for _, x := range trees {
		l := x.flat()
		checkData(t, l)
		if x.depth() > 32 {
			t.Fatal("no datum is so deep")
		}
		got, e := stx.Of(datumOf(l))
		wantTree(t, "Of "+brief(l), got, e, bare(l), api.OK)
		checkCheck(t, got, 0, api.OK)
		checkData(t, got)
	}
	for _, l := range [][]api.StNode{wide(400), wide(1999), chain(33, in(1)), chain(200, sy("a"))} {
		checkData(t, l)
	}
	for _, l := range [][]api.StNode{wide(399), chain(32, sy("a"))} {
		got, e := stx.Of(datumOf(l))
		wantTree(t, "Of "+brief(l), got, e, l, api.OK)
	}
}

// P10.2: what is no datum, then another number of spans, then a span that is none; all with nothing but the error.
func TestOfErrors(t *testing.T) {
	good := datumOf(example())
	none := []api.SpSpan{sp(-1, 0), sp(1, 0), sp(-1, -1), sp(0, -1), sp(math.MaxInt, 0), sp(math.MinInt, math.MaxInt)}
	hold := func(d api.RdDatum, want api.Errno) {
		t.Helper()
		l, e := stx.Of(d)
		wantTree(t, "Of "+brief(d), l, e, nil, want)
	}
	for n := range 10 {
		spans := make([]api.SpSpan, n)
		if n != 4 {
			hold(api.RdDatum{Tree: good.Tree, Spans: spans}, api.ErrArg)
		}
		for i := range n {
			for _, s := range none {
				bad, want := slices.Clone(spans), api.ErrArg
				bad[i] = s
				if n == 4 {
					want = api.ErrForm
				}
				hold(api.RdDatum{Tree: good.Tree, Spans: bad}, want)
			}
		}
	}
	for _, tree := range [][]api.DtNode{nil, {}, good.Tree[:3], append(slices.Clone(good.Tree), good.Tree[1]), {{Kind: 1, S: "a"}}, {{Kind: 2, N: 2}}, {{Kind: 3}}, {{}}, datumOf(wide(400)).Tree, datumOf(chain(33, in(1))).Tree} {
		_, want := data.Check(tree)
		if want == api.OK {
			t.Fatalf("%s is a datum", brief(tree))
		}
		hold(api.RdDatum{Tree: tree, Spans: make([]api.SpSpan, len(tree))}, want)
		hold(api.RdDatum{Tree: tree, Spans: slices.Repeat(none[:1], len(tree))}, want)
		hold(api.RdDatum{Tree: tree, Spans: good.Spans}, want)
		hold(api.RdDatum{Tree: tree}, want)
	}
}

// The chapter's examples.
func TestExamples(t *testing.T) {
	l := example()
	if k, e := stx.Kids(l, 0); !slices.Equal(k, []int{1, 2, 3}) || e != api.OK {
		t.Errorf("Kids: %v, %d", k, e)
	}
	if n, e := stx.Size(l, 0); n != 4 || e != api.OK {
		t.Errorf("Size: %d, %d", n, e)
	}
	sub, e := stx.Sub(l, 2)
	wantTree(t, "Sub", sub, e, nodes(scoped(sy("x"), "1-2")), api.OK)
	added, _ := stx.Add(l, 2)
	flipped, _ := stx.Flip(l, 2)
	put, _ := stx.Put(l, 2, nodes(in(7)))
	for _, x := range []struct {
		l    []api.StNode
		want string
	}{{l, "(f{1} x{1-2} 1)"}, {added, "(f{1-2} x{1-2} 1)"}, {flipped, "(f{1-2} x{1} 1)"}, {put, "(f{1} 7 1)"}} {
		if s, e := stx.Print(x.l); s != x.want || e != api.OK {
			t.Errorf("Print: %q, %d; want %q", s, e, x.want)
		}
	}
	checkCheck(t, l[:3], 3, api.ErrForm)
	bad := example()
	bad[1].Origin = -1
	checkCheck(t, bad, 1, api.ErrRange)
	x := scoped(sy("x"), "1-2")
	if stx.Same(x, scoped(sy("x"), "1")) || stx.Same(in(1), in(1)) || !stx.Same(x, x) {
		t.Error("Same")
	}
}
