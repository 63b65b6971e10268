package stx_test

import (
	"math"
	"slices"
	"strings"
	"testing"

	"mummer/api"
	"mummer/scopes"
	"mummer/stx"
)

// The functions that change scopes, with what they do with each set.
var changes = map[string]struct {
	f    func([]api.StNode, int) ([]api.StNode, api.Errno)
	each func(string, int) (string, api.Errno)
}{"Add": {stx.Add, scopes.Add}, "Flip": {stx.Flip, scopes.Flip}}

// ids are scopes that trees of the tests have or have not, and numbers that are no scopes.
var ids = []int{0, 1, 2, 3, 7, 8, 255, 256, 300, 65535, 65536, -1, math.MaxInt, math.MinInt, 1<<32 + 1}

// checkChanges holds Add and Flip of l against what scopes has for each node.
func checkChanges(t *testing.T, l []api.StNode) {
	t.Helper()
	for name, c := range changes {
		for _, id := range ids {
			want, wantErr := slices.Clone(l), api.OK
			for i := range want {
				s, e := c.each(want[i].Scopes, id)
				if e != api.OK {
					want, wantErr = nil, e
					break
				}
				want[i].Scopes = s
			}
			got, e := c.f(l, id)
			wantTree(t, name+" in "+brief(l), got, e, want, wantErr)
		}
	}
}

// P10.4, P10.6: Add and Flip change the scopes of each node as scopes does, and nothing else.
func TestChanges(t *testing.T) {
	for _, d := range small() {
		checkChanges(t, d.flat())
	}
	var d dice
	for range 20 {
		checkChanges(t, d.grown(1+d.below(300), 100).flat())
	}
	for _, l := range [][]api.StNode{wide(1999), chain(200, sy("a")), example()} {
		checkChanges(t, l)
	}
}

// P10.4: sets that are full: the first node with an error has it, wherever it is; what is full may lose a scope.
func TestFull(t *testing.T) {
	full := span(100, 10100)
	for i := range 4 {
		l := example()
		l[i].Scopes = full
		for _, id := range []int{2, 99, 10100, 65535} {
			for name, c := range changes {
				got, e := c.f(l, id)
				wantTree(t, name, got, e, nil, api.ErrLong)
			}
		}
		for _, id := range []int{65536, -1} {
			for name, c := range changes {
				got, e := c.f(l, id)
				wantTree(t, name, got, e, nil, api.ErrRange)
			}
		}
		added, e := stx.Add(l, 100)
		if e != api.OK || added[i].Scopes != full {
			t.Fatalf("Add of what is in a full set: %d", e)
		}
		flipped, e := stx.Flip(l, 100)
		if e != api.OK || flipped[i].Scopes != full[2:] {
			t.Fatalf("Flip of what is in a full set: %d", e)
		}
	}
}

// P10.6: Flip twice is nothing; flips of two scopes may be exchanged.
func TestFlips(t *testing.T) {
	trees := small()[:200]
	var d dice
	for range 20 {
		trees = append(trees, d.grown(1+d.below(50), 20))
	}
	for _, x := range trees {
		l := x.flat()
		for _, a := range ids[:10] {
			once, _ := stx.Flip(l, a)
			twice, e := stx.Flip(once, a)
			wantTree(t, "Flip twice", twice, e, l, api.OK)
			for _, b := range ids[:10] {
				ab, e := stx.Flip(once, b)
				other, _ := stx.Flip(l, b)
				ba, f := stx.Flip(other, a)
				wantTree(t, "flips of two scopes", ab, e, ba, f)
			}
		}
	}
}

// oneNodes returns nodes, all different, that are symbols and no symbols.
func oneNodes() []api.StNode {
	l := nodes(in(1), in(2), bo(0), bo(1), li(0), li(1))
	for _, s := range []string{"x", "y", "xy"} {
		for _, set := range []string{"-", "0", "1", "1-2", "2", "256"} {
			for _, origin := range []int{0, 1} {
				l = append(l, placed(scoped(sy(s), set), 0, 1, origin), placed(scoped(sy(s), set), 0, 2, origin))
			}
		}
	}
	return append(l, scoped(in(1), "1"), scoped(li(0), "1"), scoped(bo(1), "1"))
}

// P10.5: Same holds of symbols with the same S and scopes, wherever they are; of nothing else, whatever its fields.
func TestSame(t *testing.T) {
	l := oneNodes()
	for _, a := range l {
		for _, b := range l {
			want := a.Kind == api.StSymbol && b.Kind == api.StSymbol && a.S == b.S && a.Scopes == b.Scopes
			if stx.Same(a, b) != want {
				t.Errorf("Same(%v, %v): %v", a, b, !want)
			}
		}
	}
	for kind := -1; kind < 6; kind++ {
		a := api.StNode{Kind: kind, S: "x", Scopes: "\x00\x01"}
		if stx.Same(a, a) != (kind == api.StSymbol) || stx.Same(a, scoped(sy("x"), "1")) != (kind == api.StSymbol) || stx.Same(scoped(sy("x"), "1"), a) != (kind == api.StSymbol) {
			t.Errorf("Same of the kind %d", kind)
		}
	}
}

// P10.8: Same is an equivalence of symbols.
func TestSameEquivalence(t *testing.T) {
	l := oneNodes()
	for _, a := range l {
		if stx.Same(a, a) != (a.Kind == api.StSymbol) {
			t.Errorf("Same(%v, itself)", a)
		}
		for _, b := range l {
			if stx.Same(a, b) != stx.Same(b, a) {
				t.Errorf("Same(%v, %v) in the other order", a, b)
			}
			for _, c := range l {
				if stx.Same(a, b) && stx.Same(b, c) && !stx.Same(a, c) {
					t.Errorf("Same of %v, %v and %v", a, b, c)
				}
			}
		}
	}
}

// alike is the definition: the same nodes, but for Span and Origin.
func alike(a, b []api.StNode) bool {
	return slices.EqualFunc(a, b, func(x, y api.StNode) bool {
		return x.Kind == y.Kind && x.Kids == y.Kids && x.N == y.N && x.S == y.S && x.Scopes == y.Scopes
	})
}

// P10.5, P10.8: Alike of all pairs of small trees; what is alike has the same text.
func TestAlike(t *testing.T) {
	lists := nodes(li(0), placed(scoped(li(0), "1"), 1, 2, 0))
	leaves := nodes(in(0), bo(0), in(1), scoped(in(1), "1"), sy("a"), placed(sy("a"), 1, 3, 0), placed(sy("a"), 0, 0, 3), scoped(sy("a"), "1"), sy("b"), bo(1))
	trees := slices.Concat(upTo(2, lists, leaves), upTo(4, lists[:1], leaves[4:6]))
	for _, a := range trees {
		for _, b := range trees {
			l, m := a.flat(), b.flat()
			is, e := stx.Alike(l, m)
			if is != alike(l, m) || e != api.OK {
				t.Fatalf("Alike(%s, %s): %v, %d", brief(l), brief(m), is, e)
			}
			s, _ := stx.Print(l)
			u, _ := stx.Print(m)
			if is && s != u {
				t.Fatalf("%q and %q are alike", s, u)
			}
		}
	}
	var d dice
	for range 50 {
		l := d.grown(1+d.below(200), 40).flat()
		for range 20 {
			m := slices.Clone(l)
			for i := range m {
				m[i] = placed(m[i], d.below(9), 9+d.below(9), d.below(9))
			}
			if is, e := stx.Alike(l, m); !is || e != api.OK {
				t.Fatalf("Alike of %s, at other places: %v, %d", brief(l), is, e)
			}
			i := d.below(len(m))
			m[i].Scopes, _ = scopes.Flip(m[i].Scopes, d.below(500))
			if is, e := stx.Alike(l, m); is || e != api.OK {
				t.Fatalf("Alike of %s, with another scope at %d: %v, %d", brief(l), i, is, e)
			}
		}
	}
}

// P10.5: Print of all small trees, and of greater ones.
func TestPrint(t *testing.T) {
	trees := slices.Concat(small(), upTo(7, nodes(li(0)), nodes(sy("a"))))
	var d dice
	for range 100 {
		trees = append(trees, d.grown(1+d.below(400), 1+d.below(60)))
	}
	for _, x := range trees {
		if s, e := stx.Print(x.flat()); s != x.text() || e != api.OK {
			t.Fatalf("Print(%s): %.300q, %d; want %.300q", brief(x.flat()), s, e, x.text())
		}
	}
	for _, x := range []struct {
		l    []api.StNode
		want string
	}{
		{nodes(in(math.MinInt64)), "-9223372036854775808"}, {nodes(in(math.MaxInt64)), "9223372036854775807"}, {nodes(in(0)), "0"}, {nodes(bo(0)), "#f"}, {nodes(bo(1)), "#t"}, {nodes(li(0)), "()"}, {nodes(sy("é")), "é{-}"}, {nodes(scoped(sy("..."), "0,2-4,65535")), "...{0,2-4,65535}"},
		{nodes(li(2), li(0), li(2), bo(0), li(1), li(0)), "(() (#f (())))"},
		{chain(200, in(5)), strings.Repeat("(", 200) + "5" + strings.Repeat(")", 200)},
		{chain(200, li(0)), strings.Repeat("(", 201) + strings.Repeat(")", 201)},
		{wide(1999), "(" + strings.Repeat("1 ", 1998) + "1)"},
	} {
		if s, e := stx.Print(x.l); s != x.want || e != api.OK {
			t.Errorf("Print(%s): %.300q, %d; want %.300q", brief(x.l), s, e, x.want)
		}
	}
}

// P10.5: the scopes of a symbol are printed if they are at most 500; of other nodes they are not printed.
func TestPrintScopes(t *testing.T) {
	most, more := span(0, 500), span(0, 501)
	for i := range 4 {
		l := example()
		l[i].Scopes = most
		s, e := stx.Print(l)
		want := []string{"(f{1} x{1-2} 1)", "(f{0-499} x{1-2} 1)", "(f{1} x{0-499} 1)", "(f{1} x{1-2} 1)"}[i]
		if s != want || e != api.OK {
			t.Errorf("Print, 500 scopes at %d: %q, %d", i, s, e)
		}
		l[i].Scopes = more
		wantErr := api.OK
		if i == 1 || i == 2 {
			want, wantErr = "", api.ErrLong
		}
		if s, e := stx.Print(l); s != want || e != wantErr {
			t.Errorf("Print, 501 scopes at %d: %q, %d", i, s, e)
		}
	}
}

// P10.2, P10.4, P10.5: what is no syntax has the error of Check; in Add and Flip it goes before the scope, in Alike the first one goes first.
func TestNoSyntax(t *testing.T) {
	all := badSyntax()
	for _, l := range all {
		_, want := stx.Check(l)
		if d, e := stx.Data(l); len(d) != 0 || e != want {
			t.Errorf("Data(%s): %v, %d", brief(l), d, e)
		}
		if s, e := stx.Spans(l); len(s) != 0 || e != want {
			t.Errorf("Spans(%s): %v, %d", brief(l), s, e)
		}
		if s, e := stx.Print(l); s != "" || e != want {
			t.Errorf("Print(%s): %q, %d", brief(l), s, e)
		}
		for name, c := range changes {
			for _, id := range []int{1, 65536, -1} {
				got, e := c.f(l, id)
				wantTree(t, name+" in "+brief(l), got, e, nil, want)
			}
		}
		for _, m := range all {
			_, other := stx.Check(m)
			for _, x := range []struct {
				a, b []api.StNode
				want api.Errno
			}{{l, m, want}, {l, l, want}, {example(), m, other}, {l, example(), want}} {
				if is, e := stx.Alike(x.a, x.b); is || e != x.want {
					t.Errorf("Alike(%s, %s): %v, %d; want %d", brief(x.a), brief(x.b), is, e, x.want)
				}
			}
		}
	}
}

// roomy returns l with more memory behind it, which has all the same elements.
func roomy[T any](l []T, fill T) []T {
	long := append(slices.Clone(l), slices.Repeat([]T{fill}, 20)...)
	return long[:len(l)]
}

// P10.8: arguments stay as they are, also the memory behind them, and what is done to one result is not seen in another one.
func TestMemory(t *testing.T) {
	x := sy("behind")
	l, s := roomy(example(), x), roomy(nodes(li(1), sy("c")), x)
	parts := roomy([][]api.StNode{l, s}, nil)
	d := datumOf(l)
	d.Tree, d.Spans = roomy(d.Tree, api.DtNode{Kind: 77}), roomy(d.Spans, sp(7, 7))
	for range 2 {
		of, e := stx.Of(d)
		wantTree(t, "Of", of, e, bare(example()), api.OK)
		sub, e := stx.Sub(l, 0)
		wantTree(t, "Sub", sub, e, example(), api.OK)
		part, e := stx.Sub(l, 2)
		wantTree(t, "Sub", part, e, example()[2:3], api.OK)
		put, e := stx.Put(l, 3, s)
		wantTree(t, "Put", put, e, append(example()[:3], li(1), sy("c")), api.OK)
		whole, e := stx.Put(l, 0, s)
		wantTree(t, "Put", whole, e, nodes(li(1), sy("c")), api.OK)
		list, e := stx.List(parts, sy("a"))
		wantTree(t, "List", list, e, slices.Concat(nodes(li(2)), example(), nodes(li(1), sy("c"))), api.OK)
		added, e := stx.Add(l, 1)
		wantTree(t, "Add", added, e, nodes(scoped(li(3), "1"), example()[1], example()[2], scoped(in(1), "1")), api.OK)
		flipped, e := stx.Flip(l, 2)
		wantTree(t, "Flip", flipped, e, nodes(scoped(li(3), "2"), scoped(sy("f"), "1-2"), scoped(sy("x"), "1"), scoped(in(1), "2")), api.OK)
		tree, _ := stx.Data(l)
		spans, _ := stx.Spans(l)
		kids, _ := stx.Kids(l, 0)
		if !slices.Equal(tree, datumOf(example()).Tree) || !slices.Equal(spans, make([]api.SpSpan, 4)) || !slices.Equal(kids, []int{1, 2, 3}) {
			t.Errorf("results have changed: %v, %v, %v", tree, spans, kids)
		}
		stx.Print(l)
		stx.Alike(l, s)
		stx.Check(l)
		for _, r := range [][]api.StNode{of, sub, part, put, whole, list, added, flipped} {
			clear(r[:cap(r)])
		}
		clear(tree[:cap(tree)])
		clear(spans[:cap(spans)])
		clear(kids[:cap(kids)])
	}
	behind := slices.Repeat(nodes(x), 20)
	if !slices.Equal(l[:24], append(example(), behind...)) || !slices.Equal(s[:22], append(nodes(li(1), sy("c")), behind...)) {
		t.Errorf("syntax has changed: %v, %v", l[:24], s[:22])
	}
	if !slices.Equal(d.Tree, datumOf(example()).Tree) || d.Tree[:5][4].Kind != 77 || d.Spans[:5][4] != sp(7, 7) || len(parts[0]) != 4 || parts[:3][2] != nil {
		t.Errorf("a datum, or parts, have changed: %v, %v", d, parts)
	}
}
