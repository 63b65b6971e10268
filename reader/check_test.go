package reader_test

import (
	"math"
	"slices"
	"strings"
	"testing"

	"mummer/api"
	"mummer/data"
	"mummer/reader"
)

// checked is the definition of data that are read out of n bytes.
func checked(n int, d api.RdDatum) (int, api.Errno) {
	if node, e := data.Check(d.Tree); e != api.OK {
		return node, e
	}
	if len(d.Spans) != len(d.Tree) {
		return 0, api.ErrArg
	}
	for i, s := range d.Spans {
		ok := 0 <= s.From && s.From < s.To && s.To <= n
		if i > 0 {
			parent, _ := data.Parent(d.Tree, i)
			ok = ok && d.Spans[parent].From <= s.From && s.To <= d.Spans[parent].To
			kids, _ := data.Kids(d.Tree, parent)
			if k := slices.Index(kids, i); k > 0 {
				ok = ok && d.Spans[kids[k-1]].To <= s.From
			}
		}
		if !ok {
			return i, api.ErrForm
		}
	}
	return 0, api.OK
}

// found is the definition of the node that Find finds.
func found(d api.RdDatum, at int) (int, api.Errno) {
	if _, e := checked(8000, d); e != api.OK {
		return 0, e
	}
	node, e := 0, api.ErrNone
	for i, s := range d.Spans {
		if s.From <= at && at < s.To {
			node, e = i, api.OK
		}
	}
	return node, e
}

func checkCheck(t *testing.T, n int, d api.RdDatum) {
	t.Helper()
	wantNode, want := checked(n, d)
	if node, e := reader.Check(n, d); node != wantNode || e != want {
		t.Fatalf("Check(%d, %.300v): %d, %d; want %d, %d", n, d, node, e, wantNode, want)
	}
}

func checkFind(t *testing.T, d api.RdDatum, at int) {
	t.Helper()
	wantNode, want := found(d, at)
	if node, e := reader.Find(d, at); node != wantNode || e != want {
		t.Fatalf("Find(%.300v, %d): %d, %d; want %d, %d", d, at, node, e, wantNode, want)
	}
}

// one returns the only datum of s.
func one(t *testing.T, s string) api.RdDatum {
	t.Helper()
	d, at, e := reader.One([]byte(s))
	if e != api.OK {
		t.Fatalf("One(%q): %v, %d", s, at, e)
	}
	return d
}

// allSpans calls f with all lists of n of the spans; f does not keep them.
func allSpans(n int, spans []api.SpSpan, f func([]api.SpSpan)) {
	var grow func(l []api.SpSpan)
	grow = func(l []api.SpSpan) {
		if len(l) == n {
			f(l)
			return
		}
		for _, s := range spans {
			grow(append(l, s))
		}
	}
	grow(nil)
}

// between returns the spans from low to high; some of them, if few, are empty, and none goes backwards.
func between(low, high int, few bool) []api.SpSpan {
	var l []api.SpSpan
	for from := low; from <= high; from++ {
		for to := low; to <= high; to++ {
			if !few || from < to || from == to && from == 2 {
				l = append(l, sp(from, to))
			}
		}
	}
	return l
}

// P6.2, P6.3: small data with all small spans.
func TestSmallSpans(t *testing.T) {
	check := func(s string, spans []api.SpSpan) {
		d := one(t, s)
		allSpans(len(d.Tree), spans, func(l []api.SpSpan) {
			d.Spans = l
			for n := 3; n <= 4; n++ {
				checkCheck(t, n, d)
			}
			for at := -1; at <= 4; at++ {
				checkFind(t, d, at)
			}
		})
	}
	for _, s := range []string{"a", "()", "(a)", "(a b)", "((a))", "'a"} {
		check(s, between(-1, 4, false))
	}
	for _, s := range []string{"(a b c)", "((a) b)", "(a (b))", "((a b))", "(((a)))", "(()() a)"} {
		check(s, between(0, 4, true))
	}
	for _, s := range []string{"(a 'b)", "((a) (b))", "(a (b) c)", "((a b) c)", "(((a)) b)"} {
		check(s, between(1, 4, true)[:6])
	}
}

// P6.2: how many bytes there are, and spans with great numbers.
func TestCheckNumbers(t *testing.T) {
	d := one(t, "(a 'b)")
	for _, n := range []int{math.MinInt, -1, 0, 1, 5, 6, 7, 8000, 8001, math.MaxInt} {
		checkCheck(t, n, d)
		for i := range d.Spans {
			for _, s := range []api.SpSpan{{}, sp(-1, 6), sp(0, math.MaxInt), sp(math.MinInt, math.MaxInt), sp(math.MinInt, math.MinInt), sp(math.MaxInt, math.MinInt), sp(math.MaxInt-1, math.MaxInt), sp(6, 0), sp(3, 3)} {
				c := api.RdDatum{Tree: d.Tree, Spans: slices.Clone(d.Spans)}
				c.Spans[i] = s
				checkCheck(t, n, c)
				checkFind(t, c, n)
			}
		}
	}
	for i, x := range []struct {
		n, node int
		e       api.Errno
		change  func(d *api.RdDatum)
	}{
		{6, 0, api.OK, func(d *api.RdDatum) {}},
		{5, 0, api.ErrForm, func(d *api.RdDatum) {}},
		{-1, 0, api.ErrForm, func(d *api.RdDatum) {}},
		{6, 1, api.ErrForm, func(d *api.RdDatum) { d.Spans[1].To = 1 }},
		{6, 2, api.ErrForm, func(d *api.RdDatum) { d.Spans[1].To = 4 }},
		{6, 4, api.ErrForm, func(d *api.RdDatum) { d.Spans[4].To = 6 }},
		{6, 4, api.ErrForm, func(d *api.RdDatum) { d.Spans[4].From = 3 }},
		{6, 0, api.OK, func(d *api.RdDatum) { d.Spans[1].To = 3 }},
		{6, 1, api.ErrForm, func(d *api.RdDatum) { d.Spans[0].From = 2 }},
		{6, 0, api.ErrArg, func(d *api.RdDatum) { d.Spans = d.Spans[:4] }},
		{6, 0, api.ErrArg, func(d *api.RdDatum) { d.Spans = append(d.Spans, sp(5, 6)) }},
		{6, 0, api.ErrArg, func(d *api.RdDatum) { d.Spans = nil }},
		{6, 4, api.ErrForm, func(d *api.RdDatum) { d.Tree, d.Spans = d.Tree[:4], d.Spans[:4] }},
	} {
		d := one(t, "(a 'b)")
		x.change(&d)
		if node, e := reader.Check(x.n, d); node != x.node || e != x.e {
			t.Errorf("%d: Check: %d, %d; want %d, %d", i, node, e, x.node, x.e)
		}
	}
}

// P6.2, P6.3: what is no datum goes first, then how many spans there are, then where they lie.
func TestCheckErrors(t *testing.T) {
	bad := [][]api.DtNode{
		nil,
		{{}},
		{{Kind: 5}},
		{{Kind: api.DtInt, Kids: 1}},
		{{Kind: api.DtBool, N: 2}},
		{{Kind: api.DtSymbol, S: "7"}},
		{{Kind: api.DtList, Kids: -1}},
		{{Kind: api.DtList, Kids: 2}, {Kind: api.DtInt}},
		{{Kind: api.DtInt}, {Kind: api.DtInt}},
		{{Kind: api.DtList, Kids: math.MaxInt}, {Kind: api.DtSymbol, S: "a"}},
		slices.Repeat([]api.DtNode{{Kind: api.DtInt}}, 401),
		append(slices.Repeat([]api.DtNode{{Kind: api.DtList, Kids: 1}}, 33), api.DtNode{Kind: api.DtInt}),
	}
	for _, tree := range bad {
		node, e := data.Check(tree)
		for _, spans := range [][]api.SpSpan{nil, {sp(0, 1)}, slices.Repeat([]api.SpSpan{sp(5, 4)}, len(tree)), slices.Repeat([]api.SpSpan{sp(0, 1)}, len(tree)+1)} {
			d := api.RdDatum{Tree: tree, Spans: spans}
			if gotNode, got := reader.Check(9, d); gotNode != node || got != e {
				t.Fatalf("Check(%.200v): %d, %d; want %d, %d", d, gotNode, got, node, e)
			}
			for _, at := range []int{0, -1, 9} {
				if gotNode, got := reader.Find(d, at); gotNode != 0 || got != e {
					t.Fatalf("Find(%.200v, %d): %d, %d; want 0, %d", d, at, gotNode, got, e)
				}
			}
		}
	}
	good := one(t, "(a)")
	for _, spans := range [][]api.SpSpan{nil, {sp(0, 3)}, {sp(5, 4)}, {sp(5, 4), sp(0, 0), sp(1, 2)}} {
		d := api.RdDatum{Tree: good.Tree, Spans: spans}
		if node, e := reader.Check(3, d); node != 0 || e != api.ErrArg {
			t.Fatalf("Check(%v): %d, %d", d, node, e)
		}
		if node, e := reader.Find(d, 9); node != 0 || e != api.ErrArg {
			t.Fatalf("Find(%v): %d, %d", d, node, e)
		}
	}
}

// P6.2: data with as many nodes, and as deep, as data may be.
func TestCheckLarge(t *testing.T) {
	for _, s := range []string{"(" + strings.Repeat("1 ", 399) + ")", strings.Repeat("(", 33) + strings.Repeat(")", 33), "(" + strings.Repeat("'a", 133) + ")", strings.Repeat("(a 'b ", 31) + strings.Repeat(")", 31)} {
		d := one(t, s)
		for _, n := range []int{len(s), len(s) - 1, 8000} {
			checkCheck(t, n, d)
		}
		for i := 0; i < len(d.Spans); i += 1 + i/8 {
			for _, by := range []int{-1, 1} {
				for _, change := range []func(s *api.SpSpan){func(s *api.SpSpan) { s.From += by }, func(s *api.SpSpan) { s.To += by }} {
					c := api.RdDatum{Tree: d.Tree, Spans: slices.Clone(d.Spans)}
					change(&c.Spans[i])
					checkCheck(t, len(s), c)
				}
			}
		}
	}
}

// P6.3: the last node with a byte is found, in a string of up to 8000 bytes.
func TestFind(t *testing.T) {
	for _, s := range []string{"(a 'b)", " '(a ;b\n #;(c) [d e]) ", "((((a))))", "a", "'quote"} {
		d := one(t, s)
		for at := -2; at <= len(s)+2; at++ {
			checkFind(t, d, at)
		}
		for _, at := range []int{math.MinInt, math.MaxInt, 8000, 1 << 40} {
			checkFind(t, d, at)
		}
	}
	end := api.RdDatum{Tree: []api.DtNode{{Kind: api.DtInt}}, Spans: []api.SpSpan{sp(7999, 8000)}}
	for at, want := range map[int]api.Errno{7998: api.ErrNone, 7999: api.OK, 8000: api.ErrNone} {
		if node, e := reader.Find(end, at); node != 0 || e != want {
			t.Errorf("Find at %d: %d, %d; want %d", at, node, e, want)
		}
	}
	end.Spans[0].To = 8001
	if node, e := reader.Find(end, 7999); node != 0 || e != api.ErrForm {
		t.Errorf("Find in 8001 bytes: %d, %d", node, e)
	}
}

// The example of Find in the chapter.
func TestFindExample(t *testing.T) {
	d := one(t, "(a 'b)")
	for at, want := range map[int]int{4: 4, 3: 3, 2: 0} {
		if node, e := reader.Find(d, at); node != want || e != api.OK {
			t.Errorf("Find at %d: %d, %d; want %d", at, node, e, want)
		}
	}
}

// P6.7, R3: Check and Find change nothing.
func TestCheckChangesNothing(t *testing.T) {
	d, want := one(t, "(a '(b) [])"), one(t, "(a '(b) [])")
	for at := range 12 {
		reader.Check(at, d)
		reader.Find(d, at)
	}
	if !sameDatum(d, want) {
		t.Fatalf("the datum has changed: %v", d)
	}
}
