package match_test

import (
	"math"
	"slices"
	"strconv"
	"testing"

	"mummer/api"
	"mummer/match"
	"mummer/pattern"
)

// rows returns all lists of parts with n nodes in all, the leaves of which are these.
func rows(n int, leaves []api.StNode) [][]part {
	if n == 0 {
		return [][]part{nil}
	}
	var all [][]part
	for first := 1; first <= n; first++ {
		var starts []part
		for _, l := range rows(first-1, leaves) {
			starts = append(starts, part{StNode: li(0), kids: l})
		}
		if first == 1 {
			for _, n := range leaves {
				starts = append(starts, part{StNode: n})
			}
		}
		for _, rest := range rows(n-first, leaves) {
			for _, x := range starts {
				all = append(all, append([]part{x}, rest...))
			}
		}
	}
	return all
}

// lists returns all lists with this first element, and at most n nodes behind it.
func lists(head part, n int, leaves []api.StNode) [][]api.StNode {
	var all [][]api.StNode
	for k := range n + 1 {
		for _, l := range rows(k, leaves) {
			all = append(all, part{StNode: li(0), kids: append([]part{head}, l...)}.flat())
		}
	}
	return all
}

// patterns returns those of these lists that are patterns, after each symbol a has got a name of its own.
func patterns(all [][]api.StNode, lits []api.PaId) [][]api.StNode {
	var good [][]api.StNode
	for _, p := range all {
		for i := range p {
			if p[i].S == "a" {
				p[i].S += strconv.Itoa(i)
			}
		}
		if _, e := pattern.Check(p, lits); e == api.OK {
			good = append(good, p)
		}
	}
	return good
}

// P13.1, P13.2: all small patterns with all small inputs.
func TestSmall(t *testing.T) {
	lits := ids("else")
	inPatterns, inInputs := nodes(sy("a"), sy("..."), sy("_"), in(5), sy("else")), nodes(in(5), sy("else"), bo(1))
	m, number := part{StNode: sy("m")}, part{StNode: in(7)}
	for _, x := range []struct {
		patterns, inputs [][]api.StNode
		fewest           int // so many of the pairs match at least
	}{
		{patterns(lists(m, 3, inPatterns), lits), lists(number, 4, inInputs), 10000},
		{patterns(lists(m, 4, inPatterns), lits), lists(number, 2, inInputs), 3000},
		{patterns(lists(m, 5, nodes(sy("a"), sy("..."))), lits), lists(number, 4, nodes(in(5))), 5000},
	} {
		good := 0
		for _, p := range x.patterns {
			for _, input := range x.inputs {
				if holdMatch(t, nil, p, lits, input) {
					good++
				}
			}
		}
		if good < x.fewest {
			t.Errorf("%d of %d * %d match", good, len(x.patterns), len(x.inputs))
		}
	}
}

// P13.1, P13.2: greater patterns with inputs that match them, or nearly.
func TestThrown(t *testing.T) {
	var d dice
	good := 0
	for range 4000 {
		p, lits := d.pattern()
		table := d.table()
		x := d.input(rule{table, lits}, p)
		for range 5 {
			if holdMatch(t, table, p, lits, x.flat()) {
				good++
			}
			x = d.spoil(x)
		}
	}
	if good < 5000 || good > 15000 {
		t.Errorf("%d of 20000 match", good)
	}
}

// has is what a variable without scopes has.
func has(s string, depth int, l ...api.MaNode) api.MaBind {
	return api.MaBind{Id: id(s), Depth: depth, Tree: l}
}

// P13.1: the examples of the chapter, and others.
func TestMatchExamples(t *testing.T) {
	for _, x := range []struct {
		pattern, input string
		lits           []api.PaId
		want           []api.MaBind
	}{
		{"(m a b)", "(m 1 (2 3))", nil, []api.MaBind{has("a", 0, leaf(2)), has("b", 0, leaf(3))}},
		{"(m a ...)", "(m 1 2 3)", nil, []api.MaBind{has("a", 1, times(3), leaf(2), leaf(3), leaf(4))}},
		{"(m a ...)", "(m)", nil, []api.MaBind{has("a", 1, times(0))}},
		{"(m (a b ...) ...)", "(m (1 2 3) (4))", nil, []api.MaBind{has("a", 1, times(2), leaf(3), leaf(7)), has("b", 2, times(2), times(2), leaf(4), leaf(5), times(0))}},
		{"(m a ... b)", "(m 1 2 3)", nil, []api.MaBind{has("a", 1, times(2), leaf(2), leaf(3)), has("b", 0, leaf(4))}},
		{"(m a ... b)", "(m 1)", nil, []api.MaBind{has("a", 1, times(0)), has("b", 0, leaf(2))}},
		// Nothing was matched, but each variable has a tree.
		{"(m (a (b ...) ...) ...)", "(m)", nil, []api.MaBind{has("a", 1, times(0)), has("b", 2+1, times(0))}},
		{"(m (a (b ...) ...) ...)", "(m (1) (2 ()))", nil, []api.MaBind{has("a", 1, times(2), leaf(3), leaf(5)), has("b", 3, times(2), times(0), times(1), times(0))}},
		{"(m (a ...) (b ...))", "(m () (()))", nil, []api.MaBind{has("a", 1, times(0)), has("b", 1, times(1), leaf(4))}},
		// The first element is not looked at, whatever it is, on both sides.
		{"(m)", "(())", nil, nil},
		{"(m)", "((1 (2) 3))", nil, nil},
		{"(m a)", "((1 (2) 3) 4)", nil, []api.MaBind{has("a", 0, leaf(6))}},
		{"(m a ...)", "(#t 4)", nil, []api.MaBind{has("a", 1, times(1), leaf(2))}},
		{"(m m)", "(7 8)", nil, []api.MaBind{has("m", 0, leaf(2))}},
		{"(m)", "(n)", ids("m"), nil},
		{"(... a ... b)", "(... 1 2)", nil, []api.MaBind{has("a", 1, times(1), leaf(2)), has("b", 0, leaf(3))}},
		{"(... a)", "(m 1)", nil, []api.MaBind{has("a", 0, leaf(2))}},
		{"(_ a)", "(m 1)", nil, []api.MaBind{has("a", 0, leaf(2))}},
		// A blank, and a variable, match anything; no literal is a blank or an ellipsis.
		{"(m _ a _)", "(m (1 2) (3 (4)) ...)", nil, []api.MaBind{has("a", 0, leaf(5))}},
		{"(m _ ...)", "(m 1 () x)", ids("_", "..."), nil},
		{"(m a b)", "(m ... _)", ids("_", "..."), []api.MaBind{has("a", 0, leaf(2)), has("b", 0, leaf(3))}},
		{"(m (_ ...) a)", "(m () ())", nil, []api.MaBind{has("a", 0, leaf(3))}},
		// Integers and booleans; repeated elements without variables.
		{"(m 5 -5 #t #f a)", "(m 5 -5 #t #f 5)", nil, []api.MaBind{has("a", 0, leaf(6))}},
		{"(m 1 ... a)", "(m 1 1 1)", nil, []api.MaBind{has("a", 0, leaf(4))}},
		{"(m () ... a)", "(m () () ())", nil, []api.MaBind{has("a", 0, leaf(4))}},
		{"(m (((((7 else) ...) ...) ...) ...) a)", "(m (((((7 else) (7 else)))) () (())) 1)", ids("else"), []api.MaBind{has("a", 0, leaf(15))}},
		{"(m else else (else ...))", "(m else else (else else else))", ids("else"), nil},
		// As many elements behind an ellipsis as there are.
		{"(m a b ... c d)", "(m 1 2 3)", nil, []api.MaBind{has("a", 0, leaf(2)), has("b", 1, times(0)), has("c", 0, leaf(3)), has("d", 0, leaf(4))}},
		{"(m (a ... b c) ...)", "(m (1 2) (3 4 5 6))", nil, []api.MaBind{has("a", 2, times(2), times(0), times(2), leaf(6), leaf(7)), has("b", 1, times(2), leaf(3), leaf(8)), has("c", 1, times(2), leaf(4), leaf(9))}},
		{"(m (((a ...) ...) ...))", "(m (((1 2) ()) () ((3))))", nil, []api.MaBind{has("a", 3, times(3), times(2), times(2), leaf(5), leaf(6), times(0), times(0), times(1), times(1), leaf(11))}},
	} {
		wantMatch(t, nil, syn(x.pattern), x.lits, syn(x.input), x.want)
	}
}

// P13.2: the node at which it is seen first that the examples of the chapter, and others, do not match.
func TestMismatchExamples(t *testing.T) {
	for _, x := range []struct {
		pattern, input string
		lits           []api.PaId
		node           int
	}{
		{"(m a)", "(m)", nil, 0},
		{"(m a)", "(m 1 2)", nil, 0},
		{"(m a)", "5", nil, 0},
		{"(m a)", "m", nil, 0},
		{"(m)", "()", nil, 0},
		{"(m a ...)", "()", nil, 0},
		{"(m a ...)", "#t", nil, 0},
		{"(m)", "(m 1)", nil, 0},
		{"(m a ... b c)", "(m 1)", nil, 0},
		{"(m a b ... c)", "(m 1)", nil, 0},
		{"(m 5)", "(m 6)", nil, 2},
		{"(m 1)", "(m #t)", nil, 2},
		{"(m #t)", "(m 1)", nil, 2},
		{"(m #f)", "(m ())", nil, 2},
		{"(m 0)", "(m ())", nil, 2},
		{"(m 0)", "(m x)", nil, 2},
		{"(m #t)", "(m #f)", nil, 2},
		{"(m else)", "(m (else))", ids("else"), 2},
		{"(m else)", "(m 0)", ids("else"), 2},
		{"(m else)", "(m other)", ids("else"), 2},
		{"(m else)", "(m _)", ids("else"), 2},
		{"(m ())", "(m 0)", nil, 2},
		{"(m ())", "(m x)", nil, 2},
		{"(m (a ...))", "(m #f)", nil, 2},
		{"(m ())", "(m (()))", nil, 2},
		{"(m (a))", "(m ())", nil, 2},
		// The first element has nodes of its own.
		{"(m 5)", "((1 2) 6)", nil, 4},
		{"(m a 5)", "((1 2) (3 (4)) 6)", nil, 8},
		// A list with another number of elements is seen before what is in it, and what is in a list before what is behind it.
		{"(m 5 6)", "(m 6 5 7)", nil, 0},
		{"(m (5) 6)", "(m (7 7) 7)", nil, 2},
		{"(m (5) 6)", "(m (7) 7)", nil, 3},
		{"(m (5 (6)) 7)", "(m (5 (7)) 8)", nil, 5},
		{"(m (5 (6)) 7)", "(m (5 (6)) 8)", nil, 6},
		{"(m (a (b)) (c) 5)", "(m (1 (2)) 3 6)", nil, 6},
		// So it is before, in and behind what is repeated.
		{"(m 5 6 ... 7)", "(m 6 7 8)", nil, 2},
		{"(m 5 6 ... 7)", "(m 5 7 8)", nil, 3},
		{"(m 5 6 ... 7)", "(m 5 6 6 8)", nil, 5},
		{"(m 5 6 ... 7)", "(m 5 6 5 8)", nil, 4},
		{"(m 5 6 ... 7)", "(m 5 8)", nil, 3},
		{"(m (a 5 ...) ...)", "(m (1) (2 5 5) (3 5 6 7) ())", nil, 11},
		{"(m (a 5 ...) ...)", "(m (1) () (2 6))", nil, 4},
		{"(m (a 5 ...) ... 6)", "(m (1) (2) 7 6)", nil, 6},
		{"(m (a) ... (b))", "(m (1) (2) ())", nil, 6},
	} {
		wantMismatch(t, nil, syn(x.pattern), x.lits, syn(x.input), x.node)
	}
}

// P13.1: spans, origins, and the scopes of what is no literal, make no difference; those of a variable are in its identifier.
func TestScopesAndPlaces(t *testing.T) {
	p, input := syn("(m (a 5 #t) b ...)"), syn("(m (1 5 #t) x (y))")
	p[3].Scopes, p[6].Scopes = set(1), set(1, 2)
	want := []api.MaBind{{Id: api.PaId{S: "a", Scopes: set(1)}, Tree: tree(leaf(3))}, {Id: api.PaId{S: "b", Scopes: set(1, 2)}, Depth: 1, Tree: tree(times(2), leaf(6), leaf(7))}}
	for _, s := range []string{"", set(1), set(2, 65535)} {
		for i := range input {
			input[i].Scopes = s
			input[i].Span = api.SpSpan{From: 3, To: 9}
			input[i].Origin = 7
		}
		for _, i := range []int{0, 1, 2, 4, 5} {
			p[i].Scopes = s
		}
		wantMatch(t, nil, p, nil, input, want)
	}
	// The same symbol with other scopes is another variable, or no literal.
	p = nodes(li(3), sy("m"), sy("a"), scoped(sy("a"), set(1)))
	input = nodes(li(3), sy("m"), in(1), in(2))
	one := api.PaId{S: "a", Scopes: set(1)}
	wantMatch(t, nil, p, nil, input, []api.MaBind{has("a", 0, leaf(2)), {Id: one, Tree: tree(leaf(3))}})
	input[2] = sy("a")
	wantMatch(t, nil, p, ids("a"), input, []api.MaBind{{Id: one, Tree: tree(leaf(3))}})
	wantMismatch(t, nil, p, []api.PaId{one}, input, 3)
}

// A literal matches what means the same: for all tables of some bindings, all scopes of the literal, and all symbols with scopes.
func TestLiterals(t *testing.T) {
	sets := []string{"", set(1), set(2), set(1, 2), set(1, 2, 3)}
	tables := [][]api.BnBind{nil}
	for _, b := range []api.BnBind{
		{Name: "else", What: api.BnForm, Ref: 7}, {Name: "else", Scopes: set(1), What: api.BnVar}, {Name: "else", Scopes: set(2), What: api.BnVar},
		{Name: "else", Scopes: set(1, 2), What: api.BnMacro}, {Name: "other", What: api.BnForm, Ref: 7},
	} {
		for _, t := range tables {
			tables = append(tables, append(slices.Clone(t), b))
		}
	}
	good := 0
	for _, table := range tables {
		for _, mine := range sets {
			p, lits := nodes(li(2), sy("m"), scoped(sy("else"), mine)), []api.PaId{{S: "else", Scopes: mine}}
			for _, theirs := range sets {
				for _, s := range []string{"else", "other", "none"} {
					if holdMatch(t, table, p, lits, nodes(li(2), sy("m"), scoped(sy(s), theirs))) {
						good++
					}
				}
			}
		}
	}
	if good < 200 {
		t.Errorf("%d match", good)
	}
}

// What is ambiguous is matched by no literal, and matches none, not even itself; this is no error.
func TestAmbiguous(t *testing.T) {
	table := []api.BnBind{{Name: "else", Scopes: set(1), What: api.BnVar}, {Name: "else", Scopes: set(2), What: api.BnVar, Ref: 1}}
	both := scoped(sy("else"), set(1, 2))
	pattern := func(literal api.StNode) []api.StNode { return nodes(li(3), sy("m"), sy("a"), literal) }
	input := func(symbol api.StNode) []api.StNode { return nodes(li(3), sy("m"), in(1), symbol) }
	for _, literal := range nodes(sy("else"), scoped(sy("else"), set(1)), both) {
		lits := []api.PaId{{S: "else", Scopes: literal.Scopes}}
		wantMismatch(t, table, pattern(literal), lits, input(both), 3)
		if literal != both {
			wantMatch(t, table, pattern(literal), lits, input(literal), []api.MaBind{has("a", 0, leaf(2))})
		}
		wantMismatch(t, table, pattern(both), []api.PaId{{S: "else", Scopes: both.Scopes}}, input(literal), 3)
	}
	wantMatch(t, table, pattern(both), nil, input(both), []api.MaBind{has("a", 0, leaf(2)), {Id: api.PaId{S: "else", Scopes: both.Scopes}, Tree: tree(leaf(3))}})
}

// P13.1, P13.2: the error of the table goes before that of the pattern, and this before that of the input.
func TestErrors(t *testing.T) {
	tables := [][]api.BnBind{nil, {{}}, {{Name: "x", What: 5}}, make([]api.BnBind, 1001), {{Name: "x", What: 1}, {Name: "x", What: 2}}, {{Name: "x", What: 1, Scopes: "\x00"}}}
	rules := []struct {
		p    []api.StNode
		lits []api.PaId
		e    api.Errno
	}{
		{syn("(m a 5)"), nil, api.OK}, {syn("m"), nil, api.ErrForm}, {syn("()"), nil, api.ErrForm}, {syn("(5)"), nil, api.ErrForm}, {syn("(m ...)"), nil, api.ErrForm},
		{syn("(m a a)"), nil, api.ErrTwice}, {syn("(m a a)"), ids("b"), api.ErrTwice}, {syn("(m ((((a ...) ...) ...) ...))"), nil, api.ErrLong}, {nil, nil, api.ErrForm},
		{make([]api.StNode, 2001), nil, api.ErrLong}, {nodes(bo(2)), nil, api.ErrRange}, {nodes(li(2), sy("m")), nil, api.ErrForm},
	}
	inputs := []struct {
		l []api.StNode
		e api.Errno
	}{
		{syn("(m 1 5)"), api.OK}, {syn("(m)"), api.ErrMatch}, {nil, api.ErrForm}, {make([]api.StNode, 2001), api.ErrLong}, {nodes(bo(2)), api.ErrRange},
		{nodes(li(3), sy("m"), in(1)), api.ErrForm}, {nodes(in(1), in(1)), api.ErrForm}, {nodes(li(3), sy("m"), in(1), scoped(in(6), "\x01")), api.ErrForm},
		{append(slices.Repeat(nodes(li(1)), 201), in(1)), api.ErrLong}, {nodes(api.StNode{Kind: api.StInt, Origin: -1}), api.ErrRange},
	}
	for i, table := range tables {
		for _, r := range rules {
			for _, x := range inputs {
				want := []api.Errno{api.OK, api.ErrForm, api.ErrRange, api.ErrLong, api.ErrTwice, api.ErrForm}[i]
				if want == api.OK {
					want = r.e
				}
				if want == api.OK {
					want = x.e
				}
				switch want {
				case api.OK:
					wantMatch(t, table, r.p, r.lits, x.l, []api.MaBind{has("a", 0, leaf(2))})
				case api.ErrMatch:
					wantMismatch(t, table, r.p, r.lits, x.l, 0)
				default:
					wantError(t, table, r.p, r.lits, x.l, want)
				}
			}
		}
	}
}

// wide is a list of a symbol and n integers.
func wide(n int) []api.StNode {
	return append(nodes(li(n+1), sy("m")), slices.Repeat(nodes(in(1)), n)...)
}

// chain is a leaf within n lists, as the second element of a list.
func chain(n int, leaf api.StNode) []api.StNode {
	return slices.Concat(nodes(li(2), sy("m")), slices.Repeat(nodes(li(1)), n), nodes(leaf))
}

// P13.1, P13.2: patterns and inputs as great and as deep as they may be, and greater ones.
func TestGreat(t *testing.T) {
	p := nodes(li(1999), sy("m"))
	var each []api.MaBind
	all := has("a", 1, times(1998))
	for i := range 1998 {
		name := "x" + strconv.Itoa(i)
		p = append(p, sy(name))
		each = append(each, has(name, 0, leaf(i+2)))
		all.Tree = append(all.Tree, leaf(i+2))
	}
	wantMatch(t, nil, p, nil, wide(1998), each)
	wantMismatch(t, nil, p, nil, wide(1997), 0)
	wantMatch(t, nil, syn("(m a ...)"), nil, wide(1998), []api.MaBind{all})
	wantError(t, nil, syn("(m a ...)"), nil, wide(1999), api.ErrLong)
	p[1999] = sy("...")
	each = slices.Clone(each[:1997])
	each[1996] = has("x1996", 1, times(2), leaf(1998), leaf(1999))
	wantMatch(t, nil, p, nil, wide(1998), each)
	wantMismatch(t, nil, p, nil, wide(1995), 0)
	wantMatch(t, nil, chain(199, sy("a")), nil, chain(199, in(7)), []api.MaBind{has("a", 0, leaf(201))})
	wantMatch(t, nil, chain(198, sy("a")), nil, chain(199, in(7)), []api.MaBind{has("a", 0, leaf(200))})
	wantMismatch(t, nil, chain(199, sy("a")), nil, chain(198, in(7)), 200)
	wantMismatch(t, nil, chain(199, in(7)), nil, chain(199, in(8)), 201)
	wantError(t, nil, chain(199, sy("a")), nil, chain(200, in(7)), api.ErrLong)
	// Any number of literals.
	var lits []api.PaId
	for i := range 3000 {
		lits = append(lits, id("x"+strconv.Itoa(i)))
	}
	p = nodes(li(3), sy("m"), sy("x2999"), sy("x3000"))
	wantMatch(t, nil, p, lits, nodes(li(3), sy("m"), sy("x2999"), in(1)), []api.MaBind{has("x3000", 0, leaf(3))})
	wantMismatch(t, nil, p, lits, wide(2), 2)
	for _, n := range []int64{math.MinInt64, -1, 0, 1, math.MaxInt64} {
		for _, k := range []int64{math.MinInt64, -1, 0, 1, math.MaxInt64} {
			holdMatch(t, nil, nodes(li(2), sy("m"), in(n)), nil, nodes(li(2), sy("m"), in(k)))
		}
	}
	empty := append(nodes(li(1999), sy("m")), slices.Repeat(nodes(li(0)), 1998)...)
	l, e := match.Match(nil, syn("(m ((a b ...) ... ) ...)"), nil, empty)
	if e != api.OK || len(l) != 2 || len(l[0].Tree) != 1999 || len(l[1].Tree) != 1999 || l[1].Tree[0] != times(1998) || l[1].Tree[1998] != times(0) {
		t.Errorf("%d", e)
	}
}
