package pattern_test

import (
	"math"
	"slices"
	"strconv"
	"strings"
	"testing"

	"mummer/api"
	"mummer/pattern"
)

// allLists calls f with all lists of at most n of these nodes.
func allLists(n int, of []api.StNode, f func([]api.StNode)) {
	var grow func(l []api.StNode)
	grow = func(l []api.StNode) {
		f(l)
		for _, x := range of {
			if len(l) < n {
				grow(append(slices.Clone(l), x))
			}
		}
	}
	grow(nil)
}

// P12.2 to P12.5: all short lists of nodes.
func TestShort(t *testing.T) {
	good := 0
	count := func(lits []api.PaId) func([]api.StNode) {
		return func(p []api.StNode) {
			if holdPattern(t, p, lits) {
				good++
			}
		}
	}
	allLists(5, nodes(li(0), li(1), li(2), li(3), sy("a"), sy("..."), sy("_"), in(5)), count(nil))
	allLists(4, nodes(li(2), li(3), sy("a"), scoped(sy("a"), "\x00\x01"), sy("..."), scoped(sy("..."), "\x00\x01"), scoped(sy("_"), "\x00\x01"), bo(1)), count(ids("a", "...")))
	// All lists of a few elements.
	for n := 1; n <= 6; n++ {
		allLists(n-1, nodes(sy("a"), sy("b"), sy("..."), sy("_"), sy("else")), func(l []api.StNode) {
			p := append(nodes(li(n), sy("m")), l...)
			count(ids("else"))(p)
			count(nil)(append(nodes(li(2), sy("a"), li(n), sy("m")), l...))
		})
	}
	if good < 1000 {
		t.Errorf("%d patterns", good)
	}
}

// P12.2 to P12.5: greater patterns, with errors and without.
func TestThrown(t *testing.T) {
	var d dice
	good := 0
	for i := range 4000 {
		if holdPattern(t, d.pattern(), someLits()[i%5]) {
			good++
		}
	}
	if good < 1500 || good > 3500 {
		t.Errorf("%d of 4000 are patterns", good)
	}
}

// P12.2, P12.3, P12.5: the examples of the chapter, and others.
func TestExamples(t *testing.T) {
	for _, x := range []struct {
		text   string
		lits   []api.PaId
		vars   []api.PaVar
		fewest int
	}{
		{"(m a (b c ...) ...)", nil, []api.PaVar{v("a", 0), v("b", 1), v("c", 2)}, 3},
		{"(m else a _ 5)", ids("else"), []api.PaVar{v("a", 0)}, 6},
		{"(m a ... b)", nil, []api.PaVar{v("a", 1), v("b", 0)}, 3},
		{"(m)", nil, nil, 2},
		{"(m else)", nil, []api.PaVar{v("else", 0)}, 3},
		{"(m m)", nil, []api.PaVar{v("m", 0)}, 3},
		{"(m m)", ids("m"), nil, 3},
		{"(... a ... b)", nil, []api.PaVar{v("a", 1), v("b", 0)}, 3},
		{"(_ _ _ ...)", nil, nil, 3},
		{"(m _ ...)", ids("_", "..."), nil, 2},
		{"(m else else (else ...))", ids("else"), nil, 5},
		{"(m 5 ... #t)", nil, nil, 3},
		{"(m () ... ())", nil, nil, 3},
		{"(m (a ...) (b ... 1))", nil, []api.PaVar{v("a", 1), v("b", 1)}, 5},
		{"(m (((a) ...) ...) ... (b))", nil, []api.PaVar{v("a", 3), v("b", 0)}, 4},
		{"(m (a (b (c ...) ...) ...) d e)", nil, []api.PaVar{v("a", 0), v("b", 1), v("c", 3), v("d", 0), v("e", 0)}, 6},
		{"(m ((((_ ...) ...) ...) ...) x)", nil, []api.PaVar{v("x", 0)}, 4},
		{"(m (((((((7 else)) ...) ...) ...) ...) ...))", ids("else"), nil, 3},
	} {
		p := syn(x.text)
		wantCheck(t, p, x.lits, 0, api.OK)
		wantVars(t, p, x.lits, x.vars, api.OK)
		wantFewest(t, p, x.lits, x.fewest, api.OK)
	}
}

// P12.2: the node and the error of the examples of the chapter, and of others.
func TestErrors(t *testing.T) {
	for _, x := range []struct {
		text string
		lits []api.PaId
		node int
		want api.Errno
	}{
		{"(m a a)", nil, 3, api.ErrTwice},
		{"(m ... a)", nil, 2, api.ErrForm},
		{"(m a ... b ...)", nil, 5, api.ErrForm},
		{"m", nil, 0, api.ErrForm},
		{"()", nil, 0, api.ErrForm},
		{"(5 a)", nil, 1, api.ErrForm},
		{"(() a)", nil, 1, api.ErrForm},
		{"((m) a)", nil, 1, api.ErrForm},
		{"(#t)", nil, 1, api.ErrForm},
		{"7", nil, 0, api.ErrForm},
		{"(m ...)", ids("..."), 2, api.ErrForm},
		{"(m (...))", nil, 3, api.ErrForm},
		{"(m (... a))", nil, 3, api.ErrForm},
		{"(m a ... ...)", nil, 4, api.ErrForm},
		{"(m (a ... ...) b)", nil, 5, api.ErrForm},
		{"(m (a ... b ...) ...)", nil, 6, api.ErrForm},
		{"(m a (b (a)))", nil, 6, api.ErrTwice},
		{"(m (a ...) a)", nil, 5, api.ErrTwice},
		{"(m a a ...)", nil, 3, api.ErrTwice},
		{"(m else else)", ids("if"), 3, api.ErrTwice},
		{"(m ((((a ...) ...) ...) ...))", nil, 6, api.ErrLong},
		{"(m ((((else a ...) ...) ...) ...))", ids("else"), 7, api.ErrLong},
		{"(m b ((((b ...) ...) ...) ...))", nil, 7, api.ErrLong},
		// The first node goes first, whatever its error.
		{"(m a a ((((b ...) ...) ...) ...) (...))", nil, 3, api.ErrTwice},
		{"(m a (...) a)", nil, 4, api.ErrForm},
		{"(m ((((b ...) ...) ...) ...) (...) b)", nil, 6, api.ErrLong},
		{"(m ... a a)", nil, 2, api.ErrForm},
	} {
		p := syn(x.text)
		wantCheck(t, p, x.lits, x.node, x.want)
		wantVars(t, p, x.lits, nil, x.want)
		wantFewest(t, p, x.lits, 0, x.want)
		if x.lits == nil {
			for _, node := range []int{-1, 0, 1, 2, 99} {
				wantParts(t, p, node, api.PaParts{}, x.want)
			}
		}
	}
}

// P12.1 to P12.5: what is no syntax has the error of stx.Check, and its node.
func TestNoSyntax(t *testing.T) {
	for _, l := range badSyntax() {
		for _, lits := range someLits() {
			node, e := checked(l, lits)
			if e == api.OK {
				t.Fatalf("%s is syntax", brief(l))
			}
			wantCheck(t, l, lits, node, e)
			wantVars(t, l, lits, nil, e)
			wantFewest(t, l, lits, 0, e)
			wantParts(t, l, 0, api.PaParts{}, e)
			wantParts(t, l, -1, api.PaParts{}, e)
			wantLits(t, l, nil, node, e)
		}
	}
}

// chain is a leaf within n lists in the pattern of a rule.
func chain(n int, leaf api.StNode) []api.StNode {
	return slices.Concat(nodes(li(2), sy("m")), slices.Repeat(nodes(li(1)), n), nodes(leaf))
}

// flat is the pattern of a rule with n variables.
func flat(n int) []api.StNode {
	p := nodes(li(n+1), sy("m"))
	for i := range n {
		p = append(p, sy("x"+strconv.Itoa(i)))
	}
	return p
}

// P12.2 to P12.5: patterns as great and as deep as syntax may be, and greater ones.
func TestGreat(t *testing.T) {
	p := flat(1998)
	vars, e := pattern.Vars(p, nil)
	if len(vars) != 1998 || vars[1997] != v("x1997", 0) || e != api.OK {
		t.Fatalf("%d variables, %d", len(vars), e)
	}
	wantFewest(t, p, nil, 2000, api.OK)
	wantParts(t, p, 0, api.PaParts{Before: 1998}, api.OK)
	if i, e := pattern.Find(vars, id("x1997")); i != 1997 || e != api.OK {
		t.Fatalf("%d, %d", i, e)
	}
	p[1999] = sy("...")
	wantCheck(t, p, nil, 0, api.OK)
	wantFewest(t, p, nil, 1998, api.OK)
	wantParts(t, p, 0, api.PaParts{Before: 1996, Rep: true}, api.OK)
	p[3] = sy("...")
	wantCheck(t, p, nil, 1999, api.ErrForm)
	p = flat(1998)
	p[1999] = p[2]
	wantCheck(t, p, nil, 1999, api.ErrTwice)
	wantCheck(t, flat(1999), nil, 0, api.ErrLong)
	wantCheck(t, chain(198, sy("a")), nil, 0, api.OK)
	wantVars(t, chain(199, sy("a")), nil, []api.PaVar{v("a", 0)}, api.OK)
	wantFewest(t, chain(199, sy("a")), nil, 202, api.OK)
	wantCheck(t, chain(200, sy("a")), nil, 202, api.ErrLong)
	wantCheck(t, chain(199, sy("...")), nil, 201, api.ErrForm)
	// Any number of literals.
	var lits []api.PaId
	for i := range 3000 {
		lits = append(lits, id("x"+strconv.Itoa(i)))
	}
	wantVars(t, flat(1998), lits, nil, api.OK)
	wantVars(t, flat(1998), lits[1:], []api.PaVar{v("x0", 0)}, api.OK)
}

// deep is the pattern of a rule in which a node is in n repeated elements, itself included.
func deep(n int, leaf api.StNode) []api.StNode {
	return slices.Concat(nodes(li(3), sy("m")), slices.Repeat(nodes(li(2)), n-1), nodes(leaf), slices.Repeat(nodes(sy("...")), n))
}

// P12.2, P12.3: a variable is in 3 repeated elements at most; other nodes are in as many as one likes.
func TestDepths(t *testing.T) {
	for n := 1; n <= 60; n++ {
		if n <= 3 {
			wantVars(t, deep(n, sy("a")), nil, []api.PaVar{v("a", n)}, api.OK)
		} else {
			wantCheck(t, deep(n, sy("a")), nil, n+1, api.ErrLong)
		}
		for _, leaf := range nodes(sy("_"), sy("else"), in(4), bo(0), li(0)) {
			wantVars(t, deep(n, leaf), ids("else"), nil, api.OK)
			wantFewest(t, deep(n, leaf), ids("else"), 2, api.OK)
		}
	}
}

// P12.3: the first variable that is this identifier, in any list of variables.
func TestFind(t *testing.T) {
	s1, s2 := "\x00\x01", "\x00\x02"
	l := []api.PaVar{v("a", 0), v("b", 2), {Id: api.PaId{S: "a", Scopes: s1}, Depth: 1}, v("b", 0), v("", -5), {Id: api.PaId{S: "...", Scopes: "odd"}, Depth: 99}, v("a", 3)}
	for _, x := range []struct {
		id   api.PaId
		at   int
		want api.Errno
	}{
		{id("a"), 0, api.OK}, {id("b"), 1, api.OK}, {api.PaId{S: "a", Scopes: s1}, 2, api.OK}, {id(""), 4, api.OK}, {api.PaId{S: "...", Scopes: "odd"}, 5, api.OK},
		{id("c"), 0, api.ErrNone}, {api.PaId{S: "a", Scopes: s2}, 0, api.ErrNone}, {api.PaId{S: "a" + s1}, 0, api.ErrNone}, {id("..."), 0, api.ErrNone}, {id("A"), 0, api.ErrNone},
	} {
		if i, e := pattern.Find(l, x.id); i != x.at || e != x.want {
			t.Errorf("%q: %d, %d; want %d, %d", x.id, i, e, x.at, x.want)
		}
	}
	for _, l := range [][]api.PaVar{nil, {}} {
		if i, e := pattern.Find(l, id("")); i != 0 || e != api.ErrNone {
			t.Errorf("%d, %d", i, e)
		}
	}
}

// P12.4: the parts of the lists of a pattern; other nodes, and numbers that are none, have none.
func TestParts(t *testing.T) {
	p := syn("(m a b ... (c) (d ... e 1) () (_ f ...))")
	for i, want := range map[int]api.PaParts{0: {Before: 1, Rep: true, After: 4}, 5: {Before: 1}, 7: {Rep: true, After: 2}, 12: {}, 13: {Before: 1, Rep: true}} {
		wantParts(t, p, i, want, api.OK)
	}
	for _, i := range []int{math.MinInt, -1, 1, 2, 3, 4, 6, 14, 15, 16, 17, 1999, 2000, math.MaxInt} {
		wantParts(t, p, i, api.PaParts{}, api.ErrNone)
	}
	wantParts(t, syn("(m)"), 0, api.PaParts{}, api.OK)
	wantParts(t, syn("(... a ...)"), 0, api.PaParts{Rep: true}, api.OK)
	// Without literals a literal that is there twice is a variable that is.
	wantParts(t, syn("(m else a else)"), 0, api.PaParts{}, api.ErrTwice)
}

// P12.1: the literals of a list, or the first element with an error.
func TestLits(t *testing.T) {
	s1, long := "\x00\x01", strings.Repeat("n", 24)
	scopes := nodes(li(4), sy("a"), scoped(sy("a"), s1), sy("A"), sy(long))
	wantLits(t, scopes, []api.PaId{id("a"), {S: "a", Scopes: s1}, id("A"), id(long)}, 0, api.OK)
	wantLits(t, append(nodes(li(5)), append(scopes[1:], scoped(sy("a"), s1))...), nil, 5, api.ErrTwice)
	for _, x := range []struct {
		text string
		lits []api.PaId
		node int
		want api.Errno
	}{
		{"()", nil, 0, api.OK}, {"(else)", ids("else"), 0, api.OK}, {"(b a c)", ids("b", "a", "c"), 0, api.OK}, {"(.. .... __ +)", ids("..", "....", "__", "+"), 0, api.OK},
		{"a", nil, 0, api.ErrForm}, {"5", nil, 0, api.ErrForm}, {"#f", nil, 0, api.ErrForm}, {"...", nil, 0, api.ErrForm},
		{"(a 5)", nil, 2, api.ErrForm}, {"(#t)", nil, 1, api.ErrForm}, {"(a ())", nil, 2, api.ErrForm}, {"(a (b c) d)", nil, 2, api.ErrForm}, {"((a))", nil, 1, api.ErrForm},
		{"(a ...)", nil, 2, api.ErrForm}, {"(_ a)", nil, 1, api.ErrForm}, {"(a _)", nil, 2, api.ErrForm},
		{"(a b a)", nil, 3, api.ErrTwice}, {"(a a 5)", nil, 2, api.ErrTwice}, {"(a 5 a)", nil, 2, api.ErrForm}, {"(a b b a (c))", nil, 3, api.ErrTwice},
	} {
		wantLits(t, syn(x.text), x.lits, x.node, x.want)
	}
	dots := nodes(li(2), sy("a"), scoped(sy("..."), s1))
	wantLits(t, dots, nil, 2, api.ErrForm)
	dots[2].S = "_"
	wantLits(t, dots, nil, 2, api.ErrForm)
}

// P12.1: 20 elements and no more; this goes before their errors.
func TestLitsLimit(t *testing.T) {
	for n := 18; n <= 23; n++ {
		l := append(nodes(li(n)), flat(n)[2:]...)
		same := append(nodes(li(n)), slices.Repeat(nodes(sy("a")), n)...)
		lists := append(nodes(li(n)), slices.Repeat(nodes(li(1), sy("a")), n)...)
		if n > 20 {
			wantLits(t, l, nil, 0, api.ErrLong)
			wantLits(t, same, nil, 0, api.ErrLong)
			wantLits(t, lists, nil, 0, api.ErrLong)
			continue
		}
		var want []api.PaId
		for _, x := range l[1:] {
			want = append(want, id(x.S))
		}
		wantLits(t, l, want, 0, api.OK)
		wantLits(t, same, nil, 2, api.ErrTwice)
		wantLits(t, lists, nil, 1, api.ErrForm)
		l[n] = l[1]
		wantLits(t, l, nil, n, api.ErrTwice)
	}
	great := append(nodes(li(2), sy("a"), li(100)), slices.Repeat(nodes(sy("a")), 100)...)
	wantLits(t, great, nil, 2, api.ErrForm)
}
