package pattern_test

import (
	"fmt"
	"slices"
	"strconv"
	"testing"

	"mummer/api"
	"mummer/pattern"
	"mummer/reader"
	"mummer/stx"
)

func in(n int64) api.StNode              { return api.StNode{Kind: api.StInt, N: n} }
func bo(n int64) api.StNode              { return api.StNode{Kind: api.StBool, N: n} }
func sy(s string) api.StNode             { return api.StNode{Kind: api.StSymbol, S: s} }
func li(kids int) api.StNode             { return api.StNode{Kind: api.StList, Kids: kids} }
func nodes(l ...api.StNode) []api.StNode { return l }

// scoped returns n with this set of scopes.
func scoped(n api.StNode, set string) api.StNode {
	n.Scopes = set
	return n
}

// id is an identifier without scopes.
func id(s string) api.PaId { return api.PaId{S: s} }

// ids are identifiers without scopes.
func ids(l ...string) []api.PaId {
	var all []api.PaId
	for _, s := range l {
		all = append(all, id(s))
	}
	return all
}

// v is a variable without scopes.
func v(s string, depth int) api.PaVar { return api.PaVar{Id: id(s), Depth: depth} }

// syn is the syntax that a text is, as it is read.
func syn(text string) []api.StNode {
	d, _, e := reader.One([]byte(text))
	if e != api.OK {
		panic("no datum: " + text)
	}
	l, e := stx.Of(d)
	if e != api.OK {
		panic("no syntax: " + text)
	}
	return l
}

// A stand is a node of syntax, and where it is.
type stand struct {
	api.StNode
	parent, place int   // in which list (-1: in none), and as which element
	kids          []int // its elements
}

// stands returns what the nodes of l are.
func stands(l []api.StNode) []stand {
	var all []stand
	var add func(parent, place int)
	add = func(parent, place int) {
		i := len(all)
		all = append(all, stand{StNode: l[i], parent: parent, place: place})
		for k := range l[i].Kids {
			all[i].kids = append(all[i].kids, len(all))
			add(i, k)
		}
	}
	add(-1, 0)
	return all
}

// dots reports whether node i is an ellipsis.
func dots(all []stand, i int) bool { return all[i].Kind == api.StSymbol && all[i].S == "..." }

// lookedAt returns the elements of node i that are looked at.
func lookedAt(all []stand, i int) []int {
	if i == 0 {
		return all[i].kids[1:]
	}
	return all[i].kids
}

// repeated reports whether an ellipsis is behind node i.
func repeated(all []stand, i int) bool {
	if i == 0 {
		return false
	}
	after := all[all[i].parent].kids[all[i].place+1:]
	return len(after) > 0 && dots(all, after[0])
}

// depthOf is the definition of a depth.
func depthOf(all []stand, i int) int {
	depth := 0
	for ; i > 0; i = all[i].parent {
		if repeated(all, i) {
			depth++
		}
	}
	return depth
}

// isVar reports whether node i is a variable.
func isVar(all []stand, lits []api.PaId, i int) bool {
	n := all[i]
	return i > 1 && n.Kind == api.StSymbol && n.S != "..." && n.S != "_" && !slices.Contains(lits, api.PaId{S: n.S, Scopes: n.Scopes})
}

// nodeError is P12.2 for a node behind the first element.
func nodeError(all []stand, lits []api.PaId, i int) api.Errno {
	if dots(all, i) {
		of := lookedAt(all, all[i].parent)
		at := slices.Index(of, i)
		if at == 0 || slices.ContainsFunc(of[:at], func(k int) bool { return dots(all, k) }) {
			return api.ErrForm
		}
		return api.OK
	}
	if !isVar(all, lits, i) {
		return api.OK
	}
	if depthOf(all, i) > 3 {
		return api.ErrLong
	}
	for k := range i {
		if isVar(all, lits, k) && stx.Same(all[k].StNode, all[i].StNode) {
			return api.ErrTwice
		}
	}
	return api.OK
}

// checked is P12.2.
func checked(p []api.StNode, lits []api.PaId) (int, api.Errno) {
	if i, e := stx.Check(p); e != api.OK {
		return i, e
	}
	switch {
	case p[0].Kind != api.StList || len(p) == 1:
		return 0, api.ErrForm
	case p[1].Kind != api.StSymbol:
		return 1, api.ErrForm
	}
	all := stands(p)
	for i := 2; i < len(all); i++ {
		if e := nodeError(all, lits, i); e != api.OK {
			return i, e
		}
	}
	return 0, api.OK
}

// varsOf are the variables of a pattern, by the definition.
func varsOf(p []api.StNode, lits []api.PaId) []api.PaVar {
	var vars []api.PaVar
	all := stands(p)
	for i, n := range all {
		if isVar(all, lits, i) {
			vars = append(vars, api.PaVar{Id: api.PaId{S: n.S, Scopes: n.Scopes}, Depth: depthOf(all, i)})
		}
	}
	return vars
}

// partsOf is the definition of the parts of a list.
func partsOf(all []stand, i int) api.PaParts {
	l := lookedAt(all, i)
	at := slices.IndexFunc(l, func(k int) bool { return dots(all, k) })
	if at < 0 {
		return api.PaParts{Before: len(l)}
	}
	return api.PaParts{Before: at - 1, Rep: true, After: len(l) - at - 1}
}

// needed is P12.5 for node i and what is in it.
func needed(all []stand, i int) int {
	n := 1
	if i == 0 {
		n = 2
	}
	if all[i].Kind == api.StList {
		for _, k := range lookedAt(all, i) {
			if !dots(all, k) && !repeated(all, k) {
				n += needed(all, k)
			}
		}
	}
	return n
}

// badSyntax are lists of nodes that are no syntax.
func badSyntax() [][]api.StNode {
	return [][]api.StNode{
		nil, {}, make([]api.StNode, 2001), nodes(api.StNode{}), nodes(li(1)), nodes(li(2), sy("m")), nodes(li(1), sy("m"), sy("a")),
		nodes(li(2), sy("m"), sy("a b")), nodes(li(2), sy("m"), bo(2)), nodes(li(2), sy("m"), scoped(sy("a"), "\x01")),
		nodes(li(2), sy("m"), scoped(in(1), "\x00\x02\x00\x01")), nodes(li(2), sy("m"), api.StNode{Kind: api.StInt, Origin: -1}),
		nodes(li(2), sy("m"), api.StNode{Kind: api.StSymbol, S: "a", Span: api.SpSpan{From: 2, To: 1}}),
		append(slices.Repeat(nodes(li(1)), 201), sy("a")),
	}
}

// A dice throws numbers that follow from how it begins.
type dice uint64

func (d *dice) below(n int) int {
	*d = *d*6364136223846793005 + 1442695040888963407
	return int(*d>>33) % n
}

// leaf throws a node without elements; name: the number of the next variable.
func (d *dice) leaf(name *int) api.StNode {
	switch d.below(9) {
	case 0:
		return in(int64(d.below(3)))
	case 1:
		return bo(int64(d.below(2)))
	case 2:
		return sy("_")
	case 3:
		return scoped(sy("else"), []string{"", "\x00\x01"}[d.below(2)])
	case 4:
		if d.below(6) == 0 {
			return sy("...")
		}
	case 5:
		if *name > 0 && d.below(6) == 0 {
			return sy("v" + strconv.Itoa(d.below(*name)))
		}
	}
	*name++
	return scoped(sy("v"+strconv.Itoa(*name-1)), []string{"", "\x00\x01", "\x00\x01\x00\x02"}[d.below(3)])
}

// list throws a list in which at most so many lists are in each other.
func (d *dice) list(deep int, name *int) []api.StNode {
	l := nodes(li(0))
	had := false
	for range d.below(5) {
		if deep > 0 && d.below(2) == 0 {
			l = append(l, d.list(deep-1, name)...)
		} else {
			l = append(l, d.leaf(name))
		}
		l[0].Kids++
		if !had && d.below(3) == 0 {
			l = append(l, scoped(sy("..."), []string{"", "\x00\x09"}[d.below(2)]))
			l[0].Kids++
			had = d.below(8) > 0
		}
	}
	return l
}

// pattern throws the pattern of a rule, which may have an error, but most have none.
func (d *dice) pattern() []api.StNode {
	var name int
	p := d.list(5, &name)
	head := []api.StNode{sy("m"), sy("v0"), sy("..."), sy("_"), sy("else")}[d.below(5)]
	p = slices.Insert(p, 1, head)
	p[0].Kids++
	return p
}

// someLits are lists of literals.
func someLits() [][]api.PaId {
	return [][]api.PaId{nil, ids("else"), {{S: "else", Scopes: "\x00\x01"}}, ids("else", "v1", "v0"), ids("...", "_", "", "1", "m", "else", "else")}
}

// brief returns the beginning of what a list of nodes is as a text.
func brief(l []api.StNode) string {
	s, e := stx.Print(l)
	if e != api.OK {
		s = fmt.Sprintf("%+v", l)
	}
	if len(s) > 300 {
		s = s[:300] + ".. (" + strconv.Itoa(len(s)) + " bytes)"
	}
	return s
}

// wantCheck fails if Check does not have this answer.
func wantCheck(t *testing.T, p []api.StNode, lits []api.PaId, node int, want api.Errno) {
	t.Helper()
	if n, e := pattern.Check(p, lits); n != node || e != want {
		t.Fatalf("Check(%s, %.200q): %d, %d; want %d, %d", brief(p), lits, n, e, node, want)
	}
}

// wantVars fails if Vars does not have these variables, or this error.
func wantVars(t *testing.T, p []api.StNode, lits []api.PaId, vars []api.PaVar, want api.Errno) {
	t.Helper()
	if l, e := pattern.Vars(p, lits); !slices.Equal(l, vars) || e != want {
		t.Fatalf("Vars(%s, %.200q): %+v, %d; want %+v, %d", brief(p), lits, l, e, vars, want)
	}
}

// wantFewest fails if Fewest does not have this number, or this error.
func wantFewest(t *testing.T, p []api.StNode, lits []api.PaId, fewest int, want api.Errno) {
	t.Helper()
	if n, e := pattern.Fewest(p, lits); n != fewest || e != want {
		t.Fatalf("Fewest(%s, %.200q): %d, %d; want %d, %d", brief(p), lits, n, e, fewest, want)
	}
}

// wantParts fails if Parts does not have these parts, or this error.
func wantParts(t *testing.T, p []api.StNode, node int, parts api.PaParts, want api.Errno) {
	t.Helper()
	if x, e := pattern.Parts(p, node); x != parts || e != want {
		t.Fatalf("Parts(%s, %d): %v, %d; want %v, %d", brief(p), node, x, e, parts, want)
	}
}

// wantLits fails if Lits does not have these literals, or this error.
func wantLits(t *testing.T, l []api.StNode, lits []api.PaId, node int, want api.Errno) {
	t.Helper()
	if got, n, e := pattern.Lits(l); !slices.Equal(got, lits) || n != node || e != want {
		t.Fatalf("Lits(%s): %.200q, %d, %d; want %.200q, %d, %d", brief(l), got, n, e, lits, node, want)
	}
}

// holdPattern holds all functions for p against the definitions; it returns whether p is a pattern.
func holdPattern(t *testing.T, p []api.StNode, lits []api.PaId) bool {
	t.Helper()
	node, e := checked(p, lits)
	wantCheck(t, p, lits, node, e)
	if e != api.OK {
		wantVars(t, p, lits, nil, e)
		wantFewest(t, p, lits, 0, e)
	} else {
		wantVars(t, p, lits, varsOf(p, lits), api.OK)
		wantFewest(t, p, lits, needed(stands(p), 0), api.OK)
	}
	holdParts(t, p)
	return e == api.OK
}

// holdParts holds Parts for each node of p against the definition.
func holdParts(t *testing.T, p []api.StNode) {
	t.Helper()
	_, e := checked(p, nil)
	for i := -1; i <= len(p); i++ {
		switch {
		case e != api.OK:
			wantParts(t, p, i, api.PaParts{}, e)
		case i < 0 || i == len(p) || p[i].Kind != api.StList:
			wantParts(t, p, i, api.PaParts{}, api.ErrNone)
		default:
			wantParts(t, p, i, partsOf(stands(p), i), api.OK)
		}
	}
}
