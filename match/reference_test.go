package match_test

import (
	"fmt"
	"slices"
	"strconv"
	"testing"

	"mummer/api"
	"mummer/binds"
	"mummer/match"
	"mummer/pattern"
	"mummer/reader"
	"mummer/stx"
)

func in(n int64) api.StNode              { return api.StNode{Kind: api.StInt, N: n} }
func bo(n int64) api.StNode              { return api.StNode{Kind: api.StBool, N: n} }
func sy(s string) api.StNode             { return api.StNode{Kind: api.StSymbol, S: s} }
func li(kids int) api.StNode             { return api.StNode{Kind: api.StList, Kids: kids} }
func nodes(l ...api.StNode) []api.StNode { return l }

func leaf(at int) api.MaNode    { return api.MaNode{Kids: -1, At: at} }
func times(kids int) api.MaNode { return api.MaNode{Kids: kids} }

// tree returns its arguments.
func tree(l ...api.MaNode) []api.MaNode { return l }

// set returns the set of these scopes, which ascend.
func set(ids ...int) string {
	var b []byte
	for _, id := range ids {
		b = append(b, byte(id/256), byte(id%256))
	}
	return string(b)
}

// scoped returns n with this set of scopes.
func scoped(n api.StNode, set string) api.StNode {
	n.Scopes = set
	return n
}

// id is an identifier without scopes.
func id(s string) api.PaId { return api.PaId{S: s} }

// ids are identifiers without scopes.
func ids(l ...string) []api.PaId {
	var all []api.PaId
	for _, s := range l {
		all = append(all, id(s))
	}
	return all
}

// syn is the syntax that a text is, as it is read.
func syn(text string) []api.StNode {
	d, _, e := reader.One([]byte(text))
	if e != api.OK {
		panic("no datum: " + text)
	}
	l, e := stx.Of(d)
	if e != api.OK {
		panic("no syntax: " + text)
	}
	return l
}

// A part is a node of syntax with its elements.
type part struct {
	api.StNode
	at   int // its index in the syntax
	kids []part
}

// partOf returns what syntax is as a part.
func partOf(l []api.StNode) part {
	next := 0
	var read func() part
	read = func() part {
		x := part{StNode: l[next], at: next}
		next++
		for range l[x.at].Kids {
			x.kids = append(x.kids, read())
		}
		return x
	}
	return read()
}

// flat returns the nodes of x, whatever its number of children was.
func (x part) flat() []api.StNode {
	x.Kids = len(x.kids)
	l := nodes(x.StNode)
	for _, k := range x.kids {
		l = append(l, k.flat()...)
	}
	return l
}

// identifier returns the identifier of a symbol.
func (x part) identifier() api.PaId { return api.PaId{S: x.S, Scopes: x.Scopes} }

// isDots reports whether x is an ellipsis.
func isDots(x part) bool { return x.Kind == api.StSymbol && x.S == "..." }

// A rule is what an input is matched with.
type rule struct {
	table []api.BnBind
	lits  []api.PaId
}

// isVar reports whether x, an element of a pattern, is a variable.
func (r rule) isVar(x part) bool {
	return x.Kind == api.StSymbol && x.S != "_" && x.S != "..." && !slices.Contains(r.lits, x.identifier())
}

// agree reports whether want, which is no list, matches x.
func (r rule) agree(want, x part) bool {
	if want.Kind != api.StSymbol {
		return x.Kind == want.Kind && x.N == want.N
	}
	if r.isVar(want) || want.S == "_" {
		return true
	}
	same, _ := binds.Same(r.table, api.BnBind{Name: want.S, Scopes: want.Scopes}, api.BnBind{Name: x.S, Scopes: x.Scopes})
	return x.Kind == api.StSymbol && same
}

// matches is the definition for an element, by trying all ways in which a repeated element may be matched.
func (r rule) matches(want, x part) bool {
	if want.Kind != api.StList {
		return r.agree(want, x)
	}
	return x.Kind == api.StList && r.all(want.kids, x.kids)
}

// all reports whether elements match elements.
func (r rule) all(want, l []part) bool {
	switch {
	case len(want) == 0:
		return len(l) == 0
	case len(want) > 1 && isDots(want[1]):
		return r.all(want[2:], l) || len(l) > 0 && r.matches(want[0], l[0]) && r.all(want, l[1:])
	}
	return len(l) > 0 && r.matches(want[0], l[0]) && r.all(want[1:], l[1:])
}

// at returns the elements of l that the element k of want matches, if there are enough of them and not too many.
func at(want, l []part, k int) []part {
	dots := slices.IndexFunc(want, isDots)
	switch {
	case dots < 0 || k < dots-1:
		return l[k : k+1]
	case k == dots-1:
		return l[k : k+2+len(l)-len(want)]
	case k == dots:
		return nil
	}
	return l[k+len(l)-len(want):][:1]
}

// fits reports whether a list with the elements want may match one of n elements.
func fits(want []part, n int) bool {
	if slices.ContainsFunc(want, isDots) {
		return n >= len(want)-2
	}
	return n == len(want)
}

// differ calls f with each node of the input that does not match what is in its place, as far as its own kind, number and meaning, or how many elements it has, say.
func (r rule) differ(want, x part, f func(node int)) {
	switch {
	case want.Kind != api.StList:
		if !r.agree(want, x) {
			f(x.at)
		}
	case x.Kind != api.StList || !fits(want.kids, len(x.kids)):
		f(x.at)
	default:
		for k := range want.kids {
			for _, y := range at(want.kids, x.kids, k) {
				r.differ(want.kids[k], y, f)
			}
		}
	}
}

// contains reports whether x is this variable, or has it.
func (r rule) contains(x part, v api.PaId) bool {
	if x.Kind == api.StList {
		return slices.ContainsFunc(x.kids, func(k part) bool { return r.contains(k, v) })
	}
	return r.isVar(x) && x.identifier() == v
}

// has is the definition of what a variable in want has, which matches x.
func (r rule) has(want, x part, v api.PaId) []api.MaNode {
	if want.Kind != api.StList {
		return tree(leaf(x.at))
	}
	k := slices.IndexFunc(want.kids, func(k part) bool { return r.contains(k, v) })
	l := at(want.kids, x.kids, k)
	var has []api.MaNode
	if k+1 < len(want.kids) && isDots(want.kids[k+1]) {
		has = tree(times(len(l)))
	}
	for _, y := range l {
		has = append(has, r.has(want.kids[k], y, v)...)
	}
	return has
}

// headless returns the pattern of a rule, or an input, without its first element.
func headless(x part) part {
	x.kids = x.kids[1:]
	return x
}

// checked is P13.1 and P13.2 for arguments that are not valid.
func checked(table []api.BnBind, p []api.StNode, lits []api.PaId, input []api.StNode) api.Errno {
	if _, e := binds.Check(table); e != api.OK {
		return e
	}
	if _, e := pattern.Check(p, lits); e != api.OK {
		return e
	}
	_, e := stx.Check(input)
	return e
}

// where is P13.2 for valid arguments: since nodes are in pre-order, the first node that is seen is the one with the least index.
func (r rule) where(p, input []api.StNode) (node int, e api.Errno) {
	want, x := partOf(p), partOf(input)
	if len(x.kids) == 0 {
		return 0, api.OK
	}
	least := len(input)
	r.differ(headless(want), headless(x), func(node int) { least = min(least, node) })
	if least == len(input) {
		return 0, api.ErrNone
	}
	return least, api.OK
}

// matched is P13.1 for an input that matches.
func (r rule) matched(p, input []api.StNode) []api.MaBind {
	vars, _ := pattern.Vars(p, r.lits)
	var l []api.MaBind
	for _, v := range vars {
		l = append(l, api.MaBind{Id: v.Id, Depth: v.Depth, Tree: r.has(headless(partOf(p)), headless(partOf(input)), v.Id)})
	}
	return l
}

// holdMatch holds Match, Matches and Where against the definitions; it returns whether the input matches.
func holdMatch(t *testing.T, table []api.BnBind, p []api.StNode, lits []api.PaId, input []api.StNode) bool {
	t.Helper()
	if e := checked(table, p, lits, input); e != api.OK {
		wantError(t, table, p, lits, input, e)
		return false
	}
	r := rule{table, lits}
	is := len(input) > 1 && r.matches(headless(partOf(p)), headless(partOf(input)))
	node, e := r.where(p, input)
	if is != (e == api.ErrNone) {
		t.Fatalf("%s, %s: the references differ: %v, %d", brief(p), brief(input), is, e)
	}
	if is {
		wantMatch(t, table, p, lits, input, r.matched(p, input))
	} else {
		wantMismatch(t, table, p, lits, input, node)
	}
	return is
}

// wantMatch fails if the input does not match, or the variables do not have this.
func wantMatch(t *testing.T, table []api.BnBind, p []api.StNode, lits []api.PaId, input []api.StNode, want []api.MaBind) {
	t.Helper()
	l, e := match.Match(table, p, lits, input)
	if !slices.EqualFunc(l, want, sameBind) || e != api.OK {
		t.Fatalf("Match(%s, %.200q, %s): %+v, %d; want %+v", brief(p), lits, brief(input), l, e, want)
	}
	wantAnswers(t, table, p, lits, input, true, api.OK, 0, api.ErrNone)
}

// wantMismatch fails if it is not seen at this node that the input does not match.
func wantMismatch(t *testing.T, table []api.BnBind, p []api.StNode, lits []api.PaId, input []api.StNode, node int) {
	t.Helper()
	if l, e := match.Match(table, p, lits, input); len(l) > 0 || e != api.ErrMatch {
		t.Fatalf("Match(%s, %.200q, %s): %+v, %d", brief(p), lits, brief(input), l, e)
	}
	wantAnswers(t, table, p, lits, input, false, api.OK, node, api.OK)
}

// wantError fails if Match, Matches and Where do not have this error.
func wantError(t *testing.T, table []api.BnBind, p []api.StNode, lits []api.PaId, input []api.StNode, want api.Errno) {
	t.Helper()
	if l, e := match.Match(table, p, lits, input); len(l) > 0 || e != want {
		t.Fatalf("Match(%.200v, %s, %.200q, %s): %+v, %d; want %d", table, brief(p), lits, brief(input), l, e, want)
	}
	wantAnswers(t, table, p, lits, input, false, want, 0, want)
}

// wantAnswers fails if Matches and Where do not have these answers.
func wantAnswers(t *testing.T, table []api.BnBind, p []api.StNode, lits []api.PaId, input []api.StNode, is bool, e api.Errno, node int, whereError api.Errno) {
	t.Helper()
	if got, f := match.Matches(table, p, lits, input); got != is || f != e {
		t.Fatalf("Matches(%s, %.200q, %s): %v, %d; want %v, %d", brief(p), lits, brief(input), got, f, is, e)
	}
	if got, f := match.Where(table, p, lits, input); got != node || f != whereError {
		t.Fatalf("Where(%s, %.200q, %s): %d, %d; want %d, %d", brief(p), lits, brief(input), got, f, node, whereError)
	}
}

// sameBind reports whether a and b are the same.
func sameBind(a, b api.MaBind) bool {
	return a.Id == b.Id && a.Depth == b.Depth && slices.Equal(a.Tree, b.Tree)
}

// brief returns the beginning of what a list of nodes is as a text.
func brief(l []api.StNode) string {
	s, e := stx.Print(l)
	if e != api.OK {
		s = fmt.Sprintf("%+v", l)
	}
	if len(s) > 300 {
		s = s[:300] + ".. (" + strconv.Itoa(len(s)) + " bytes)"
	}
	return s
}
