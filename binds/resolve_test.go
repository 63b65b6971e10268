package binds_test

import (
	"slices"
	"strings"
	"testing"

	"mummer/api"
)

// holdName holds Candidates and Resolve of a name with a set against their definitions.
func holdName(t *testing.T, l []api.BnBind, name, set string) {
	t.Helper()
	wantCandidates(t, l, name, set, candidates(l, name, set), api.OK)
	i, e := resolved(l, name, set)
	wantResolve(t, l, name, set, i, e)
}

// P11.2: all tables of a name with sets of three scopes, and all sets of these and another one.
func TestResolveSmall(t *testing.T) {
	for _, l := range tablesOf(ofSets("x", sets(0, 5, 256))) {
		turned := slices.Clone(l)
		slices.Reverse(turned)
		for _, s := range sets(0, 5, 256, 1280) {
			holdName(t, l, "x", s)
			holdName(t, turned, "x", s)
			holdName(t, l, "y", s)
			holdName(t, l, "", s)
		}
	}
}

// P11.2: the greatest candidate may stand anywhere, with others in any order.
func TestResolveOrders(t *testing.T) {
	chain := []string{"", set(1), set(1, 2), set(1, 2, 3)}
	fork := []string{set(1), set(2), set(1, 3), set(1, 2, 3)}
	split := []string{"", set(1, 2), set(1, 3), set(2, 3)}
	var orders func(done, rest []string, f func([]string))
	orders = func(done, rest []string, f func([]string)) {
		if len(rest) == 0 {
			f(done)
		}
		for i := range rest {
			orders(append(slices.Clone(done), rest[i]), slices.Delete(slices.Clone(rest), i, i+1), f)
		}
	}
	all := set(1, 2, 3, 4)
	for _, l := range [][]string{chain, fork} {
		orders(nil, l, func(o []string) {
			wantResolve(t, ofSets("x", o), "x", all, slices.Index(o, set(1, 2, 3)), api.OK)
			wantCandidates(t, ofSets("x", o), "x", all, []int{0, 1, 2, 3}, api.OK)
		})
	}
	orders(nil, split, func(o []string) {
		wantResolve(t, ofSets("x", o), "x", all, 0, api.ErrAmbiguous)
		wantResolve(t, ofSets("x", o), "x", set(1, 3), slices.Index(o, set(1, 3)), api.OK)
		wantResolve(t, ofSets("x", o), "x", set(1, 4), slices.Index(o, ""), api.OK)
	})
}

// P11.2: greater tables of several names, What and Ref; names that are parts of others are others.
func TestResolveGreat(t *testing.T) {
	var d dice
	for n := range 150 {
		l := d.table(n % 50)
		for range 20 {
			for _, name := range []string{"x", "y", "xy", "z", "X", "x\x00", ""} {
				holdName(t, l, name, d.set(8))
			}
		}
	}
}

// P11.2: whatever they are, names mean something if the table has them; longer ones, and no name, are unbound.
func TestResolveNames(t *testing.T) {
	names := []string{"x", "\x00", "\xff", "a b", "(", "1", strings.Repeat("n", 24)}
	l := slices.Concat(ofSets(names[0], []string{""}), ofSets(names[1], []string{""}))
	for _, name := range names[2:] {
		l = append(l, bind(name, "", 0))
	}
	for i, name := range names {
		for _, s := range []string{"", set(0), span(0, 10000)} {
			wantResolve(t, l, name, s, i, api.OK)
			wantCandidates(t, l, name, s, []int{i}, api.OK)
		}
	}
	for _, name := range []string{"", "n", strings.Repeat("n", 23), strings.Repeat("n", 25), strings.Repeat("n", 100000), "x\x00", "\xff\xff"} {
		wantResolve(t, l, name, "", 0, api.ErrUnbound)
		wantCandidates(t, l, name, "", nil, api.OK)
		wantResolve(t, nil, name, "", 0, api.ErrUnbound)
		wantCandidates(t, []api.BnBind{}, name, "", nil, api.OK)
	}
}

// P11.2: sets with the most scopes, and tables with the most bindings.
func TestResolveLimits(t *testing.T) {
	great := bindings(bind("x", span(0, 9999), 0), bind("x", span(0, 10000), 1), bind("x", span(1, 10001), 2), bind("x", span(1, 9999), 3))
	wantCandidates(t, great, "x", span(0, 10000), []int{0, 1, 3}, api.OK)
	wantResolve(t, great, "x", span(0, 10000), 1, api.OK)
	wantResolve(t, great, "x", span(1, 10001), 2, api.OK)
	wantResolve(t, great, "x", span(0, 9999), 0, api.OK)
	wantResolve(t, great, "x", span(2, 10002), 0, api.ErrUnbound)
	var chain []string
	for n := range 1000 {
		chain = append(chain, span(7, 7+n))
	}
	l := ofSets("x", chain)
	indices := make([]int, 1000)
	for i := range indices {
		indices[i] = i
	}
	for _, n := range []int{0, 1, 500, 998, 999} {
		wantResolve(t, l, "x", span(7, 7+n), n, api.OK)
		wantCandidates(t, l, "x", span(7, 7+n), indices[:n+1], api.OK)
	}
	wantResolve(t, l, "x", span(0, 10000), 999, api.OK)
	wantResolve(t, l, "x", span(8, 10000), 0, api.OK)
	l[500] = bind("x", set(7, 9999), 0)
	wantResolve(t, l, "x", span(0, 10000), 0, api.ErrAmbiguous)
	wantCandidates(t, l, "x", span(0, 10000), indices, api.OK)
}

// P11.2, P11.3: strings that are no sets have the error of scopes.Check, whatever the names are; in Same that of a goes first, and both before ErrAmbiguous.
func TestSetErrors(t *testing.T) {
	ambiguous := asked("x", set(1, 2, 3))
	for i, s := range badSets() {
		want := setError(s)
		for _, name := range []string{"x", "y", "z", ""} {
			wantCandidates(t, example(), name, s, nil, want)
			wantResolve(t, example(), name, s, 0, want)
			wantCandidates(t, nil, name, s, nil, want)
			wantResolve(t, nil, name, s, 0, want)
			for _, l := range [][]api.BnBind{nil, example()} {
				wantSame(t, l, asked(name, s), asked(name, s), false, want)
				wantSame(t, l, asked(name, s), asked("x", set(1)), false, want)
				wantSame(t, l, asked("x", set(1)), asked(name, s), false, want)
				wantSame(t, l, asked(name, s), ambiguous, false, want)
				wantSame(t, l, ambiguous, asked(name, s), false, want)
			}
			for _, other := range badSets()[i:] {
				wantSame(t, example(), asked(name, s), asked("x", other), false, want)
				wantSame(t, example(), asked(name, other), asked("x", s), false, setError(other))
			}
		}
	}
}

// P11.3: all pairs of a few names and sets, with all small tables of these names.
func TestSame(t *testing.T) {
	var names []api.BnBind
	for _, name := range []string{"x", "y", "z"} {
		for _, s := range sets(1, 2) {
			names = append(names, asked(name, s))
		}
	}
	for _, l := range tablesOf(append(ofSets("y", sets(1, 2)), ofSets("x", sets(1, 2))...)) {
		for _, a := range names {
			for _, b := range names {
				is, e := same(l, a, b)
				wantSame(t, l, a, b, is, e)
			}
		}
	}
}

// P11.3: greater tables; bindings with the same What and Ref are still different ones.
func TestSameGreat(t *testing.T) {
	var d dice
	for n := range 300 {
		l := d.table(n % 30)
		for i := range l {
			l[i].What, l[i].Ref = api.BnMacro, n%2*i
		}
		for range 40 {
			a := asked([]string{"x", "y", "xy", ""}[d.below(4)], d.set(5))
			b := asked([]string{"x", "y", "xy", ""}[d.below(4)], d.set(5))
			is, e := same(l, a, b)
			wantSame(t, l, a, b, is, e)
		}
	}
}

// P11.3: of a and b nothing but their names and sets is looked at; names need not be those of bindings.
func TestSameFields(t *testing.T) {
	for _, what := range []int{-1, 0, 1, 3, 9} {
		for _, ref := range []int{-1, 0, 5} {
			a, b := asked("x", set(1)), api.BnBind{Name: "x", Scopes: set(1, 4), What: what, Ref: ref}
			wantSame(t, example(), a, b, true, api.OK)
			wantSame(t, example(), b, a, true, api.OK)
			z, free := api.BnBind{Name: "z", What: what, Ref: ref}, asked("z", set(2))
			wantSame(t, example(), z, free, true, api.OK)
			wantSame(t, example(), free, z, true, api.OK)
			wantSame(t, nil, z, free, true, api.OK)
		}
	}
	long := strings.Repeat("n", 25)
	for _, name := range []string{"", long, long + long, "\xff"} {
		wantSame(t, example(), asked(name, ""), asked(name, set(3)), true, api.OK)
		wantSame(t, example(), asked(name, ""), asked("z", ""), false, api.OK)
		wantSame(t, example(), asked("y", ""), asked(name, ""), false, api.OK)
	}
	// Free names, one of which has a binding that its set does not reach.
	wantSame(t, example(), asked("x", ""), asked("x", set(2, 3)), true, api.OK)
	wantSame(t, example(), asked("x", ""), asked("x", set(1)), false, api.OK)
	wantSame(t, example(), asked("x", ""), asked("w", ""), false, api.OK)
	// The variable 0 is something else than a free name.
	wantSame(t, bindings(bind("x", set(1), 0)), asked("x", set(1)), asked("x", ""), false, api.OK)
}
