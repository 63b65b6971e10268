package binds_test

import (
	"slices"
	"testing"

	"mummer/api"
	"mummer/binds"
)

// eachName calls f with thrown tables, and names and sets for them.
func eachName(f func(d *dice, l []api.BnBind, name, set string)) {
	var d dice
	for n := range 200 {
		l := d.table(n % 40)
		for range 20 {
			f(&d, l, []string{"x", "y", "xy", "z"}[d.below(4)], d.set(8))
		}
	}
}

// P11.4: what a name means is a candidate, and each other one has fewer scopes; with ErrAmbiguous two have scopes of their own.
func TestGreatest(t *testing.T) {
	ends := map[api.Errno]int{}
	eachName(func(_ *dice, l []api.BnBind, name, set string) {
		among, _ := binds.Candidates(l, name, set)
		i, e := binds.Resolve(l, name, set)
		ends[e]++
		apart := false
		for _, k := range among {
			for _, m := range among {
				apart = apart || !subset(l[k].Scopes, l[m].Scopes) && !subset(l[m].Scopes, l[k].Scopes)
			}
		}
		switch e {
		case api.OK:
			if !slices.Contains(among, i) {
				t.Fatalf("%q with %q in %s: %d is no candidate", name, set, brief(l), i)
			}
			for _, k := range among {
				if k != i && (len(l[k].Scopes) >= len(l[i].Scopes) || !subset(l[k].Scopes, l[i].Scopes)) {
					t.Fatalf("%q with %q in %s: %d, and %d", name, set, brief(l), i, k)
				}
			}
		case api.ErrAmbiguous:
			if !apart {
				t.Fatalf("%q with %q in %s: nothing is ambiguous", name, set, brief(l))
			}
		default:
			if e != api.ErrUnbound || len(among) > 0 {
				t.Fatalf("%q with %q in %s: %d", name, set, brief(l), e)
			}
		}
	})
	for _, e := range []api.Errno{api.OK, api.ErrAmbiguous, api.ErrUnbound} {
		if ends[e] < 100 {
			t.Errorf("%d names end with %d", ends[e], e)
		}
	}
}

// joined returns the set of the scopes of a and b.
func joined(a, b string) string {
	ids := append(idsOf(a), idsOf(b)...)
	slices.Sort(ids)
	return set(slices.Compact(ids)...)
}

// P11.5: with more scopes no candidate is lost.
func TestMoreScopes(t *testing.T) {
	eachName(func(d *dice, l []api.BnBind, name, set string) {
		few, _ := binds.Candidates(l, name, set)
		more, _ := binds.Candidates(l, name, joined(set, d.set(4)))
		for _, i := range few {
			if !slices.Contains(more, i) {
				t.Fatalf("%q with more than %q in %s: %d is lost", name, set, brief(l), i)
			}
		}
	})
}

// P11.5: if the sets of the candidates are a chain, nothing is ambiguous: the longest one is meant.
func TestChains(t *testing.T) {
	var d dice
	for range 200 {
		chain := []string{d.set(1)}
		for range d.below(6) {
			if next := joined(chain[len(chain)-1], d.set(2)); !slices.Contains(chain, next) {
				chain = append(chain, next)
			}
		}
		longest := chain[len(chain)-1]
		for i := len(chain) - 1; i > 0; i-- {
			k := d.below(i + 1)
			chain[i], chain[k] = chain[k], chain[i]
		}
		l := append(ofSets("y", chain), ofSets("x", chain)...)
		wantResolve(t, l, "x", joined(longest, d.set(4)), len(chain)+slices.Index(chain, longest), api.OK)
	}
}

// P11.6: bindings with other names, and the order of the table, make no difference.
func TestOtherNames(t *testing.T) {
	eachName(func(d *dice, l []api.BnBind, name, set string) {
		meant := func(l []api.BnBind) (api.BnBind, api.Errno) {
			i, e := binds.Resolve(l, name, set)
			if e != api.OK {
				return api.BnBind{}, e
			}
			return l[i], e
		}
		b, e := meant(l)
		turned := slices.Clone(l)
		for i := range turned {
			k := d.below(i + 1)
			turned[i], turned[k] = turned[k], turned[i]
		}
		alone := slices.DeleteFunc(slices.Clone(l), func(b api.BnBind) bool { return b.Name != name })
		for _, other := range [][]api.BnBind{turned, alone} {
			if c, f := meant(other); c != b || f != e {
				t.Fatalf("%q with %q in %s: %s, %d; in %s: %s, %d", name, set, brief(l), brief(b), e, brief(other), brief(c), f)
			}
		}
	})
}

// P11.6: a binding with just the set of a name, which is added, is what it means then; also if it was ambiguous.
func TestAdded(t *testing.T) {
	eachName(func(_ *dice, l []api.BnBind, name, set string) {
		with, e := binds.Add(l, bind(name, set, 7))
		if e == api.OK {
			wantResolve(t, with, name, set, len(l), api.OK)
			return
		}
		i, f := binds.Resolve(l, name, set)
		if e != api.ErrTwice || f != api.OK || l[i].Scopes != set {
			t.Fatalf("Add of %q with %q to %s: %d, %d", name, set, brief(l), e, f)
		}
	})
}

// P11.7: Same is reflexive, symmetric and transitive, where nothing is ambiguous.
func TestSameLaws(t *testing.T) {
	var names []api.BnBind
	for _, name := range []string{"x", "y", "z"} {
		for _, s := range sets(0, 60, 300) {
			names = append(names, asked(name, s))
		}
	}
	var d dice
	for range 30 {
		l := d.table(d.below(12))
		is := func(a, b api.BnBind) bool {
			same, e := binds.Same(l, a, b)
			if same && e != api.OK {
				t.Fatalf("Same(%s, %s, %s): %d", brief(l), brief(a), brief(b), e)
			}
			return same
		}
		for _, a := range names {
			_, e := binds.Resolve(l, a.Name, a.Scopes)
			if is(a, a) != (e != api.ErrAmbiguous) {
				t.Fatalf("Same(%s) of %s and itself", brief(l), brief(a))
			}
			for _, b := range names {
				if is(a, b) != is(b, a) {
					t.Fatalf("Same(%s) of %s and %s, and turned", brief(l), brief(a), brief(b))
				}
				for _, c := range names {
					if is(a, b) && is(b, c) && !is(a, c) {
						t.Fatalf("Same(%s) of %s, %s and %s", brief(l), brief(a), brief(b), brief(c))
					}
				}
			}
		}
	}
}

// The chapter's examples.
func TestExamples(t *testing.T) {
	l := example()
	for _, x := range []struct {
		set  string
		i    int
		want api.Errno
	}{{set(1), 0, api.OK}, {set(1, 2), 1, api.OK}, {set(1, 2, 9), 1, api.OK}, {set(1, 2, 3), 0, api.ErrAmbiguous}, {set(2), 0, api.ErrUnbound}} {
		wantResolve(t, l, "x", x.set, x.i, x.want)
	}
	wantCandidates(t, l, "x", set(1, 2, 3), []int{0, 1, 2}, api.OK)
	wantCandidates(t, l, "y", set(7), []int{3}, api.OK)
	wantSame(t, l, asked("x", set(1)), asked("x", set(1, 4)), true, api.OK)
	wantSame(t, l, asked("y", ""), asked("z", ""), false, api.OK)
	wantSame(t, l, asked("z", set(1)), asked("z", set(2)), true, api.OK)
	wantAdd(t, l, bind("x", set(1, 2), 3), nil, api.ErrTwice)
	wantAdd(t, l, bind("x", set(2), 3), append(example(), bind("x", set(2), 3)), api.OK)
}
