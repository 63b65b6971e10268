package scopes_test

import (
	"testing"

	"mummer/api"
	"mummer/scopes"
)

// few are scopes of which all triples of sets can be gone through.
var few = []int{0, 1, 256, 65535}

// P9.5: flips undo themselves, may be exchanged, and change one scope alone.
func TestFlips(t *testing.T) {
	flip := func(s string, id int) string {
		return must(t, named("Flip", s, id))(scopes.Flip(s, id))
	}
	for _, s := range sets(some) {
		for _, id := range some {
			once := flip(s, id)
			if twice := flip(once, id); twice != s {
				t.Fatalf("flips of %d in %q: %q", id, s, twice)
			}
			for _, other := range some {
				if a, b := flip(once, other), flip(flip(s, other), id); a != b {
					t.Fatalf("flips of %d and %d in %q: %q, %q", id, other, s, a, b)
				}
				before, _ := scopes.Has(s, other)
				after, _ := scopes.Has(once, other)
				if (before != after) != (id == other) {
					t.Fatalf("Flip of %d in %q: %d was there: %v, is there: %v", id, s, other, before, after)
				}
			}
		}
	}
}

// P9.6: Of of Ids is the set, and sets with the same scopes are the same.
func TestSame(t *testing.T) {
	all := sets(some)
	for _, a := range all {
		ids, _ := scopes.Ids(a)
		s, e := scopes.Of(ids)
		wantSet(t, named("Of", ids), s, e, a, api.OK)
		for _, b := range all {
			same := true
			for _, id := range some {
				inA, _ := scopes.Has(a, id)
				inB, _ := scopes.Has(b, id)
				same = same && inA == inB
			}
			n, e := scopes.Relate(a, b)
			if same != (a == b) || same != (n == api.ScSame) || e != api.OK {
				t.Fatalf("%q and %q: %v, %d, %d", a, b, same, n, e)
			}
		}
	}
}

// P9.6: Union and Meet are the same in the other order, however they are bracketed, and Meet goes over Union.
func TestLaws(t *testing.T) {
	union := func(a, b string) string { return must(t, named("Union", a, b))(scopes.Union(a, b)) }
	meet := func(a, b string) string { return must(t, named("Meet", a, b))(scopes.Meet(a, b)) }
	all := sets(few)
	for _, a := range all {
		for _, b := range all {
			if union(a, b) != union(b, a) || meet(a, b) != meet(b, a) {
				t.Fatalf("%q and %q in the other order", a, b)
			}
			for _, c := range all {
				if union(union(a, b), c) != union(a, union(b, c)) || meet(meet(a, b), c) != meet(a, meet(b, c)) {
					t.Fatalf("%q, %q and %q in other brackets", a, b, c)
				}
				if meet(a, union(b, c)) != union(meet(a, b), meet(a, c)) {
					t.Fatalf("Meet of %q with Union of %q and %q", a, b, c)
				}
			}
		}
	}
}

// P9.7: subsets, by Union, by Meet, and by other subsets; Minus and Meet make up the set.
func TestSubsets(t *testing.T) {
	sub := func(a, b string) bool {
		is, e := scopes.Sub(a, b)
		return is && e == api.OK
	}
	all := sets(few)
	for _, a := range all {
		for _, b := range all {
			union := must(t, "Union")(scopes.Union(a, b))
			meet := must(t, "Meet")(scopes.Meet(a, b))
			minus := must(t, "Minus")(scopes.Minus(a, b))
			if sub(a, b) != (union == b) || sub(a, b) != (meet == a) {
				t.Fatalf("Sub of %q and %q: %v; Union %q, Meet %q", a, b, sub(a, b), union, meet)
			}
			if common := must(t, "Meet")(scopes.Meet(minus, b)); common != "" {
				t.Fatalf("Minus of %q and %q has %q", a, b, common)
			}
			if whole := must(t, "Union")(scopes.Union(minus, meet)); whole != a {
				t.Fatalf("Minus and Meet of %q and %q: %q", a, b, whole)
			}
			for _, c := range all {
				if sub(a, b) && sub(b, c) && !sub(a, c) {
					t.Fatalf("Sub of %q, %q and %q", a, b, c)
				}
			}
		}
	}
}

// The examples of the chapter.
func TestExamples(t *testing.T) {
	const set = "\x00\x01\x00\x05\x01\x02"
	for s, want := range map[string]api.Errno{"\x00\x05\x00\x01": api.ErrForm, "\x00\x01\x00": api.ErrForm, "": api.OK} {
		if e := scopes.Check(s); e != want {
			t.Errorf("Check(%q): %d", s, e)
		}
	}
	s, e := scopes.Of([]int{5, 258, 1, 5})
	wantSet(t, "Of 5, 258, 1, 5", s, e, set, api.OK)
	s, e = scopes.Of([]int{65536})
	wantSet(t, "Of 65536", s, e, "", api.ErrRange)
	for _, x := range []struct {
		name string
		id   int
		want string
	}{{"Add", 5, "1,5,258"}, {"Drop", 5, "1,258"}, {"Flip", 5, "1,258"}, {"Flip", 6, "1,5-6,258"}} {
		text, e := scopes.Print(must(t, x.name)(ofOne[x.name](set, x.id)))
		wantSet(t, named(x.name, x.id), text, e, x.want, api.OK)
	}
	for _, x := range []struct {
		a, b string
		want int
	}{{"1", "1,5", api.ScLess}, {"1,5", "1", api.ScMore}, {"1", "5", api.ScApart}, {"-", "-", api.ScSame}} {
		a, b := must(t, x.a)(scopes.Parse(x.a)), must(t, x.b)(scopes.Parse(x.b))
		if n, e := scopes.Relate(a, b); n != x.want || e != api.OK {
			t.Errorf("Relate of %s and %s: %d, %d", x.a, x.b, n, e)
		}
	}
	text, e := scopes.Print("")
	wantSet(t, "Print of none", text, e, "-", api.OK)
	s, e = scopes.Parse("1,5,258")
	wantSet(t, "Parse of 1,5,258", s, e, set, api.OK)
}
