package scopes_test

import (
	"testing"

	"mummer/api"
	"mummer/scopes"
)

// P9.2: all small sets with scopes at the bounds and beside those of the set.
func TestOne(t *testing.T) {
	for _, g := range groups(some) {
		s := g.text()
		for _, id := range []int{0, 1, 2, 4, 5, 6, 254, 255, 256, 257, 258, 259, 511, 512, 65280, 65534, 65535} {
			one := groupOf(id)
			added := with(g, one, func(a, b bool) bool { return a || b }).text()
			without := with(g, one, func(a, b bool) bool { return a && !b }).text()
			is, e := scopes.Has(s, id)
			wantBool(t, named("Has", s, id), is, e, g[id], api.OK)
			got, e := scopes.Add(s, id)
			wantSet(t, named("Add", s, id), got, e, added, api.OK)
			got, e = scopes.Drop(s, id)
			wantSet(t, named("Drop", s, id), got, e, without, api.OK)
			flipped := added
			if g[id] {
				flipped = without
			}
			got, e = scopes.Flip(s, id)
			wantSet(t, named("Flip", s, id), got, e, flipped, api.OK)
		}
	}
}

// P9.2: a set with the most scopes can be added nothing new.
func TestOneLimit(t *testing.T) {
	full := span(30000, 35000) + span(40000, 45000)
	for _, id := range []int{0, 29999, 35000, 37000, 39999, 45000, 65535} {
		for _, name := range []string{"Add", "Flip"} {
			s, e := ofOne[name](full, id)
			wantSet(t, named(name, id), s, e, "", api.ErrLong)
			s, e = ofOne[name](full[2:], id)
			want, _ := scopes.Union(full[2:], span(id, id+1))
			wantSet(t, named(name, id), s, e, want, api.OK)
			if len(s) != 20000 {
				t.Fatalf("%s(%d) has %d bytes", name, id, len(s))
			}
		}
		s, e := scopes.Drop(full, id)
		wantSet(t, named("Drop", id), s, e, full, api.OK)
		is, e := scopes.Has(full, id)
		wantBool(t, named("Has", id), is, e, false, api.OK)
	}
	for _, id := range []int{30000, 30001, 34999, 40000, 44999} {
		at := 2 * (id - 30000)
		if id >= 40000 {
			at -= 10000
		}
		without := full[:at] + full[at+2:]
		s, e := scopes.Add(full, id)
		wantSet(t, named("Add", id), s, e, full, api.OK)
		s, e = scopes.Drop(full, id)
		wantSet(t, named("Drop", id), s, e, without, api.OK)
		s, e = scopes.Flip(full, id)
		wantSet(t, named("Flip", id), s, e, without, api.OK)
		is, e := scopes.Has(full, id)
		wantBool(t, named("Has", id), is, e, true, api.OK)
	}
}

// P9.2: the error of the set goes first, then ErrRange for the scope, before ErrLong.
func TestOneErrors(t *testing.T) {
	check := func(s string, id int, want api.Errno) {
		t.Helper()
		is, e := scopes.Has(s, id)
		wantBool(t, named("Has", s, id), is, e, false, want)
		for name, f := range ofOne {
			got, e := f(s, id)
			wantSet(t, named(name, s, id), got, e, "", want)
		}
	}
	for _, f := range flaws() {
		for _, id := range append([]int{0, 1, 5, 258, 65535}, edges...) {
			check(f.s, id, f.e)
		}
	}
	for _, s := range append(sets(some), span(0, 10000)) {
		for _, id := range edges {
			check(s, id, api.ErrRange)
		}
	}
}

// checkTwo fails if a function does not have for a and b what their groups have.
func checkTwo(t *testing.T, a, b group) {
	t.Helper()
	s, u := a.text(), b.text()
	union := with(a, b, func(inA, inB bool) bool { return inA || inB })
	meet := with(a, b, func(inA, inB bool) bool { return inA && inB })
	minus := with(a, b, func(inA, inB bool) bool { return inA && !inB })
	got, e := scopes.Union(s, u)
	wantSet(t, named("Union", s, u), got, e, union.text(), api.OK)
	got, e = scopes.Meet(s, u)
	wantSet(t, named("Meet", s, u), got, e, meet.text(), api.OK)
	got, e = scopes.Minus(s, u)
	wantSet(t, named("Minus", s, u), got, e, minus.text(), api.OK)
	less, more := len(minus) == 0, len(union) == len(a)
	is, e := scopes.Sub(s, u)
	wantBool(t, named("Sub", s, u), is, e, less, api.OK)
	want := 3
	switch {
	case less && more:
		want = 0
	case less:
		want = 1
	case more:
		want = 2
	}
	if n, e := scopes.Relate(s, u); n != want || e != api.OK {
		t.Fatalf("Relate(%q, %q): %d, %d; want %d", s, u, n, e, want)
	}
}

// P9.3: all pairs of small sets.
func TestTwo(t *testing.T) {
	all := groups([]int{0, 5, 255, 256, 65535})
	for _, a := range all {
		for _, b := range all {
			checkTwo(t, a, b)
		}
	}
	for _, x := range [][2]group{{groupOf(1, 2, 3), groupOf(1, 2, 3, 4)}, {groupOf(258), groupOf(513)}, {groupOf(255, 511), groupOf(256, 510)}, {groupOf(1, 300, 600), groupOf(2, 300, 601)}} {
		checkTwo(t, x[0], x[1])
		checkTwo(t, x[1], x[0])
	}
}

// P9.3: greater sets, of which all, some or none are common.
func TestTwoGreat(t *testing.T) {
	each := func(first, step int) group {
		g := group{}
		for id := first; id < 60000; id += step {
			g[id] = true
		}
		return g
	}
	l := []group{each(50000, 1), each(50000, 2), each(50001, 2), each(50000, 3), {}}
	for _, a := range l {
		for _, b := range l {
			checkTwo(t, a, b)
		}
	}
}

// P9.3: a union has at most 10000 scopes; other functions have no limit of their own.
func TestTwoLimit(t *testing.T) {
	for _, x := range []struct {
		a, b, union string
		e           api.Errno
	}{
		{span(0, 5000), span(5000, 10000), span(0, 10000), api.OK}, {span(0, 5001), span(5000, 10000), span(0, 10000), api.OK}, {span(0, 10000), span(0, 10000), span(0, 10000), api.OK}, {span(0, 10000), "", span(0, 10000), api.OK}, {span(0, 10000), span(9999, 10000), span(0, 10000), api.OK},
		{span(0, 5000), span(5000, 10001), "", api.ErrLong}, {span(0, 10000), span(10000, 10001), "", api.ErrLong}, {span(1, 10001), span(0, 1), "", api.ErrLong}, {span(0, 10000), span(1, 10001), "", api.ErrLong}, {span(0, 10000), span(10000, 20000), "", api.ErrLong},
	} {
		for _, turned := range []bool{false, true} {
			a, b := x.a, x.b
			if turned {
				a, b = b, a
			}
			s, e := scopes.Union(a, b)
			wantSet(t, named("Union", a, b), s, e, x.union, x.e)
		}
	}
	s, e := scopes.Meet(span(0, 10000), span(9999, 19999))
	wantSet(t, "Meet", s, e, span(9999, 10000), api.OK)
	s, e = scopes.Minus(span(0, 10000), span(9999, 19999))
	wantSet(t, "Minus", s, e, span(0, 9999), api.OK)
	s, e = scopes.Minus(span(0, 10000), span(10000, 20000))
	wantSet(t, "Minus", s, e, span(0, 10000), api.OK)
	if n, e := scopes.Relate(span(0, 10000), span(10000, 20000)); n != api.ScApart || e != api.OK {
		t.Errorf("Relate: %d, %d", n, e)
	}
	is, e := scopes.Sub(span(0, 10000), span(10000, 20000))
	wantBool(t, "Sub", is, e, false, api.OK)
}

// P9.3: the error of the first set goes first, then that of the second one, before ErrLong.
func TestTwoErrors(t *testing.T) {
	check := func(a, b string, want api.Errno) {
		t.Helper()
		for name, f := range ofTwo {
			got, e := f(a, b)
			wantSet(t, named(name, a, b), got, e, "", want)
		}
		is, e := scopes.Sub(a, b)
		wantBool(t, named("Sub", a, b), is, e, false, want)
		if n, e := scopes.Relate(a, b); n != 0 || e != want {
			t.Fatalf("Relate(%.100q, %.100q): %d, %d; want %d", a, b, n, e, want)
		}
	}
	good := []string{"", "\x00\x01", "\x00\x01\x00\x05", "\xff\xff", span(0, 10000), span(20000, 30000)}
	for _, f := range flaws() {
		for _, s := range good {
			check(f.s, s, f.e)
			check(s, f.s, f.e)
		}
		for _, g := range flaws() {
			check(f.s, g.s, f.e)
		}
	}
}
