package binds_test

import (
	"fmt"
	"math"
	"slices"
	"strconv"
	"strings"
	"testing"

	"mummer/api"
	"mummer/binds"
)

// set returns the set of these scopes, which ascend.
func set(ids ...int) string {
	var b []byte
	for _, id := range ids {
		b = append(b, byte(id/256), byte(id%256))
	}
	return string(b)
}

// span returns the set of the scopes from first on, before after.
func span(first, after int) string {
	var ids []int
	for id := first; id < after; id++ {
		ids = append(ids, id)
	}
	return set(ids...)
}

// sets returns all sets of these scopes, which ascend; of two, one that is a subset of the other comes first.
func sets(ids ...int) []string {
	l := []string{""}
	for _, id := range ids {
		for _, s := range l {
			l = append(l, s+set(id))
		}
	}
	return l
}

// idsOf returns the numbers that each two bytes of s are.
func idsOf(s string) []int {
	var ids []int
	for i := 0; i+1 < len(s); i += 2 {
		ids = append(ids, int(s[i])*256+int(s[i+1]))
	}
	return ids
}

// subset reports whether each scope of a is one of b.
func subset(a, b string) bool {
	for _, id := range idsOf(a) {
		if !slices.Contains(idsOf(b), id) {
			return false
		}
	}
	return true
}

// bind is a binding of a variable.
func bind(name, scopes string, ref int) api.BnBind {
	return api.BnBind{Name: name, Scopes: scopes, What: api.BnVar, Ref: ref}
}

// asked is a name with a set, as Same is given it.
func asked(name, scopes string) api.BnBind { return api.BnBind{Name: name, Scopes: scopes} }

// bindings returns its arguments.
func bindings(l ...api.BnBind) []api.BnBind { return l }

// example is the table of the chapter.
func example() []api.BnBind {
	return bindings(bind("x", set(1), 0), bind("x", set(1, 2), 1), bind("x", set(1, 3), 2), api.BnBind{Name: "y", What: api.BnForm, Ref: 5})
}

// many are n bindings with different names.
func many(n int) []api.BnBind {
	var t []api.BnBind
	for i := range n {
		t = append(t, bind("n"+strconv.Itoa(i), "", i))
	}
	return t
}

// setError is the definition of a set.
func setError(s string) api.Errno {
	ids := idsOf(s)
	different := slices.Compact(slices.Clone(ids))
	switch {
	case len(s)%2 == 1 || !slices.IsSorted(ids) || len(different) < len(ids):
		return api.ErrForm
	case len(ids) > 10000:
		return api.ErrLong
	}
	return api.OK
}

// bindError is P11.1 for a binding that no other one is before.
func bindError(b api.BnBind) api.Errno {
	switch {
	case len(b.Name) == 0:
		return api.ErrForm
	case len(b.Name) > 24:
		return api.ErrLong
	case setError(b.Scopes) != api.OK:
		return setError(b.Scopes)
	case !slices.Contains([]int{1, 2, 3, 4}, b.What) || b.Ref < 0:
		return api.ErrRange
	}
	return api.OK
}

// checked is P11.1, by looking at all bindings before each one.
func checked(t []api.BnBind) (int, api.Errno) {
	if len(t) > 1000 {
		return -1, api.ErrLong
	}
	for i, b := range t {
		if e := bindError(b); e != api.OK {
			return i, e
		}
		for _, c := range t[:i] {
			if b.Name == c.Name && b.Scopes == c.Scopes {
				return i, api.ErrTwice
			}
		}
	}
	return 0, api.OK
}

// candidates is the definition of them, for a table and a set.
func candidates(t []api.BnBind, name, set string) []int {
	var l []int
	for i, b := range t {
		if b.Name == name && subset(b.Scopes, set) {
			l = append(l, i)
		}
	}
	return l
}

// resolved is the definition of what a name means, for a table and a set.
func resolved(t []api.BnBind, name, set string) (int, api.Errno) {
	l := candidates(t, name, set)
	if len(l) == 0 {
		return 0, api.ErrUnbound
	}
	for _, i := range l {
		if !slices.ContainsFunc(l, func(k int) bool { return !subset(t[k].Scopes, t[i].Scopes) }) {
			return i, api.OK
		}
	}
	return 0, api.ErrAmbiguous
}

// same is P11.3, for a table and two sets.
func same(t []api.BnBind, a, b api.BnBind) (bool, api.Errno) {
	i, e := resolved(t, a.Name, a.Scopes)
	k, f := resolved(t, b.Name, b.Scopes)
	switch {
	case e == api.ErrAmbiguous || f == api.ErrAmbiguous:
		return false, api.ErrAmbiguous
	case e == api.OK && f == api.OK:
		return i == k, api.OK
	}
	return e == f && a.Name == b.Name, api.OK
}

// badSets are strings that are no sets.
func badSets() []string {
	return []string{"a", "\x00", "\x00\x01\x00", "\x00\x05\x00\x01", "\x00\x01\x00\x01", "\x01\x00\x00\xff", span(0, 10001), span(55535, 65536), span(0, 10001) + "\xff"}
}

// flaws are bindings that no table has.
func flaws() []api.BnBind {
	l := bindings(api.BnBind{}, api.BnBind{What: api.BnVar}, bind("", set(1), 0), bind(strings.Repeat("n", 25), "", 0), bind(strings.Repeat("n", 1000), "", 0), bind(strings.Repeat("é", 13), "", 0))
	for _, s := range badSets() {
		l = append(l, bind("z", s, 0))
	}
	for _, what := range []int{0, 5, -1, 6, math.MinInt, math.MaxInt, 1<<32 + 1} {
		l = append(l, api.BnBind{Name: "z", What: what})
	}
	for _, ref := range []int{-1, -1000, math.MinInt} {
		l = append(l, bind("z", "", ref))
	}
	return l
}

// badTables are lists of bindings that are no tables, for each error of Check.
func badTables() [][]api.BnBind {
	l := [][]api.BnBind{make([]api.BnBind, 1001), many(1001), many(2000), append(example(), example()...), append(many(999), bind("n5", "", 7))}
	for _, b := range flaws() {
		l = append(l, bindings(b), append(example(), b), append(bindings(b), example()...))
	}
	return l
}

// A dice throws numbers that follow from how it begins.
type dice uint64

func (d *dice) below(n int) int {
	*d = *d*6364136223846793005 + 1442695040888963407
	return int(*d>>33) % n
}

// set throws a set of scopes up to 300.
func (d *dice) set(most int) string {
	var ids []int
	for range d.below(most + 1) {
		ids = append(ids, d.below(6)*60)
	}
	slices.Sort(ids)
	return set(slices.Compact(ids)...)
}

// table throws a table of bindings of a few names.
func (d *dice) table(n int) []api.BnBind {
	var t []api.BnBind
	for range n {
		b := api.BnBind{Name: []string{"x", "y", "xy"}[d.below(3)], Scopes: d.set(4), What: 1 + d.below(4), Ref: d.below(3)}
		if !slices.ContainsFunc(t, func(c api.BnBind) bool { return c.Name == b.Name && c.Scopes == b.Scopes }) {
			t = append(t, b)
		}
	}
	return t
}

// tablesOf returns all tables that have some of these bindings, in their order.
func tablesOf(l []api.BnBind) [][]api.BnBind {
	tables := [][]api.BnBind{nil}
	for _, b := range l {
		for _, t := range tables {
			tables = append(tables, append(slices.Clone(t), b))
		}
	}
	return tables
}

// ofSets returns a binding of this name with each of these sets.
func ofSets(name string, sets []string) []api.BnBind {
	var l []api.BnBind
	for i, s := range sets {
		l = append(l, bind(name, s, i))
	}
	return l
}

// brief returns the beginning of what v is as a text.
func brief(v any) string {
	s := fmt.Sprintf("%+q", v)
	if len(s) > 300 {
		s = s[:300] + ".. (" + strconv.Itoa(len(s)) + " bytes)"
	}
	return s
}

// wantCheck fails if Check does not have this answer.
func wantCheck(t *testing.T, l []api.BnBind, bind int, want api.Errno) {
	t.Helper()
	if n, e := binds.Check(l); n != bind || e != want {
		t.Fatalf("Check(%s): %d, %d; want %d, %d", brief(l), n, e, bind, want)
	}
}

// wantAdd fails if Add does not have this table, or this error.
func wantAdd(t *testing.T, l []api.BnBind, b api.BnBind, with []api.BnBind, want api.Errno) {
	t.Helper()
	if got, e := binds.Add(l, b); !slices.Equal(got, with) || e != want {
		t.Fatalf("Add(%s, %s): %s, %d; want %s, %d", brief(l), brief(b), brief(got), e, brief(with), want)
	}
}

// wantCandidates fails if Candidates does not have these indices, or this error.
func wantCandidates(t *testing.T, l []api.BnBind, name, set string, indices []int, want api.Errno) {
	t.Helper()
	if got, e := binds.Candidates(l, name, set); !slices.Equal(got, indices) || e != want {
		t.Fatalf("Candidates(%s, %q, %s): %v, %d; want %v, %d", brief(l), name, brief(set), got, e, indices, want)
	}
}

// wantResolve fails if Resolve does not have this index, or this error.
func wantResolve(t *testing.T, l []api.BnBind, name, set string, i int, want api.Errno) {
	t.Helper()
	if got, e := binds.Resolve(l, name, set); got != i || e != want {
		t.Fatalf("Resolve(%s, %q, %s): %d, %d; want %d, %d", brief(l), name, brief(set), got, e, i, want)
	}
}

// wantSame fails if Same does not have this answer, or this error.
func wantSame(t *testing.T, l []api.BnBind, a, b api.BnBind, is bool, want api.Errno) {
	t.Helper()
	if got, e := binds.Same(l, a, b); got != is || e != want {
		t.Fatalf("Same(%s, %s, %s): %v, %d; want %v, %d", brief(l), brief(a), brief(b), got, e, is, want)
	}
}

// wantOf fails if Of does not have these indices, or this error.
func wantOf(t *testing.T, l []api.BnBind, what, ref int, indices []int, want api.Errno) {
	t.Helper()
	if got, e := binds.Of(l, what, ref); !slices.Equal(got, indices) || e != want {
		t.Fatalf("Of(%s, %d, %d): %v, %d; want %v, %d", brief(l), what, ref, got, e, indices, want)
	}
}
