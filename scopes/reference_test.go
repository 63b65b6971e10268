package scopes_test

import (
	"fmt"
	"math"
	"slices"
	"strings"
	"testing"

	"mummer/api"
	"mummer/scopes"
)

// edges are numbers that are no scopes.
var edges = []int{-1, 65536, 65537, 65536 + 5, -65536 + 5, 1 << 32, 1<<32 + 5, math.MinInt, math.MinInt + 5, math.MaxInt}

// some are scopes at the bounds of bytes, of scopes, and between them.
var some = []int{0, 1, 5, 255, 256, 258, 65535}

// A group is the scopes of a set, as a map in which they are true, and which has nothing else.
type group map[int]bool

// groupOf returns the group that has these scopes.
func groupOf(ids ...int) group {
	g := group{}
	for _, id := range ids {
		g[id] = true
	}
	return g
}

// with returns the group of the scopes of both groups for which is holds.
func with(a, b group, is func(inA, inB bool) bool) group {
	g := group{}
	for _, one := range []group{a, b} {
		for id := range one {
			if is(a[id], b[id]) {
				g[id] = true
			}
		}
	}
	return g
}

// ascending returns the scopes of g in their order.
func (g group) ascending() []int {
	var l []int
	for id := range g {
		l = append(l, id)
	}
	slices.Sort(l)
	return l
}

// text is the definition of the set that has the scopes of g.
func (g group) text() string {
	var b strings.Builder
	for _, id := range g.ascending() {
		b.WriteByte(byte(id / 256))
		b.WriteByte(byte(id % 256))
	}
	return b.String()
}

// groups returns all groups of these scopes.
func groups(ids []int) []group {
	l := []group{{}}
	for _, id := range ids {
		for _, g := range l {
			l = append(l, groupOf(append(g.ascending(), id)...))
		}
	}
	return l
}

// sets returns all sets of these scopes.
func sets(ids []int) []string {
	var l []string
	for _, g := range groups(ids) {
		l = append(l, g.text())
	}
	return l
}

// span returns the set of the scopes from first on, before after.
func span(first, after int) string {
	g := group{}
	for id := first; id < after; id++ {
		g[id] = true
	}
	return g.text()
}

// allLists calls f with all lists of at most n of these numbers.
func allLists(n int, of []int, f func([]int)) {
	var grow func(l []int)
	grow = func(l []int) {
		f(l)
		for _, id := range of {
			if len(l) < n {
				grow(append(slices.Clone(l), id))
			}
		}
	}
	grow(nil)
}

// A flaw is a string that is no set, and the error of it.
type flaw struct {
	s string
	e api.Errno
}

// flaws returns strings of each kind that are no sets.
func flaws() []flaw {
	return []flaw{
		{"\x00", api.ErrForm}, {"\xff", api.ErrForm}, {"\x00\x01\x00", api.ErrForm}, {"\x00\x01\x00\x05\x01\x02\x01", api.ErrForm},
		{"\x00\x05\x00\x01", api.ErrForm}, {"\x00\x01\x00\x01", api.ErrForm}, {"\x01\x00\x00\xff", api.ErrForm}, {"\x00\x01\x00\x05\x00\x03", api.ErrForm}, {"\x00\x00\x00\x00", api.ErrForm}, {"\xff\xff\xff\xff", api.ErrForm}, {"\x00\x03\x00\x01\x00\x05", api.ErrForm},
		{span(0, 10001), api.ErrLong}, {span(55535, 65536), api.ErrLong}, {span(0, 65536), api.ErrLong},
		{span(0, 10001) + "\xff", api.ErrForm}, {span(0, 10001) + "\x00\x00", api.ErrForm}, {span(0, 65536) + "\xff\xff", api.ErrForm}, {"\x00\x01" + span(0, 10001), api.ErrForm},
	}
}

// The functions with a set and a scope that return a set, and those with two sets.
var (
	ofOne = map[string]func(string, int) (string, api.Errno){"Add": scopes.Add, "Drop": scopes.Drop, "Flip": scopes.Flip}
	ofTwo = map[string]func(a, b string) (string, api.Errno){"Union": scopes.Union, "Meet": scopes.Meet, "Minus": scopes.Minus}
)

// wantSet fails if the call did not have this set, or this error.
func wantSet(t *testing.T, call, s string, e api.Errno, want string, wantErr api.Errno) {
	t.Helper()
	if s != want || e != wantErr {
		t.Fatalf("%.300s: %.100q, %d; want %.100q, %d", call, s, e, want, wantErr)
	}
}

// wantBool fails if the call did not have this answer, or this error.
func wantBool(t *testing.T, call string, is bool, e api.Errno, want bool, wantErr api.Errno) {
	t.Helper()
	if is != want || e != wantErr {
		t.Fatalf("%.300s: %v, %d; want %v, %d", call, is, e, want, wantErr)
	}
}

// must returns the set of a call that is to have no error.
func must(t *testing.T, call string) func(s string, e api.Errno) string {
	return func(s string, e api.Errno) string {
		t.Helper()
		if e != api.OK {
			t.Fatalf("%.300s: %d", call, e)
		}
		return s
	}
}

// named returns how a call is written.
func named(f string, arguments ...any) string {
	return fmt.Sprintf("%s of %.100q", f, arguments)
}
