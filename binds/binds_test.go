package binds_test

import (
	"math"
	"slices"
	"strings"
	"testing"

	"mummer/api"
	"mummer/binds"
)

// holdTable holds Check of l, and Add of its last binding to the others, against the definition.
func holdTable(t *testing.T, l []api.BnBind) {
	t.Helper()
	i, e := checked(l)
	wantCheck(t, l, i, e)
	if len(l) == 0 {
		return
	}
	before, last := l[:len(l)-1], l[len(l)-1]
	if _, f := checked(before); f != api.OK {
		e = f
	}
	if e == api.OK {
		wantAdd(t, before, last, l, api.OK)
	} else {
		wantAdd(t, before, last, nil, e)
	}
}

// P11.1: all short lists of good and bad bindings, and of ones that exclude each other.
func TestTablesShort(t *testing.T) {
	some := append(flaws(), bind("x", "", 0), bind("x", set(1), 0), bind("x", set(1), 1), api.BnBind{Name: "x", What: api.BnPrim}, bind("y", set(1), 0), bind(strings.Repeat("n", 24), "", 0))
	few := bindings(bind("x", "", 0), bind("x", set(1), 0), api.BnBind{Name: "x", Scopes: set(1), What: api.BnMacro, Ref: 9}, bind("y", set(1), 0), bind("", "", 0), bind("y", "a", 0), bind("y", set(1), -1))
	var grow func(l []api.BnBind, n int, of []api.BnBind)
	grow = func(l []api.BnBind, n int, of []api.BnBind) {
		holdTable(t, l)
		for _, b := range of {
			if len(l) < n {
				grow(append(slices.Clone(l), b), n, of)
			}
		}
	}
	grow(nil, 2, some)
	grow(nil, 4, few)
	holdTable(t, []api.BnBind{})
}

// P11.1: bindings with what they may have and may not have in each field, mixed, alone and after others.
func TestTablesFields(t *testing.T) {
	names := []string{"", "x", " ", "\x00", "\xff\xfe", "1", "(a b)", strings.Repeat("n", 24), strings.Repeat("n", 25), strings.Repeat("é", 12), strings.Repeat("é", 12) + "e"}
	all := append([]string{"", set(1), set(0), set(65535), set(1, 5, 258), set(1, 2), span(0, 10000)}, badSets()...)
	for _, name := range names {
		for _, s := range all {
			for _, what := range []int{math.MinInt, -1, 0, 1, 2, 3, 4, 5, math.MaxInt} {
				for _, ref := range []int{math.MinInt, -1, 0, 1, math.MaxInt} {
					b := api.BnBind{Name: name, Scopes: s, What: what, Ref: ref}
					holdTable(t, bindings(b))
					holdTable(t, append(example(), b))
				}
			}
		}
	}
}

// P11.1: of two errors of a binding the one that is named first is returned; of two bindings that of the first one.
func TestCheckOrder(t *testing.T) {
	long, longName := span(0, 10001), strings.Repeat("n", 25)
	for _, x := range []struct {
		b    api.BnBind
		want api.Errno
	}{
		{api.BnBind{Scopes: long, What: 0}, api.ErrForm},
		{api.BnBind{Name: longName, Scopes: "a", What: 1}, api.ErrLong},
		{api.BnBind{Name: longName, Ref: -1}, api.ErrLong},
		{api.BnBind{Name: "x", Scopes: "a", What: 9}, api.ErrForm},
		{api.BnBind{Name: "x", Scopes: long, Ref: -1}, api.ErrLong},
		{api.BnBind{Name: "x", Scopes: set(1), What: 9}, api.ErrRange},
		{api.BnBind{Name: "x", Scopes: set(1), What: 1, Ref: -1}, api.ErrRange},
		{api.BnBind{Name: "x", Scopes: set(1), What: 2, Ref: 7}, api.ErrTwice},
	} {
		l := append(example(), x.b)
		wantCheck(t, l, 4, x.want)
		wantAdd(t, example(), x.b, nil, x.want)
		for _, other := range flaws() {
			wantCheck(t, append(l, other), 4, x.want)
			wantCheck(t, append(bindings(other), l...), 0, bindError(other))
		}
	}
}

// P11.1: a binding is there already if one before it, wherever, has the same name and the same scopes; nothing else makes it so.
func TestTwice(t *testing.T) {
	for _, n := range []int{1, 2, 17, 999} {
		for _, i := range []int{0, n / 2, n - 1} {
			l := many(n)
			b := api.BnBind{Name: l[i].Name, What: api.BnPrim, Ref: math.MaxInt}
			wantCheck(t, append(l, b), n, api.ErrTwice)
			wantAdd(t, l, b, nil, api.ErrTwice)
			b.Scopes = set(0)
			wantCheck(t, append(l, b), 0, api.OK)
			wantAdd(t, l, b, append(l, b), api.OK)
		}
	}
	// The same bytes, but other ones of them are the name.
	apart := bindings(bind("x", "\x00\x01", 0), bind("x\x00\x01", "", 0), bind("x\x00", "\x00\x01", 0), bind("x", "\x00\x00\x00\x01", 0), bind("X", "\x00\x01", 0), bind("x ", "\x00\x01", 0))
	wantCheck(t, apart, 0, api.OK)
	wantCheck(t, append(apart, apart[1]), 6, api.ErrTwice)
	// Great sets that differ in one scope.
	great := bindings(bind("x", span(0, 10000), 0), bind("x", span(1, 10001), 0), bind("x", span(0, 9999), 0), bind("x", span(0, 9999)+set(65535), 0))
	wantCheck(t, great, 0, api.OK)
	wantCheck(t, append(great, bind("x", span(0, 9999)+set(65535), 1)), 4, api.ErrTwice)
}

// P11.1: a table may have 1000 bindings and no more; this goes first in Check, and in Add after an error of the table.
func TestTablesLimit(t *testing.T) {
	for n := 998; n <= 1003; n++ {
		l := many(n)
		switch {
		case n <= 1000:
			wantCheck(t, l, 0, api.OK)
			wantAdd(t, l[:n-1], l[n-1], l, api.OK)
		default:
			wantCheck(t, l, -1, api.ErrLong)
			wantAdd(t, l[:n-1], l[n-1], nil, api.ErrLong)
		}
	}
	wantCheck(t, make([]api.BnBind, 1000), 0, api.ErrForm)
	wantCheck(t, make([]api.BnBind, 1001), -1, api.ErrLong)
	for _, b := range flaws() {
		wantCheck(t, append(many(999), b), 999, bindError(b))
		wantCheck(t, append(many(1000), b), -1, api.ErrLong)
		wantAdd(t, many(999), b, nil, bindError(b))
		wantAdd(t, many(1000), b, nil, api.ErrLong)
		wantAdd(t, append(many(999), b), bind("z", "", 0), nil, bindError(b))
	}
	wantAdd(t, many(1000), bind("n0", "", 0), nil, api.ErrLong)
	wantAdd(t, append(many(999), bind("n0", "", 0)), bind("z", "", 0), nil, api.ErrTwice)
}

// P11.3: Of has the indices of what means this, and neither What nor Ref alone; other numbers are those of none.
func TestOf(t *testing.T) {
	hold := func(l []api.BnBind, what, ref int) {
		t.Helper()
		var want []int
		for i := range l {
			if l[i].What == what && l[i].Ref == ref {
				want = append(want, i)
			}
		}
		wantOf(t, l, what, ref, want, api.OK)
	}
	var d dice
	for n := range 60 {
		l := d.table(n)
		for what := -1; what <= 6; what++ {
			for ref := -1; ref <= 3; ref++ {
				hold(l, what, ref)
			}
		}
	}
	for _, n := range []int{math.MinInt, -1, 0, 1, 5, math.MaxInt} {
		wantOf(t, nil, n, n, nil, api.OK)
		wantOf(t, []api.BnBind{}, n, n, nil, api.OK)
		wantOf(t, example(), n, n+7, nil, api.OK)
	}
	wantOf(t, example(), api.BnVar, 2, []int{2}, api.OK)
	wantOf(t, example(), api.BnForm, 5, []int{3}, api.OK)
	wantOf(t, bindings(bind("x", "", math.MaxInt), bind("y", "", 3), bind("x", set(1), math.MaxInt)), api.BnVar, math.MaxInt, []int{0, 2}, api.OK)
	wantOf(t, many(1000), api.BnVar, 999, []int{999}, api.OK)
}

// P11.1 to P11.3: the error of the table goes before all others, and there is nothing beside it.
func TestTableFirst(t *testing.T) {
	for _, l := range badTables() {
		i, want := checked(l)
		if want == api.OK {
			t.Fatalf("%s is a table", brief(l))
		}
		wantCheck(t, l, i, want)
		wantOf(t, l, api.BnVar, 0, nil, want)
		wantOf(t, l, -1, -1, nil, want)
		for _, s := range []string{"", set(1), set(1, 2, 3), "a", span(0, 10001)} {
			wantCandidates(t, l, "x", s, nil, want)
			wantResolve(t, l, "x", s, 0, want)
			wantSame(t, l, asked("x", s), asked("x", s), false, want)
			wantSame(t, l, asked("x", ""), asked("y", s), false, want)
		}
		for _, b := range append(flaws(), bind("w", "", 0), bind("x", set(1), 0)) {
			wantAdd(t, l, b, nil, want)
		}
	}
}

// P11.7: arguments stay as they are, and the room behind them, too; results share no memory with them.
func TestMemory(t *testing.T) {
	room := append(example(), bind("behind", set(9), 9), bind("behind", set(8), 8))
	l := room[:4]
	before := slices.Clone(room)
	unchanged := func(after string) {
		t.Helper()
		if !slices.Equal(room, before) {
			t.Fatalf("after %s: %s", after, brief(room))
		}
	}
	b := bind("w", "", 0)
	first, _ := binds.Add(l, b)
	unchanged("Add")
	second, _ := binds.Add(l, bind("v", "", 1))
	first[0], first[4].Name = api.BnBind{}, "changed"
	unchanged("a change of what Add returned")
	if want := append(example(), bind("v", "", 1)); !slices.Equal(second, want) {
		t.Fatalf("Add shares memory: %s", brief(second))
	}
	candidates, _ := binds.Candidates(l, "x", set(1, 2, 3))
	of, _ := binds.Of(l, api.BnVar, 0)
	candidates[0], of[0] = 77, 77
	wantCandidates(t, l, "x", set(1, 2, 3), []int{0, 1, 2}, api.OK)
	wantOf(t, l, api.BnVar, 0, []int{0}, api.OK)
	wantResolve(t, l, "x", set(1, 2, 3), 0, api.ErrAmbiguous)
	wantSame(t, l, asked("x", set(1)), asked("y", ""), false, api.OK)
	wantCheck(t, l, 0, api.OK)
	unchanged("all functions")
	none, _ := binds.Add(nil, b)
	again, _ := binds.Add(nil, b)
	none[0].Name = "changed"
	if again[0] != b {
		t.Fatal("two results of Add share memory")
	}
}
