package data_test

import (
	"math"
	"slices"
	"strconv"
	"strings"
	"testing"

	"mummer/api"
	"mummer/data"
)

func strs(l ...string) []string { return l }

// earlier is the definition of the order of data.
func earlier(a, b nest) bool {
	if a.node.Kind != b.node.Kind {
		return a.node.Kind < b.node.Kind
	}
	switch a.node.Kind {
	case api.DtInt, api.DtBool:
		return a.node.N < b.node.N
	case api.DtSymbol:
		return a.node.S < b.node.S
	}
	for i := range min(len(a.kids), len(b.kids)) {
		if earlier(a.kids[i], b.kids[i]) {
			return true
		}
		if earlier(b.kids[i], a.kids[i]) {
			return false
		}
	}
	return len(a.kids) < len(b.kids)
}

// sign returns how i is to k.
func sign(i, k int) int {
	switch {
	case i < k:
		return -1
	case i > k:
		return 1
	}
	return 0
}

func checkCompare(t *testing.T, a, b []api.DtNode, want int) {
	t.Helper()
	if c, e := data.Compare(a, b); c != want || e != api.OK {
		t.Errorf("Compare(%v, %v): %d, %d; want %d", a, b, c, e, want)
	}
}

// P4.5, P4.8: all pairs of small data. They stand in one order, which Compare has, too; so it is total, and only the same are equal.
func TestCompareAll(t *testing.T) {
	for _, l := range [][]nest{upTo(6, in(3)), upTo(4, in(-1), in(2), bo(1), sy("a")), upTo(3, in(math.MinInt64), in(math.MaxInt64), in(0), in(1), bo(0), bo(1), sy("a"), sy("aa"), sy("b"), sy("B"), sy("é"), sy("~"))} {
		slices.SortFunc(l, func(a, b nest) int {
			switch {
			case earlier(a, b):
				return -1
			case earlier(b, a):
				return 1
			}
			return 0
		})
		flat := make([][]api.DtNode, len(l))
		for i, d := range l {
			flat[i] = d.flat()
		}
		for i := range flat {
			for k := range flat {
				checkCompare(t, flat[i], flat[k], sign(i, k))
			}
		}
	}
}

// P4.5: data in their order, as the definition names it.
func TestCompareListed(t *testing.T) {
	l := [][]api.DtNode{
		{in(math.MinInt64)}, {in(-10)}, {in(-9)}, {in(9)}, {in(10)}, {in(math.MaxInt64)}, {bo(0)}, {bo(1)}, {sy("-")}, {sy("1+")}, {sy("Z")}, {sy("a")}, {sy("a1")}, {sy("aa")}, {sy("b")}, {sy("~")}, {sy("é")}, {sy("😀")},
		{li(0)}, {li(1), in(5)}, {li(2), in(5), in(-1)}, {li(3), in(5), in(-1), in(0)}, {li(2), in(5), sy("a")}, {li(2), in(5), li(0)}, {li(1), in(6)}, {li(1), bo(0)}, {li(1), sy("a")},
		{li(1), li(0)}, {li(2), li(0), in(1)}, {li(2), li(0), li(0)}, {li(1), li(1), in(0)}, {li(2), li(1), in(0), in(0)}, {li(1), li(2), in(0), in(0)}, {li(2), li(2), in(0), in(0), in(0)}, {li(1), li(1), li(0)},
	}
	for i := range l {
		for k := range l {
			checkCompare(t, l[i], l[k], sign(i, k))
		}
	}
	checkCompare(t, chain(32, in(1)), chain(32, in(2)), -1)
	checkCompare(t, chain(32, in(1)), chain(31, in(2)), 1)
	checkCompare(t, wide(399), wide(398), 1)
	checkCompare(t, wide(399), wide(399), 0)
}

// P4.5: the symbols of all small data.
func TestSymbols(t *testing.T) {
	for _, d := range slices.Concat(upTo(5, sy("b"), sy("a"), in(1)), upTo(4, sy("é"), sy("~"), sy("ab"), bo(0))) {
		met := map[string]bool{}
		for _, n := range d.flat() {
			if n.Kind == api.DtSymbol {
				met[n.S] = true
			}
		}
		var want []string
		for _, s := range strs("a", "ab", "b", "~", "é") {
			if met[s] {
				want = append(want, s)
			}
		}
		if l, e := data.Symbols(d.flat()); !slices.Equal(l, want) || e != api.OK {
			t.Errorf("Symbols(%v): %v, %d", d.flat(), l, e)
		}
	}
	many := []api.DtNode{li(399)}
	for i := range 399 {
		many = append(many, sy("s"+strconv.Itoa(1000-i)))
	}
	l, e := data.Symbols(many)
	if len(l) != 399 || !slices.IsSorted(l) || e != api.OK {
		t.Errorf("Symbols of many: %d, %d", len(l), e)
	}
}

// P4.5: all names are replaced at once, wherever their symbols are, and nothing else is.
func TestRename(t *testing.T) {
	for _, x := range [][2][]string{
		{nil, nil}, {{}, nil}, {{"a"}, {"b"}}, {{"b"}, {"a"}}, {{"a", "b"}, {"b", "a"}}, {{"a", "b"}, {"b", "c"}}, {{"b", "a"}, {"c", "b"}}, {{"a", "b"}, {"z", "z"}}, {{"a", "b", "q"}, {"b", "b", "a"}},
		{{"q"}, {"a"}}, {{"a"}, {"a"}}, {{"A", "aa"}, {"x", "y"}}, {{"a"}, {strings.Repeat("é", 12)}},
	} {
		names := map[string]string{}
		for i, s := range x[0] {
			names[s] = x[1][i]
		}
		for _, d := range upTo(5, sy("a"), sy("b"), in(1)) {
			want := d.flat()
			for i, n := range want {
				if s, ok := names[n.S]; ok && n.Kind == api.DtSymbol {
					want[i].S = s
				}
			}
			got, e := data.Rename(d.flat(), x[0], x[1])
			checkData(t, "Rename", got, want, e, api.OK)
		}
	}
}

// P4.9: Rename to other symbols is undone by Rename back.
func TestRenameBack(t *testing.T) {
	for _, x := range [][2][]string{{{"a"}, {"c"}}, {{"a", "b"}, {"c", "d"}}, {{"b", "a"}, {"c", "d"}}, {{"b", "q"}, {"é", "c"}}, {nil, nil}} {
		for _, d := range upTo(5, sy("a"), sy("b"), bo(1)) {
			there, e := data.Rename(d.flat(), x[0], x[1])
			if e != api.OK {
				t.Fatalf("Rename(%v, %v): %d", d.flat(), x, e)
			}
			back, e := data.Rename(there, x[1], x[0])
			checkData(t, "Rename back", back, d.flat(), e, api.OK)
		}
	}
}

// P4.5: which names Rename accepts, and which error goes first.
func TestRenameErrors(t *testing.T) {
	long := strings.Repeat("a", 25)
	for i, x := range []struct {
		from, to []string
		want     api.Errno
	}{
		{strs("a"), nil, api.ErrArg}, {nil, strs("a"), api.ErrArg}, {strs("a"), strs("b", "c"), api.ErrArg}, {strs("1", "1"), strs("1"), api.ErrArg}, {strs("a", "a"), strs("b"), api.ErrArg},
		{strs(""), strs("b"), api.ErrForm}, {strs("a"), strs(""), api.ErrForm}, {strs("a", "12"), strs("b", "c"), api.ErrForm}, {strs("a", "b"), strs("c", "-1"), api.ErrForm}, {strs("a b"), strs("c"), api.ErrForm}, {strs("q"), strs(long), api.ErrForm}, {strs(long), strs("q"), api.ErrForm}, {strs("\xff"), strs("q"), api.ErrForm},
		{strs("a", "a", "1"), strs("b", "c", "d"), api.ErrForm}, {strs("a", "a", "c"), strs("b", "c", "1"), api.ErrForm}, {strs("1", "1"), strs("b", "c"), api.ErrForm},
		{strs("a", "a"), strs("b", "c"), api.ErrTwice}, {strs("a", "a"), strs("b", "b"), api.ErrTwice}, {strs("a", "b", "a"), strs("b", "c", "d"), api.ErrTwice}, {strs("q", "c", "b", "a", "q"), strs("1+", "b", "c", "d", "e"), api.ErrTwice},
	} {
		got, e := data.Rename(example(), x.from, x.to)
		checkData(t, "Rename "+strconv.Itoa(i), got, nil, e, x.want)
	}
	var from, to []string
	for i := range 20000 {
		from, to = append(from, "f"+strconv.Itoa(i)), append(to, "t"+strconv.Itoa(i%7))
	}
	got, e := data.Rename([]api.DtNode{sy("f19999")}, from, to)
	checkData(t, "Rename of many", got, []api.DtNode{sy("t0")}, e, api.OK)
	from[19999] = "f0"
	got, e = data.Rename([]api.DtNode{sy("f19999")}, from, to)
	checkData(t, "Rename of many, one twice", got, nil, e, api.ErrTwice)
}
