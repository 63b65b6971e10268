package data_test

import (
	"slices"
	"testing"

	"mummer/api"
	"mummer/data"
)

// badData returns what is no datum, with all errors that there are.
func badData() [][]api.DtNode {
	return [][]api.DtNode{nil, {}, {li(2), in(1)}, {in(1), in(2)}, {li(-1)}, {{}}, {bo(2)}, {sy("1")}, {li(2), bo(3), sy("")}, chain(33, in(1)), wide(400)}
}

func checkData(t *testing.T, call string, got, want []api.DtNode, e, wantErr api.Errno) {
	t.Helper()
	if !slices.Equal(got, want) || e != wantErr {
		t.Errorf("%s: %s, %d; want %s, %d", call, brief(got), e, brief(want), wantErr)
	}
}

// P4.3, P4.7: subtrees of all small data, and lists of them.
func TestSubAndList(t *testing.T) {
	for _, d := range slices.Concat(upTo(6, in(3)), upTo(4, sy("a"), bo(1), in(-5))) {
		l := d.flat()
		for i, p := range d.paths() {
			own := d.at(p)
			sub, e := data.Sub(l, i)
			checkData(t, "Sub", sub, own.flat(), e, api.OK)
			if node, e := data.Check(sub); node != 0 || e != api.OK {
				t.Errorf("Check(%v): %d, %d", sub, node, e)
			}
			same, e := data.Put(l, i, sub)
			checkData(t, "Put of the own subtree", same, l, e, api.OK)
			kids, _ := data.Kids(l, i)
			var parts [][]api.DtNode
			for _, kid := range kids {
				part, _ := data.Sub(l, kid)
				parts = append(parts, part)
			}
			if got := append([]api.DtNode{l[i]}, slices.Concat(parts...)...); !slices.Equal(got, sub) {
				t.Errorf("node %d of %v, and the subtrees of its children: %v", i, l, got)
			}
			if l[i].Kind == api.DtList {
				list, e := data.List(parts)
				checkData(t, "List", list, sub, e, api.OK)
			}
		}
	}
	for _, parts := range [][][]api.DtNode{nil, {}} {
		list, e := data.List(parts)
		checkData(t, "List of nothing", list, []api.DtNode{li(0)}, e, api.OK)
	}
}

// P4.3, P4.7: all small data at all places of all small data.
func TestPut(t *testing.T) {
	for _, d := range upTo(5, in(3)) {
		for _, s := range upTo(3, sy("b"), bo(0)) {
			l, m := d.flat(), s.flat()
			for i, p := range d.paths() {
				put, e := data.Put(l, i, m)
				checkData(t, "Put", put, d.with(p, s).flat(), e, api.OK)
				back, e := data.Sub(put, i)
				checkData(t, "Sub of Put", back, m, e, api.OK)
			}
		}
	}
}

// P4.3: how large and how deep what is made may be.
func TestMadeLimits(t *testing.T) {
	for n := 1; n <= 399; n += 17 {
		full := slices.Concat(wide(n)[:n], wide(399-n)) // 400 nodes, the last of the list being a list
		full[0] = li(n)
		put, e := data.Put(wide(n), n, wide(399-n))
		checkData(t, "Put of as many as there may be", put, full, e, api.OK)
		put, e = data.Put(wide(n), n, wide(400-n))
		checkData(t, "Put of one more", put, nil, e, api.ErrLong)
	}
	for n := range 33 {
		put, e := data.Put(chain(n, in(1)), n, chain(32-n, in(2)))
		checkData(t, "Put as deep as may be", put, chain(32, in(2)), e, api.OK)
		if n > 0 { // else it is put as a whole
			put, e = data.Put(chain(n, in(1)), n, chain(33-n, in(2)))
			checkData(t, "Put deeper", put, nil, e, api.ErrLong)
		}
	}
	put, e := data.Put(wide(399), 0, wide(399))
	checkData(t, "Put as a whole", put, wide(399), e, api.OK)
	for _, x := range []struct {
		parts [][]api.DtNode
		want  []api.DtNode
		e     api.Errno
	}{
		{slices.Repeat([][]api.DtNode{{in(1)}}, 399), wide(399), api.OK}, {slices.Repeat([][]api.DtNode{{in(1)}}, 400), nil, api.ErrLong}, {slices.Repeat([][]api.DtNode{{in(1)}}, 5000), nil, api.ErrLong},
		{[][]api.DtNode{wide(398)}, append([]api.DtNode{li(1)}, wide(398)...), api.OK}, {[][]api.DtNode{wide(399)}, nil, api.ErrLong}, {[][]api.DtNode{wide(199), wide(198)}, slices.Concat([]api.DtNode{li(2)}, wide(199), wide(198)), api.OK}, {[][]api.DtNode{wide(199), wide(199)}, nil, api.ErrLong},
		{[][]api.DtNode{chain(31, in(1))}, chain(32, in(1)), api.OK}, {[][]api.DtNode{chain(32, in(1))}, nil, api.ErrLong}, {[][]api.DtNode{{in(1)}, chain(32, in(1))}, nil, api.ErrLong},
	} {
		list, e := data.List(x.parts)
		checkData(t, "List", list, x.want, e, x.e)
	}
}

// P4.1: functions without a node return the error of their first datum that has one, before all others.
func TestErrorsOfData(t *testing.T) {
	good, long := example(), strs("a", "a", "1")
	for _, bad := range badData() {
		_, want := data.Check(bad)
		depth, e := data.Depth(bad)
		at, e2 := data.At(bad, []int{9})
		symbols, e3 := data.Symbols(bad)
		if depth != 0 || at != 0 || len(symbols) > 0 || e != want || e2 != want || e3 != want {
			t.Errorf("%s: %d, %d, %d; want %d", brief(bad), e, e2, e3, want)
		}
		for _, x := range [][2][]string{{nil, nil}, {long, nil}, {long, long}} {
			renamed, e := data.Rename(bad, x[0], x[1])
			checkData(t, "Rename", renamed, nil, e, want)
		}
		for _, i := range []int{0, 2, 6, -1} {
			put, e := data.Put(good, i, bad)
			checkData(t, "Put of a bad datum", put, nil, e, want)
		}
		list, e := data.List(append(slices.Repeat([][]api.DtNode{good}, 500), bad, []api.DtNode{}))
		checkData(t, "List with a bad datum", list, nil, e, want)
		for _, other := range badData() {
			_, second := data.Check(other)
			put, e := data.Put(bad, 0, other)
			checkData(t, "Put of bad data", put, nil, e, want)
			list, e := data.List([][]api.DtNode{good, other, bad})
			checkData(t, "List of bad data", list, nil, e, second)
			if c, e := data.Compare(bad, other); c != 0 || e != want {
				t.Errorf("Compare of bad data: %d, %d; want %d", c, e, want)
			}
		}
		c, e := data.Compare(bad, good)
		c2, e2 := data.Compare(good, bad)
		if c != 0 || c2 != 0 || e != want || e2 != want {
			t.Errorf("Compare with a bad datum: %d, %d; %d, %d; want %d", c, e, c2, e2, want)
		}
	}
}

// P4.1 to P4.6: the examples of the chapter.
func TestExamples(t *testing.T) {
	x := example()
	checkCheck(t, x, 0, api.OK)
	checkCheck(t, x[:5], 5, api.ErrForm)
	checkCheck(t, append(example(), sy("a")), 6, api.ErrForm)
	size, e1 := data.Size(x, 2)
	kids, e2 := data.Kids(x, 0)
	parent, e3 := data.Parent(x, 4)
	depth, e4 := data.Depth(x)
	if size != 3 || !slices.Equal(kids, []int{1, 2, 5}) || parent != 2 || depth != 2 || e1+e2+e3+e4 != 0 {
		t.Errorf("Size, Kids, Parent, Depth: %d, %v, %d, %d", size, kids, parent, depth)
	}
	path, e1 := data.Path(x, 4)
	at, e2 := data.At(x, []int{1, 0})
	none, e3 := data.At(x, []int{1, 2})
	if !slices.Equal(path, []int{1, 1}) || at != 3 || none != 0 || e1 != api.OK || e2 != api.OK || e3 != api.ErrNone {
		t.Errorf("Path, At, At: %v, %d, %d, %d", path, at, none, e3)
	}
	put, e := data.Put(x, 2, []api.DtNode{sy("b")})
	checkData(t, "Put", put, []api.DtNode{li(3), sy("a"), sy("b"), sy("a")}, e, api.OK)
	if l, e := data.Symbols(x); !slices.Equal(l, strs("a")) || e != api.OK {
		t.Errorf("Symbols: %v, %d", l, e)
	}
	renamed, e := data.Rename(x, strs("a"), strs("b"))
	checkData(t, "Rename", renamed, []api.DtNode{li(3), sy("b"), li(2), in(7), bo(1), sy("b")}, e, api.OK)
	for s, want := range map[string]bool{"a-1": true, "-1": false, "+": true, "abcdefghijklmnopqrstuvwx": true, "abcdefghijklmnopqrstuvwxy": false} {
		checkSymbol(t, s, want)
	}
	checkShape(t, []int{2, 0, 1, 0}, []int{4, 2, 4, 4}, api.OK)
	checkShape(t, []int{1, 0, 0}, nil, api.ErrForm)
}

// roomy returns l with more memory behind it, which has all the same elements.
func roomy[T any](l []T, fill T) []T {
	long := append(slices.Clone(l), slices.Repeat([]T{fill}, 20)...)
	return long[:len(l)]
}

// P4.9: arguments stay as they are, also the memory behind them, and what is done to one result is not seen in another one.
func TestFreshMemory(t *testing.T) {
	x, s := roomy(example(), sy("x")), roomy([]api.DtNode{li(1), sy("c")}, sy("x"))
	from, to, path, shape := roomy(strs("a", "b"), "x"), roomy(strs("b", "a"), "x"), roomy([]int{1, 0}, 7), roomy([]int{2, 0, 1, 0}, 7)
	parts := roomy([][]api.DtNode{x, s}, nil)
	list := slices.Concat([]api.DtNode{li(2)}, example(), []api.DtNode{li(1), sy("c")})
	for range 2 {
		sub, e := data.Sub(x, 0)
		checkData(t, "Sub", sub, example(), e, api.OK)
		put, e := data.Put(x, 5, s)
		checkData(t, "Put", put, append(example()[:5], li(1), sy("c")), e, api.OK)
		whole, e := data.Put(x, 0, s)
		checkData(t, "Put as a whole", whole, []api.DtNode{li(1), sy("c")}, e, api.OK)
		all, e := data.List(parts)
		checkData(t, "List", all, list, e, api.OK)
		renamed, e := data.Rename(x, from, to)
		checkData(t, "Rename", renamed, []api.DtNode{li(3), sy("b"), li(2), in(7), bo(1), sy("b")}, e, api.OK)
		same, e := data.Rename(x, nil, nil)
		checkData(t, "Rename of nothing", same, example(), e, api.OK)
		kids, _ := data.Kids(x, 0)
		way, _ := data.Path(x, 4)
		ends, _ := data.Shape(shape)
		symbols, _ := data.Symbols(list)
		if !slices.Equal(kids, []int{1, 2, 5}) || !slices.Equal(way, []int{1, 1}) || !slices.Equal(ends, []int{4, 2, 4, 4}) || !slices.Equal(symbols, strs("a", "c")) {
			t.Errorf("results have changed: %v, %v, %v, %v", kids, way, ends, symbols)
		}
		if n, e := data.At(x, path); n != 3 || e != api.OK {
			t.Errorf("At: %d, %d", n, e)
		}
		for _, l := range [][]api.DtNode{sub, put, whole, all, renamed, same} {
			clear(l[:cap(l)])
		}
		for _, l := range [][]int{kids, way, ends} {
			clear(l[:cap(l)])
		}
		clear(symbols[:cap(symbols)])
	}
	if !slices.Equal(x[:cap(x)][6:26], slices.Repeat([]api.DtNode{sy("x")}, 20)) || !slices.Equal(s[:22], append([]api.DtNode{li(1), sy("c")}, slices.Repeat([]api.DtNode{sy("x")}, 20)...)) {
		t.Errorf("data have changed: %v, %v", x[:26], s[:22])
	}
	if !slices.Equal(from[:22], append(strs("a", "b"), slices.Repeat(strs("x"), 20)...)) || !slices.Equal(to[:22], append(strs("b", "a"), slices.Repeat(strs("x"), 20)...)) {
		t.Errorf("names have changed: %v, %v", from[:22], to[:22])
	}
	if !slices.Equal(path[:3], []int{1, 0, 7}) || !slices.Equal(shape[:5], []int{2, 0, 1, 0, 7}) || parts[:3][2] != nil {
		t.Errorf("lists have changed: %v, %v", path[:3], shape[:5])
	}
}
