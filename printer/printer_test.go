package printer_test

import (
	"math"
	"slices"
	"strings"
	"testing"

	"mummer/api"
	"mummer/data"
	"mummer/printer"
	"mummer/reader"
)

// checkPrint holds Print and Where against the definitions.
func checkPrint(t *testing.T, d nest) {
	t.Helper()
	want := d.text()
	if s, e := printer.Print(d.flat()); s != want || e != api.OK {
		t.Fatalf("Print(%.200q): %.200q, %d", want, s, e)
	}
	if l, e := printer.Where(d.flat()); !slices.Equal(l, d.where(0)) || e != api.OK {
		t.Fatalf("Where(%.200q): %v, %d; want %v", want, l, e, d.where(0))
	}
}

// checkBack holds the properties of the text of a datum.
func checkBack(t *testing.T, d nest) {
	t.Helper()
	s, _ := printer.Print(d.flat())
	spans, _ := printer.Where(d.flat())
	r, at, e := reader.One([]byte(s))
	if e != api.OK || !slices.Equal(r.Tree, d.flat()) || !slices.Equal(r.Spans, spans) {
		t.Fatalf("One(%.200q): %v, %v, %d", s, r, at, e)
	}
}

// deep returns an atom in so many lists.
func deep(n int) nest {
	d := leaf(sy("a"))
	for range n {
		d = listOf(d)
	}
	return d
}

// long returns a list of symbols, most of 24 bytes, whose text has so many bytes (from 3 on).
func long(size int) nest {
	l := listOf()
	add := func(n int) { l.kids = append(l.kids, leaf(sy(strings.Repeat("a", n)))) }
	rest := size - 1 // each symbol has a byte before it
	for ; rest > 26; rest -= 25 {
		add(24)
	}
	if rest == 26 {
		add(12)
		rest = 13
	}
	add(rest - 1)
	return listOf(l.kids...)
}

// atomsOfAllKinds has what is at the bounds of each kind.
func atomsOfAllKinds() []api.DtNode {
	l := []api.DtNode{bo(0), bo(1), li(0)}
	for _, n := range []int64{0, 1, -1, 7, -7, 9, 10, -10, 99, 100, 1000000, math.MaxInt64, math.MinInt64} {
		l = append(l, in(n))
	}
	for _, s := range []string{"a", "+", "-", "...", "a-1", "-a", "1+", "λ", "é", "quote", ".", strings.Repeat("x", 24), strings.Repeat("λ", 12), "1/2", "-1.5", "+-1"} {
		l = append(l, sy(s))
	}
	return l
}

// P7.1, P7.4: each kind of atom, alone and in lists.
func TestPrintAtoms(t *testing.T) {
	for _, x := range atomsOfAllKinds() {
		if _, e := data.Check([]api.DtNode{x}); e != api.OK {
			t.Fatalf("%v is no datum", x)
		}
		for _, y := range atomsOfAllKinds() {
			for _, d := range []nest{leaf(x), listOf(leaf(x)), listOf(leaf(x), leaf(y)), listOf(leaf(x), listOf(leaf(y)), leaf(x))} {
				checkPrint(t, d)
				checkBack(t, d)
			}
		}
	}
}

// P7.1, P7.4: all small data; no two of them have the same text.
func TestPrintSmall(t *testing.T) {
	had := map[string]bool{}
	for _, d := range upTo(6, sy("ab"), in(-3), bo(1)) {
		checkPrint(t, d)
		checkBack(t, d)
		s, _ := printer.Print(d.flat())
		if had[s] {
			t.Fatalf("two data have the text %q", s)
		}
		had[s] = true
	}
}

// P7.1, P7.4: greater data, and the deepest ones.
func TestPrintGreat(t *testing.T) {
	var d dice
	for range 300 {
		x := d.grown(1+d.below(400), 32)
		checkPrint(t, x)
		checkBack(t, x)
	}
	for n := range 33 {
		checkPrint(t, deep(n))
		checkBack(t, deep(n))
	}
	wide := listOf(slices.Repeat([]nest{leaf(li(0))}, 399)...)
	checkPrint(t, wide)
	checkBack(t, wide)
}

// noData returns lists of nodes that are no data, for each error of data.Check.
func noData() [][]api.DtNode {
	return [][]api.DtNode{
		nil,
		{},
		li1(400).flat(),
		deep(33).flat(),
		{{}},
		{{Kind: 5}},
		{{Kind: -1}},
		{li(1)},
		{li(-1)},
		{li(2), sy("a")},
		{sy("a"), sy("b")},
		{li(0), li(0)},
		{bo(2)},
		{bo(-1)},
		{li(1), bo(2)},
		{sy("")},
		{sy("12")},
		{sy("-1")},
		{sy("#t")},
		{sy("a b")},
		{sy("(")},
		{sy("\xff")},
		{sy(strings.Repeat("a", 25))},
		{{Kind: api.DtInt, Kids: 1}, sy("a")},
		{{Kind: api.DtInt, S: "1"}},
		{{Kind: api.DtBool, S: "t"}},
		{{Kind: api.DtSymbol, S: "a", N: 1}},
		{{Kind: api.DtList, N: 1}},
		{{Kind: api.DtList, Kids: math.MaxInt}},
		{{Kind: api.DtList, Kids: math.MinInt}},
	}
}

// li1 returns a list of n integers.
func li1(n int) nest { return listOf(slices.Repeat([]nest{leaf(in(1))}, n)...) }

// P7.1 to P7.3: what is no datum has the error of data.Check; in Lines it goes before the width.
func TestNoData(t *testing.T) {
	for i, d := range noData() {
		_, want := data.Check(d)
		if want == api.OK {
			t.Fatalf("%d is a datum", i)
		}
		if s, e := printer.Print(d); s != "" || e != want {
			t.Errorf("%d: Print: %q, %d; want %d", i, s, e, want)
		}
		if l, e := printer.Where(d); len(l) != 0 || e != want {
			t.Errorf("%d: Where: %v, %d; want %d", i, l, e, want)
		}
		for _, width := range []int{0, 1, 80, 200, 201} {
			if l, e := printer.Lines(d, width); len(l) != 0 || e != want {
				t.Errorf("%d: Lines: %v, %d; want %d", i, l, e, want)
			}
		}
		if s, e := printer.Program([][]api.DtNode{{in(1)}, d, {sy("a")}}); s != "" || e != want {
			t.Errorf("%d: Program: %q, %d; want %d", i, s, e, want)
		}
	}
}

// P7.1: 8000 bytes are a text, 8001 none.
func TestPrintLimit(t *testing.T) {
	for size := 7900; size <= 8100; size++ {
		d := long(size)
		if len(d.text()) != size {
			t.Fatalf("the text has %d bytes, not %d", len(d.text()), size)
		}
		if size <= 8000 {
			checkPrint(t, d)
			checkBack(t, d)
			continue
		}
		if s, e := printer.Print(d.flat()); s != "" || e != api.ErrLong {
			t.Errorf("Print of %d bytes: %.20q, %d", size, s, e)
		}
		if l, e := printer.Where(d.flat()); len(l) != 0 || e != api.ErrLong {
			t.Errorf("Where of %d bytes: %d spans, %d", size, len(l), e)
		}
	}
	most := listOf(slices.Repeat([]nest{leaf(sy(strings.Repeat("a", 24)))}, 399)...).flat()
	if s, e := printer.Print(most); s != "" || e != api.ErrLong {
		t.Errorf("Print: %.20q, %d", s, e)
	}
}

// P7.3: no data, one, and 200; 201 are too many, whatever they are.
func TestProgramData(t *testing.T) {
	for n := range 201 {
		var l [][]api.DtNode
		var want string
		var d dice
		for range n {
			x := d.grown(1+d.below(5), 3)
			l = append(l, x.flat())
			want += x.text() + "\n"
		}
		if s, e := printer.Program(l); s != want || e != api.OK {
			t.Fatalf("Program of %d: %.100q, %d; want %.100q", n, s, e, want)
		}
	}
	if s, e := printer.Program([][]api.DtNode{}); s != "" || e != api.OK {
		t.Errorf("Program of nothing: %q, %d", s, e)
	}
	for _, d := range [][]api.DtNode{{in(1)}, {bo(2)}, nil} {
		if s, e := printer.Program(slices.Repeat([][]api.DtNode{d}, 201)); s != "" || e != api.ErrLong {
			t.Errorf("Program of 201: %.20q, %d", s, e)
		}
	}
}

// P7.3: the first datum that is none has its error, before a text that is too long.
func TestProgramOrder(t *testing.T) {
	much := long(8000).flat()
	for i, x := range []struct {
		l    [][]api.DtNode
		want api.Errno
	}{
		{[][]api.DtNode{{bo(2)}, {sy("")}}, api.ErrRange},
		{[][]api.DtNode{{sy("")}, {bo(2)}}, api.ErrForm},
		{[][]api.DtNode{{in(1)}, li1(400).flat(), {bo(2)}}, api.ErrLong},
		{[][]api.DtNode{{bo(2)}, li1(400).flat()}, api.ErrRange},
		{[][]api.DtNode{much, much, {bo(2)}}, api.ErrRange},
		{[][]api.DtNode{much, much, nil}, api.ErrForm},
		{[][]api.DtNode{much, much}, api.ErrLong},
	} {
		if s, e := printer.Program(x.l); s != "" || e != x.want {
			t.Errorf("%d: Program: %.20q, %d; want %d", i, s, e, x.want)
		}
	}
}

// P7.3: 8000 bytes are a text, 8001 none; the bytes 10 count.
func TestProgramLimit(t *testing.T) {
	for parts := 1; parts <= 100; parts++ {
		l := slices.Repeat([][]api.DtNode{{sy("a")}}, parts-1)
		rest := 8000 - 2*(parts-1) - 1
		full, over := append(slices.Clone(l), long(rest).flat()), append(slices.Clone(l), long(rest+1).flat())
		want := strings.Repeat("a\n", parts-1) + long(rest).text() + "\n"
		if s, e := printer.Program(full); s != want || len(s) != 8000 || e != api.OK {
			t.Errorf("Program of %d: %d bytes, %d", parts, len(s), e)
		}
		if s, e := printer.Program(over); s != "" || e != api.ErrLong {
			t.Errorf("Program of %d, too long: %d bytes, %d", parts, len(s), e)
		}
	}
}

// P7.4: reader.Read of Program are the data.
func TestProgramBack(t *testing.T) {
	var d dice
	for range 300 {
		var l [][]api.DtNode
		for range d.below(20) {
			l = append(l, d.grown(1+d.below(20), 5).flat())
		}
		s, e := printer.Program(l)
		back, at, f := reader.Read([]byte(s))
		if e != api.OK || f != api.OK || len(back) != len(l) {
			t.Fatalf("Program: %.200q, %d; Read: %v, %d", s, e, at, f)
		}
		for i := range l {
			if !slices.Equal(back[i].Tree, l[i]) {
				t.Fatalf("Read(%.200q): %v; want %v", s, back[i].Tree, l[i])
			}
		}
	}
}

// P7.6: what is printed after it was read, and read again, is printed the same.
func TestReadPrintReadPrint(t *testing.T) {
	print := func(s string) string {
		r, at, e := reader.Read([]byte(s))
		if e != api.OK {
			t.Fatalf("Read(%q): %v, %d", s, at, e)
		}
		var l [][]api.DtNode
		for _, d := range r {
			l = append(l, d.Tree)
		}
		text, e := printer.Program(l)
		if e != api.OK {
			t.Fatalf("Program of %q: %d", s, e)
		}
		return text
	}
	for _, x := range []struct{ text, want string }{
		{"", ""},
		{" ; nothing\n", ""},
		{"+007 -0", "7\n0\n"},
		{"[a(b)]'x", "(a (b))\n(quote x)\n"},
		{"(a ; b\n\tc)#;d e", "(a c)\ne\n"},
		{"''()", "(quote (quote ()))\n"},
		{"(define (f x)\n  (if x 1 #f))\n(f #t)", "(define (f x) (if x 1 #f))\n(f #t)\n"},
	} {
		first := print(x.text)
		if first != x.want {
			t.Errorf("%q is printed as %q, not as %q", x.text, first, x.want)
		}
		if again := print(first); again != first {
			t.Errorf("%q is printed as %q, then as %q", x.text, first, again)
		}
	}
}

// P7.6: arguments are not modified, results share no memory with them or each other.
func TestMemory(t *testing.T) {
	d := listOf(leaf(sy("define")), listOf(leaf(sy("f")), leaf(sy("x"))), leaf(in(1)), leaf(bo(0))).flat()
	spare := append(slices.Clone(d), sy("spare"))
	tree := spare[:len(d)]
	l := [][]api.DtNode{tree, {sy("a")}}
	lines, _ := printer.Lines(tree, 9)
	where, _ := printer.Where(tree)
	again, _ := printer.Where(tree)
	printer.Print(tree)
	printer.Program(l)
	if !slices.Equal(tree, d) || spare[len(d)].S != "spare" || !slices.Equal(l[1], []api.DtNode{sy("a")}) {
		t.Errorf("the datum has changed: %v", spare)
	}
	keep := slices.Clone(where)
	clear(again)
	for i := range spare {
		spare[i] = api.DtNode{}
	}
	if !slices.Equal(where, keep) {
		t.Errorf("Where: %v, then %v", keep, where)
	}
	if want := []string{"(define", " (f x)", " 1", " #f)"}; !slices.Equal(lines, want) {
		t.Errorf("Lines: %q; want %q", lines, want)
	}
}

// The chapter's examples.
func TestExamples(t *testing.T) {
	of := func(s string) []api.DtNode {
		d, _, e := reader.One([]byte(s))
		if e != api.OK {
			t.Fatalf("One(%q): %d", s, e)
		}
		return d.Tree
	}
	const text = "(define (f x) (if x 1 #f))"
	for _, x := range []struct {
		d    []api.DtNode
		want string
	}{{of(text), text}, {[]api.DtNode{in(-7)}, "-7"}, {[]api.DtNode{li(0)}, "()"}} {
		if s, e := printer.Print(x.d); s != x.want || e != api.OK {
			t.Errorf("Print: %q, %d; want %q", s, e, x.want)
		}
	}
	if l, e := printer.Where(of("(a (1))")); !slices.Equal(l, []api.SpSpan{sp(0, 7), sp(1, 2), sp(3, 6), sp(4, 5)}) || e != api.OK {
		t.Errorf("Where: %v, %d", l, e)
	}
	for _, x := range []struct {
		width int
		want  []string
	}{
		{26, []string{text}},
		{25, []string{"(define", " (f x)", " (if x 1 #f))"}},
		{5, []string{"(define", " (f", "  x)", " (if", "  x", "  1", "  #f))"}},
	} {
		if l, e := printer.Lines(of(text), x.width); !slices.Equal(l, x.want) || e != api.OK {
			t.Errorf("Lines, %d: %q, %d; want %q", x.width, l, e, x.want)
		}
	}
	if s, e := printer.Program([][]api.DtNode{of("a"), of("()")}); s != "a\n()\n" || e != api.OK {
		t.Errorf("Program: %q, %d", s, e)
	}
}
