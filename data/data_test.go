package data_test

import (
	"fmt"
	"math"
	"regexp"
	"slices"
	"strings"
	"testing"

	"mummer/api"
	"mummer/data"
)

func in(n int64) api.DtNode { return api.DtNode{Kind: api.DtInt, N: n} }

func bo(n int64) api.DtNode { return api.DtNode{Kind: api.DtBool, N: n} }

func sy(s string) api.DtNode { return api.DtNode{Kind: api.DtSymbol, S: s} }

func li(kids int) api.DtNode { return api.DtNode{Kind: api.DtList, Kids: kids} }

// example is T of the chapter: (a (7 #t) a).
func example() []api.DtNode { return []api.DtNode{li(3), sy("a"), li(2), in(7), bo(1), sy("a")} }

// chain is a leaf within n lists.
func chain(n int, leaf api.DtNode) []api.DtNode {
	return append(slices.Repeat([]api.DtNode{li(1)}, n), leaf)
}

// wide is a list of n integers.
func wide(n int) []api.DtNode {
	return append([]api.DtNode{li(n)}, slices.Repeat([]api.DtNode{in(1)}, n)...)
}

// brief returns the beginning of what v is as a text.
func brief(v any) string {
	s := fmt.Sprint(v)
	return s[:min(len(s), 200)]
}

func checkSymbol(t *testing.T, s string, want bool) {
	t.Helper()
	if got := data.Symbol(s); got != want {
		t.Errorf("Symbol(%q): %v", s, got)
	}
}

// P4.1: all short strings, held against the definition.
func TestSymbolShort(t *testing.T) {
	letters := "abcdefghijklmnopqrstuvwxyzABCDEFGHIJKLMNOPQRSTUVWXYZ!$%&*/:<=>?^_~.@"
	integers := regexp.MustCompile(`^[+-]?[0-9]+$`)
	isSymbol := func(s string) bool {
		for _, r := range s {
			if r < 161 && !strings.ContainsRune(letters+"0123456789+-", r) {
				return false
			}
		}
		return s != "" && !integers.MatchString(s)
	}
	var grow func(s string, pieces []string, left int)
	grow = func(s string, pieces []string, left int) {
		checkSymbol(t, s, isSymbol(s))
		for _, p := range pieces {
			if left > 0 {
				grow(s+p, pieces, left-1)
			}
		}
	}
	grow("", []string{"a", "0", "9", "+", "-", ".", "e", "_", "é", " "}, 5)
	var ascii []string
	for c := range 128 {
		ascii = append(ascii, string(rune(c)))
	}
	grow("", ascii, 2)
	for r := rune(128); r < 70000; r++ {
		if r < 0xD800 || r > 0xDFFF {
			checkSymbol(t, string(r), r >= 161)
			checkSymbol(t, "1"+string(r), r >= 161)
		}
	}
}

// P4.1: what is no string of runes, and how many bytes there may be.
func TestSymbolBytes(t *testing.T) {
	for _, s := range []string{"\xff", "\x80", "a\xc3", "\xc3", "\xe2\x82", "\xed\xa0\x80", "\xc1\xa1", "a\xffb", "\xf4\x90\x80\x80"} {
		checkSymbol(t, s, false)
	}
	for n := 1; n < 60; n++ {
		for _, s := range []string{"a", "é", "€", "😀", "+", "a1-"} {
			long := strings.Repeat(s, n)
			checkSymbol(t, long, len(long) <= 24)
			checkSymbol(t, strings.Repeat("1", n)+s, n+len(s) <= 24 && s != "")
		}
		checkSymbol(t, strings.Repeat("7", n), false)
		checkSymbol(t, "-"+strings.Repeat("7", n), false)
	}
	checkSymbol(t, strings.Repeat("a", 1<<20), false)
}

// missing is how many nodes must still come after those of t, if each one is without children.
func missing(t []api.DtNode) int {
	n := 1
	for _, x := range t {
		n += x.Kids - 1
	}
	return n
}

// depthOf is how many nodes before node i have lacked nodes all the way to it.
func depthOf(t []api.DtNode, i int) int {
	depth := 0
	for p := range i {
		lacks := true
		for k := p + 1; k <= i; k++ {
			lacks = lacks && missing(t[p:k]) > 0
		}
		if lacks {
			depth++
		}
	}
	return depth
}

// badForm is what P4.1 says of a node's kind and fields.
func badForm(n api.DtNode) bool {
	if n.Kind < 1 || n.Kind > 4 || n.Kids < 0 {
		return true
	}
	return n.Kids != 0 && n.Kind != api.DtList || n.N != 0 && n.Kind != api.DtInt && n.Kind != api.DtBool || n.S != "" && n.Kind != api.DtSymbol
}

// checked is P4.1 for nodes, by looking at all nodes before each one.
func checked(t []api.DtNode) (int, api.Errno) {
	if len(t) == 0 {
		return 0, api.ErrForm
	}
	if len(t) > 400 {
		return 0, api.ErrLong
	}
	for i, n := range t {
		switch {
		case missing(t[:i]) == 0 || badForm(n):
			return i, api.ErrForm
		case depthOf(t, i) > 32:
			return i, api.ErrLong
		case n.Kind == api.DtBool && n.N != 0 && n.N != 1:
			return i, api.ErrRange
		case n.Kind == api.DtSymbol && !data.Symbol(n.S):
			return i, api.ErrForm
		}
	}
	if missing(t) > 0 {
		return len(t), api.ErrForm
	}
	return 0, api.OK
}

func checkCheck(t *testing.T, l []api.DtNode, node int, want api.Errno) {
	t.Helper()
	if n, e := data.Check(l); n != node || e != want {
		t.Errorf("Check(%s): %d, %d; want %d, %d", brief(l), n, e, node, want)
	}
}

// P4.1: all short lists of good and bad nodes.
func TestCheckShort(t *testing.T) {
	grow := func(nodes []api.DtNode, most int) {
		var add func(l []api.DtNode)
		add = func(l []api.DtNode) {
			node, e := checked(l)
			checkCheck(t, l, node, e)
			for _, n := range nodes {
				if len(l) < most {
					add(append(slices.Clone(l), n))
				}
			}
		}
		add(nil)
	}
	grow([]api.DtNode{in(7), bo(1), sy("a"), li(0), li(1), li(2), li(3), {}, li(-1), bo(2), sy("")}, 4)
	grow([]api.DtNode{in(0), li(0), li(1), li(2), li(4), sy("1")}, 6)
	var wrong []api.DtNode
	for kind := -1; kind <= 6; kind++ {
		for kids := -2; kids <= 2; kids++ {
			for n := int64(-1); n <= 2; n++ {
				for _, s := range []string{"", "a", "1", "a b"} {
					wrong = append(wrong, api.DtNode{Kind: kind, Kids: kids, N: n, S: s})
				}
			}
		}
	}
	grow(wrong, 1)
	for _, n := range wrong {
		for _, l := range [][]api.DtNode{{li(2), n, in(1)}, {li(2), n, n}, {li(1), n, in(1), in(2)}, {in(1), n}, {li(0), n}} {
			node, e := checked(l)
			checkCheck(t, l, node, e)
		}
	}
}

// P4.1: numbers that are as great as can be.
func TestCheckGreat(t *testing.T) {
	for _, n := range []int{401, 1 << 31, 1 << 62, math.MaxInt} {
		checkCheck(t, []api.DtNode{li(n)}, 1, api.ErrForm)
		checkCheck(t, []api.DtNode{li(2), li(n), li(n), in(1)}, 4, api.ErrForm)
		checkCheck(t, []api.DtNode{li(n), li(n), bo(2)}, 2, api.ErrRange)
	}
	for _, n := range []int{math.MinInt, math.MinInt + 1, -1} {
		checkCheck(t, []api.DtNode{li(n)}, 0, api.ErrForm)
		checkCheck(t, []api.DtNode{li(math.MaxInt), li(n)}, 1, api.ErrForm)
	}
	for _, n := range []int64{math.MinInt64, math.MaxInt64, 1 << 32, 1<<32 + 1} {
		checkCheck(t, []api.DtNode{in(n)}, 0, api.OK)
		checkCheck(t, []api.DtNode{bo(n)}, 0, api.ErrRange)
		checkCheck(t, []api.DtNode{{Kind: api.DtList, N: n}}, 0, api.ErrForm)
		checkCheck(t, []api.DtNode{{Kind: api.DtSymbol, S: "a", N: n}}, 0, api.ErrForm)
		checkCheck(t, []api.DtNode{{Kind: int(n)}}, 0, api.ErrForm)
	}
}

// P4.1: how deep nodes may be, with each fault that may be there, too.
func TestCheckDepth(t *testing.T) {
	for n := 30; n <= 36; n++ {
		for _, last := range []api.DtNode{in(1), bo(1), bo(2), sy("a"), sy("1"), li(0), li(-1), li(2), {Kind: 5}, {Kind: api.DtInt, S: "a"}, {Kind: api.DtSymbol, S: "a", N: 1}} {
			l := chain(n, last)
			// Beside it a node that is less deep, and the last node of all.
			side := append(slices.Concat([]api.DtNode{li(2)}, l[:n], []api.DtNode{last}), sy("z"))
			cut := l[:n]
			for _, x := range [][]api.DtNode{l, side, cut, append(slices.Clone(l), in(1))} {
				node, e := checked(x)
				checkCheck(t, x, node, e)
			}
		}
	}
	checkCheck(t, chain(32, in(1)), 0, api.OK)
	checkCheck(t, chain(33, in(1)), 33, api.ErrLong)
	checkCheck(t, chain(399, in(1)), 33, api.ErrLong)
	// Lists that have ended do not count, whether others are within them or after them.
	var last []api.DtNode
	for range 100 {
		last = append(last, li(2), li(1), in(1))
	}
	checkCheck(t, append(slices.Clone(last[:93]), in(1)), 0, api.OK)
	checkCheck(t, append(slices.Clone(last[:96]), in(1)), 95, api.ErrLong)
	checkCheck(t, last, 95, api.ErrLong)
	row := append([]api.DtNode{li(100)}, slices.Repeat(chain(2, in(1)), 100)...)
	checkCheck(t, row, 0, api.OK)
	checkCheck(t, append([]api.DtNode{li(2)}, append(chain(31, in(1)), chain(31, in(1))...)...), 0, api.OK)
	checkCheck(t, append([]api.DtNode{li(2)}, append(chain(31, in(1)), chain(32, in(1))...)...), 65, api.ErrLong)
}

// P4.1: how many nodes there may be, which goes before everything else.
func TestCheckMany(t *testing.T) {
	checkCheck(t, nil, 0, api.ErrForm)
	checkCheck(t, []api.DtNode{}, 0, api.ErrForm)
	checkCheck(t, wide(399), 0, api.OK)
	checkCheck(t, wide(400), 0, api.ErrLong)
	checkCheck(t, wide(399)[:399], 399, api.ErrForm)
	checkCheck(t, wide(400)[:400], 400, api.ErrForm)
	checkCheck(t, append(wide(398), in(1)), 399, api.ErrForm)
	checkCheck(t, append(wide(399), in(1)), 0, api.ErrLong)
	checkCheck(t, make([]api.DtNode, 401), 0, api.ErrLong)
	checkCheck(t, make([]api.DtNode, 400), 0, api.ErrForm)
	last := wide(399)
	last[399] = bo(2)
	checkCheck(t, last, 399, api.ErrRange)
}
