package lexer_test

import (
	"math"
	"math/big"
	"slices"
	"strings"
	"testing"

	"mummer/api"
	"mummer/data"
	"mummer/lexer"
)

func checkInteger(t *testing.T, s string, want int64, e api.Errno) {
	t.Helper()
	if n, got := lexer.Integer(s); n != want || got != e {
		t.Fatalf("Integer(%.60q): %d, %d; want %d, %d", s, n, got, want, e)
	}
}

func checkSymbol(t *testing.T, s string, want bool) {
	t.Helper()
	if got := lexer.Symbol(s); got != want {
		t.Fatalf("Symbol(%.60q): %v", s, got)
	}
}

// P5.2: a string is a symbol if it is taken apart to just that symbol, and an integer likewise; a symbol here is one of data.
func TestWordsShort(t *testing.T) {
	check := func(s string) {
		v := takenFrom(s, 0)
		whole := len(v.l) == 1 && v.l[0].Span == sp(0, len(s)) && v.e == api.OK
		symbol := whole && v.l[0].Kind == api.LxSym
		checkSymbol(t, s, symbol)
		if data.Symbol(s) != symbol {
			t.Fatalf("Symbol(%q): %v in data", s, !symbol)
		}
		switch {
		case whole && v.l[0].Kind == api.LxInt:
			checkInteger(t, s, v.l[0].N, api.OK)
		case v.e == api.ErrRange && v.at == sp(0, len(s)):
			checkInteger(t, s, 0, api.ErrRange)
		default:
			checkInteger(t, s, 0, api.ErrForm)
		}
	}
	allTexts(5, []string{"a", "0", "7", "+", "-", "é", "_", "e", "x", "."}, check)
	allTexts(3, many, check)
	for c := range 256 {
		if c != 1 {
			check(string([]byte{byte(c)}))
			check(string([]byte{'1', byte(c)}))
			check(string([]byte{byte(c), '1'}))
		}
	}
	for n := 20; n <= 30; n++ {
		for _, part := range []string{"a", "1", "0", "-", "é", "€"} {
			check(strings.Repeat(part, n))
			check("+" + strings.Repeat(part, n))
			check(strings.Repeat(part, n/2) + "a")
		}
	}
	checkSymbol(t, strings.Repeat("a", 1<<20), false)
	checkInteger(t, strings.Repeat("1", 1<<20), 0, api.ErrRange)
	checkInteger(t, strings.Repeat("a", 1<<20), 0, api.ErrForm)
	checkInteger(t, strings.Repeat("1", 1<<20)+"a", 0, api.ErrForm)
}

// P5.2: numbers about the bounds of what 64 bits hold, with signs and zeros.
func TestIntegerBounds(t *testing.T) {
	low, high := big.NewInt(math.MinInt64), big.NewInt(math.MaxInt64)
	for _, middle := range []string{"0", "2147483648", "9223372036854775807", "-9223372036854775808", "18446744073709551616", "-18446744073709551616", "92233720368547758080"} {
		m, _ := new(big.Int).SetString(middle, 10)
		for d := int64(-20); d <= 20; d++ {
			n := new(big.Int).Add(m, big.NewInt(d))
			digits := new(big.Int).Abs(n).String()
			var signs []string
			if n.Sign() <= 0 {
				signs = append(signs, "-")
			}
			if n.Sign() >= 0 {
				signs = append(signs, "+", "")
			}
			for _, sign := range signs {
				for _, zeros := range []string{"", "0", strings.Repeat("0", 30)} {
					if n.Cmp(low) < 0 || n.Cmp(high) > 0 {
						checkInteger(t, sign+zeros+digits, 0, api.ErrRange)
					} else {
						checkInteger(t, sign+zeros+digits, n.Int64(), api.OK)
					}
				}
			}
		}
	}
}

// checked is the definition of tokens.
func checked(x api.LxToken) api.Errno {
	hasN := slices.Contains([]int{api.LxOpen, api.LxClose, api.LxInt, api.LxBool}, x.Kind)
	switch {
	case x.Kind < api.LxOpen || x.Kind > api.LxSym, x.N != 0 && !hasN, x.S != "" && x.Kind != api.LxSym:
		return api.ErrArg
	case (x.Kind == api.LxOpen || x.Kind == api.LxClose) && (x.N < 1 || x.N > 2), x.Kind == api.LxBool && (x.N < 0 || x.N > 1):
		return api.ErrRange
	case x.Kind == api.LxSym && !data.Symbol(x.S):
		return api.ErrForm
	}
	return api.OK
}

// P5.2: tokens of all kinds, and of none, with all sorts of fields.
func TestCheck(t *testing.T) {
	for _, kind := range []int{math.MinInt, -1, 0, 1, 2, 3, 4, 5, 6, 7, 8, 9, 257, math.MaxInt, 1<<32 + 1} {
		for _, n := range []int64{math.MinInt64, -1, 0, 1, 2, 3, 1 << 32, 1<<32 + 1, math.MaxInt64} {
			for _, s := range []string{"", "a", "1+", "5", "-5", "(", ")", "#t", "'", " ", "a b", "é", "\xff", "\"", strings.Repeat("a", 24), strings.Repeat("a", 25), strings.Repeat("1", 25), strings.Repeat("é", 13)} {
				x := api.LxToken{Kind: kind, N: n, S: s}
				for _, at := range []api.SpSpan{sp(0, 0), sp(3, 4), sp(-5, -7), sp(math.MaxInt, math.MinInt)} {
					x.Span = at
					if got, want := lexer.Check(x), checked(x); got != want {
						t.Fatalf("Check(%v): %d; want %d", x, got, want)
					}
				}
			}
		}
	}
}

// ordinary has tokens of all kinds.
func ordinary() []api.LxToken {
	return []api.LxToken{open(1), open(2), shut(1), shut(2), quote(), skip(), in(0), in(-7), in(math.MinInt64), in(math.MaxInt64), bo(0), bo(1), sym("a"), sym("+"), sym("-"), sym("1+"), sym("+-5"), sym("é€😀"), sym("t"), sym("f"), sym(strings.Repeat("z", 24))}
}

// written is the text of tokens: of one token, and, for two, whether a blank is between them.
func written(l []api.LxToken) string {
	var s string
	for i, x := range l {
		if i > 0 && x.Kind != api.LxClose && l[i-1].Kind != api.LxOpen && l[i-1].Kind != api.LxQuote && l[i-1].Kind != api.LxSkip {
			s += " "
		}
		switch x.Kind {
		case api.LxOpen:
			s += " (["[x.N : x.N+1]
		case api.LxClose:
			s += " )]"[x.N : x.N+1]
		case api.LxQuote:
			s += "'"
		case api.LxSkip:
			s += "#;"
		case api.LxInt:
			s += big.NewInt(x.N).String()
		case api.LxBool:
			s += "#" + "ft"[x.N:x.N+1]
		case api.LxSym:
			s += x.S
		}
	}
	return s
}

func checkPrint(t *testing.T, l []api.LxToken, want string, at int, e api.Errno) {
	t.Helper()
	if s, gotAt, got := lexer.Print(l); s != want || gotAt != at || got != e {
		t.Fatalf("Print(%.200v): %.200q, %d, %d; want %.200q, %d, %d", l, s, gotAt, got, want, at, e)
	}
}

// P5.3, P5.4: the texts of all short lists of tokens, which are taken apart to these tokens again.
func TestPrint(t *testing.T) {
	all := ordinary()
	check := func(l []api.LxToken) {
		s := written(l)
		checkPrint(t, l, s, 0, api.OK)
		back, at, e := lexer.Lex([]byte(s))
		if !slices.Equal(bare(back), l) || at != sp(0, 0) || e != api.OK {
			t.Fatalf("Lex(%q): %v, %v, %d; want %v", s, back, at, e, l)
		}
		checkPrint(t, back, s, 0, api.OK)
	}
	var grow func(l []api.LxToken, left int)
	grow = func(l []api.LxToken, left int) {
		check(l)
		for _, x := range all {
			if left > 0 {
				grow(append(slices.Clone(l), x), left-1)
			}
		}
	}
	grow([]api.LxToken{}, 3)
	check(all)
	checkPrint(t, nil, "", 0, api.OK)
}

// P5.4: texts that are printed have the tokens of the texts that they were made of, and stay as they are.
func TestPrintLexed(t *testing.T) {
	allTexts(4, []string{"a", "t", "1", "-", "(", "]", "'", "#", ";", " ", "\n", "é"}, func(s string) {
		l, _, e := lexer.Lex([]byte(s))
		if e != api.OK {
			return
		}
		text, _, e := lexer.Print(l)
		back, _, backErr := lexer.Lex([]byte(text))
		again, _, againErr := lexer.Print(back)
		if e != api.OK || backErr != api.OK || againErr != api.OK || !slices.Equal(bare(back), bare(l)) || again != text {
			t.Fatalf("Print of Lex(%q): %q, with %v; again %q", s, text, back, again)
		}
	})
}

// P5.3: the first token with an error goes first, then how long the text would be.
func TestPrintErrors(t *testing.T) {
	bad := []api.LxToken{{}, {Kind: 8}, open(0), open(3), shut(-1), {Kind: api.LxQuote, N: 1}, {Kind: api.LxSkip, S: "a"}, {Kind: api.LxInt, S: "5"}, bo(2), sym(""), sym("5"), sym("a b"), {Kind: api.LxSym, S: "5", N: 1}, {Kind: api.LxOpen, N: 3, S: "x"}}
	long := slices.Repeat([]api.LxToken{sym("abc")}, 3000)
	for i, x := range bad {
		for _, before := range [][]api.LxToken{nil, {open(1)}, ordinary(), long} {
			at := len(before)
			checkPrint(t, append(slices.Clone(before), x), "", at, checked(x))
			checkPrint(t, append(slices.Clone(before), x, bad[(i+1)%len(bad)], in(1)), "", at, checked(x))
			checkPrint(t, slices.Concat(before, []api.LxToken{x}, long), "", at, checked(x))
		}
	}
	checkPrint(t, long, "", 0, api.ErrLong)
	checkPrint(t, slices.Repeat([]api.LxToken{in(math.MinInt64)}, 1000), "", 0, api.ErrLong)
}

// P5.3: how long a text may be, with what comes last of each kind, and with a blank before it or not.
func TestPrintLong(t *testing.T) {
	for size := 7990; size <= 8010; size++ {
		for _, last := range ordinary() {
			for _, before := range []api.LxToken{open(1), shut(1), quote(), sym("a")} {
				end := []api.LxToken{open(2), before, last}
				brackets := size - len(written(end))
				l := append(slices.Repeat([]api.LxToken{open(2)}, brackets), end...)
				if size <= 8000 {
					checkPrint(t, l, strings.Repeat("[", brackets)+written(end), 0, api.OK)
				} else {
					checkPrint(t, l, "", 0, api.ErrLong)
				}
			}
		}
	}
	ones := slices.Repeat([]api.LxToken{in(1)}, 4001)
	checkPrint(t, ones, "", 0, api.ErrLong)
	checkPrint(t, ones[1:], written(ones[1:]), 0, api.OK)
	checkPrint(t, append(slices.Clone(ones[1:]), shut(1)), written(ones[1:])+")", 0, api.OK)
	checkPrint(t, append(slices.Clone(ones[1:]), shut(1), shut(1)), "", 0, api.ErrLong)
}

// The example of Print in the chapter.
func TestPrintExample(t *testing.T) {
	l, _, e := lexer.Lex([]byte("( a '( b ) -0 )"))
	if e != api.OK {
		t.Fatalf("Lex: %d", e)
	}
	checkPrint(t, l, "(a '(b) 0)", 0, api.OK)
}
