package lexer_test

import (
	"bytes"
	"math"
	"math/big"
	"regexp"
	"slices"
	"strings"
	"testing"
	"unicode/utf8"

	"mummer/api"
	"mummer/lexer"
	"mummer/runes"
	"mummer/spans"
)

func sp(from, to int) api.SpSpan { return api.SpSpan{From: from, To: to} }

func open(n int64) api.LxToken { return api.LxToken{Kind: api.LxOpen, N: n} }
func shut(n int64) api.LxToken { return api.LxToken{Kind: api.LxClose, N: n} }
func quote() api.LxToken       { return api.LxToken{Kind: api.LxQuote} }
func skip() api.LxToken        { return api.LxToken{Kind: api.LxSkip} }
func in(n int64) api.LxToken   { return api.LxToken{Kind: api.LxInt, N: n} }
func bo(n int64) api.LxToken   { return api.LxToken{Kind: api.LxBool, N: n} }
func sym(s string) api.LxToken { return api.LxToken{Kind: api.LxSym, S: s} }
func on(s api.SpSpan, t api.LxToken) api.LxToken {
	t.Span = s
	return t
}

// bare returns the tokens without their spans.
func bare(l []api.LxToken) []api.LxToken {
	out := slices.Clone(l)
	for i := range out {
		out[i].Span = api.SpSpan{}
	}
	return out
}

// moved returns the tokens with spans that are n bytes further on.
func moved(l []api.LxToken, n int) []api.LxToken {
	out := slices.Clone(l)
	for i := range out {
		out[i].Span.From += n
		out[i].Span.To += n
	}
	return out
}

// A taken is what a text has been taken apart to: its tokens; or the first fault.
type taken struct {
	l  []api.LxToken
	at api.SpSpan
	e  api.Errno
}

const ofWord = `[0-9+\-a-zA-Z!$%&*/:<=>?^_~.@\x{a1}-\x{10ffff}]`

// noRune stands for a byte at which no rune begins; the texts of the tests have no rune 1 but here.
const noRune = "\x01"

var (
	pieces  = regexp.MustCompile(`^(?:([\t\n\r ]|;[^\n\x01]*)|([()\[\]'])|(#;|#` + ofWord + `*)|(` + ofWord + `+)|(?s:.))`)
	integer = regexp.MustCompile(`^[+-]?[0-9]+$`)
)

// cleaned returns s with noRune in place of bytes at which no rune begins.
func cleaned(s string) string {
	var b strings.Builder
	for i := 0; i < len(s); {
		r, width := utf8.DecodeRuneInString(s[i:])
		if r == utf8.RuneError && width == 1 {
			b.WriteString(noRune)
		} else {
			b.WriteString(s[i : i+width])
		}
		i += width
	}
	return b.String()
}

// wordOf is the definitions of words, integers and symbols.
func wordOf(s string) (api.LxToken, api.Errno) {
	if integer.MatchString(s) {
		n, _ := new(big.Int).SetString(strings.TrimPrefix(s, "+"), 10)
		if !n.IsInt64() {
			return api.LxToken{}, api.ErrRange
		}
		return in(n.Int64()), api.OK
	}
	if len(s) > 24 {
		return api.LxToken{}, api.ErrLong
	}
	return sym(s), api.OK
}

// takenFrom takes s apart from the index from on, by what its pieces look like.
func takenFrom(s string, from int) taken {
	marks := map[string]api.LxToken{"(": open(1), "[": open(2), ")": shut(1), "]": shut(2), "'": quote(), "#;": skip(), "#t": bo(1), "#f": bo(0)}
	rest := cleaned(s[from:])
	var v taken
	for rest != "" {
		m := pieces.FindStringSubmatch(rest)
		at := sp(len(s)-len(rest), len(s)-len(rest)+len(m[0]))
		rest = rest[len(m[0]):]
		if m[1] != "" {
			continue
		}
		t, e := marks[m[0]], api.OK
		if t.Kind == 0 {
			e = api.ErrForm
		}
		if m[4] != "" {
			t, e = wordOf(m[4])
		}
		if e != api.OK {
			return taken{v.l, at, e}
		}
		v.l = append(v.l, on(at, t))
	}
	return v
}

func checkLex(t *testing.T, s string, l []api.LxToken, at api.SpSpan, e api.Errno) {
	t.Helper()
	got, gotAt, gotErr := lexer.Lex([]byte(s))
	if !slices.Equal(got, l) || gotAt != at || gotErr != e {
		t.Fatalf("Lex(%.60q): %.300v, %v, %d; want %.300v, %v, %d", s, got, gotAt, gotErr, l, at, e)
	}
}

func checkNext(t *testing.T, s string, from int, want api.LxToken, at api.SpSpan, e api.Errno) {
	t.Helper()
	got, gotAt, gotErr := lexer.Next([]byte(s), from)
	if got != want || gotAt != at || gotErr != e {
		t.Fatalf("Next(%.60q, %d): %v, %v, %d; want %v, %v, %d", s, from, got, gotAt, gotErr, want, at, e)
	}
}

func checkGaps(t *testing.T, s string, want []api.SpSpan, e api.Errno) {
	t.Helper()
	got, gotErr := lexer.Gaps([]byte(s))
	if !slices.Equal(got, want) || gotErr != e {
		t.Fatalf("Gaps(%.60q): %.300v, %d; want %.300v, %d", s, got, gotErr, want, e)
	}
}

// between returns the gaps of a text of n bytes with these tokens.
func between(l []api.LxToken, n int) []api.SpSpan {
	gaps := make([]api.SpSpan, len(l)+1)
	gaps[len(l)].To = n
	for i, t := range l {
		gaps[i].To, gaps[i+1].From = t.Span.From, t.Span.To
	}
	return gaps
}

// checkText holds Lex, Gaps and Next, from each index on, against the definitions.
func checkText(t *testing.T, s string) {
	t.Helper()
	v := takenFrom(s, 0)
	if v.e != api.OK {
		checkLex(t, s, nil, v.at, v.e)
		checkGaps(t, s, nil, v.e)
	} else {
		checkLex(t, s, v.l, sp(0, 0), api.OK)
		checkGaps(t, s, between(v.l, len(s)), api.OK)
	}
	for from := range len(s) + 1 {
		v := takenFrom(s, from)
		switch {
		case len(v.l) > 0:
			checkNext(t, s, from, v.l[0], sp(0, 0), api.OK)
		case v.e != api.OK:
			checkNext(t, s, from, api.LxToken{}, v.at, v.e)
		default:
			checkNext(t, s, from, api.LxToken{}, sp(0, 0), api.ErrNone)
		}
	}
}

// allTexts calls f with all texts of at most n of the parts.
func allTexts(n int, parts []string, f func(string)) {
	var grow func(s string, left int)
	grow = func(s string, left int) {
		f(s)
		for _, p := range parts {
			if left > 0 {
				grow(s+p, left-1)
			}
		}
	}
	grow("", n)
}

// few has a part for each way in which a text goes on, many has others beside them.
var (
	few  = []string{"a", "t", "1", "-", "(", "'", "#", ";", " ", "\n", "é", "\xff"}
	many = append([]string{"f", "T", "0", "+", "[", ")", "]", "\t", "\r", "\"", "{", "\x00", "\x7f", "\u00a0", "\u00a1", "€", "\ufffd", "\u2028", "😀", "\x80", "\xc3", "\xe2\x82", "\xed\xa0\x80", "9223372036854775808", "/ab/cd/ef/gh/ij/kl/mn/op"}, few...)
)

// P5.1: all short texts, from each index on.
func TestShortTexts(t *testing.T) {
	allTexts(4, few, func(s string) { checkText(t, s) })
	allTexts(3, many, func(s string) { checkText(t, s) })
}

// P5.1, P5.7: what comes first may be any rune, or any byte that begins none.
func TestFirstBytes(t *testing.T) {
	for r := rune(0); r < 70000; r++ {
		if !utf8.ValidRune(r) || r == 1 {
			continue
		}
		for _, s := range []string{string(r), "#" + string(r), "a" + string(r) + "1", "1;" + string(r) + "-\n2"} {
			v := takenFrom(s, 0)
			if v.e != api.OK {
				v.l = nil
			}
			checkLex(t, s, v.l, v.at, v.e)
		}
	}
	checkLex(t, "\x01", nil, sp(0, 1), api.ErrForm)
	checkLex(t, ";\x01\n", nil, sp(0, 0), api.OK)
	checkLex(t, "\U0010ffff", []api.LxToken{on(sp(0, 4), sym("\U0010ffff"))}, sp(0, 0), api.OK)
}

// P5.1, P5.5, P5.7: of any two bytes, and of any byte within other ones, there are tokens or one fault, which lie within the text.
func TestAnyBytes(t *testing.T) {
	for a := range 256 {
		for b := range 256 {
			checkTotal(t, string([]byte{byte(a), byte(b)}))
		}
		for _, x := range [][2]string{{"a", "b"}, {"(", ")"}, {";", "\n"}, {"#", ""}, {"\xe2", "\xac"}, {"\xf0\x9f", "\x80"}, {"", "\xa9"}} {
			checkTotal(t, x[0]+string([]byte{byte(a)})+x[1])
		}
	}
}

// checkTotal checks that s has tokens that make it up with its gaps, or one fault.
func checkTotal(t *testing.T, s string) {
	t.Helper()
	b := []byte(s)
	l, at, e := lexer.Lex(b)
	gaps, gapsErr := lexer.Gaps(b)
	if gapsErr != e || string(b) != s {
		t.Fatalf("Gaps(%q): %d; Lex: %d", s, gapsErr, e)
	}
	if e != api.OK {
		if len(l) > 0 || len(gaps) > 0 || at.From >= at.To || spans.Check(len(s), at) != api.OK {
			t.Fatalf("Lex(%q): %v, %v, %d; Gaps: %v", s, l, at, e, gaps)
		}
		return
	}
	if _, e := runes.Check(b); e != api.OK || at != sp(0, 0) || len(gaps) != len(l)+1 {
		t.Fatalf("Lex(%q): %v, %v; Gaps: %v", s, l, at, gaps)
	}
	end := 0
	for i, x := range l {
		checkPart(t, b, gaps[i], end, nil)
		checkPart(t, b, x.Span, gaps[i].To, []api.LxToken{x})
		end = x.Span.To
	}
	checkPart(t, b, gaps[len(l)], end, nil)
	if gaps[len(l)].To != len(s) {
		t.Fatalf("Gaps(%q): %v", s, gaps)
	}
}

// checkPart checks that the span s of b begins at the index from, lies on starts, and is taken apart to just these tokens.
func checkPart(t *testing.T, b []byte, s api.SpSpan, from int, want []api.LxToken) {
	t.Helper()
	part, e := spans.Cut(b, s)
	if e != api.OK || s.From != from || part == "" && len(want) > 0 {
		t.Fatalf("%q has the part %v after %d: %d", b, s, from, e)
	}
	if l, _, e := lexer.Lex([]byte(part)); !slices.Equal(moved(l, s.From), want) || e != api.OK {
		t.Fatalf("Lex(%q), a part of %q: %v, %d; want %v", part, b, l, e, want)
	}
}

// P5.5: the tokens and the gaps of all short texts are together these texts.
func TestParts(t *testing.T) {
	allTexts(4, few, func(s string) { checkTotal(t, s) })
	allTexts(2, many, func(s string) { checkTotal(t, s) })
	for _, s := range []string{"(define (f x) ; all\n  '[a -12 #t #;skipped \"]) ;", "\r\n\t", "#;#;#t#f'é€ 😀;\n", strings.Repeat("(a) ", 2000)} {
		checkTotal(t, s)
	}
}

// P5.6: a text after another one, with a byte 10 between them, has the tokens of both, or the first fault of both.
func TestOneAfterAnother(t *testing.T) {
	var all []string
	allTexts(2, []string{"a", "-", "1", "(", "]", "'", "#", "#t", ";", " ", "\r", "\n", "é", "\"", "\xff"}, func(s string) { all = append(all, s) })
	for _, first := range all {
		l, at, e := lexer.Lex([]byte(first))
		for _, second := range all {
			want, wantAt, wantErr := l, at, e
			if e == api.OK {
				further := len(first) + 1
				m, mAt, mErr := lexer.Lex([]byte(second))
				want, wantErr = append(slices.Clone(l), moved(m, further)...), mErr
				if mErr != api.OK {
					want, wantAt = nil, sp(mAt.From+further, mAt.To+further)
				}
			}
			checkLex(t, first+"\n"+second, want, wantAt, wantErr)
		}
	}
}

// P5.6: more spaces and comments in a gap change nothing but spans.
func TestMoreSpace(t *testing.T) {
	check := func(s string) {
		b := []byte(s)
		l, _, _ := lexer.Lex(b)
		gaps, _ := lexer.Gaps(b)
		for _, gap := range gaps {
			for _, end := range []int{gap.From, gap.To} {
				for _, more := range []string{" ", "\t\r", "\n\n", ";\n", " ;(a \"'#x\n", ";é;\n\n;\n "} {
					longer := s[:end] + more + s[end:]
					if got, _, e := lexer.Lex([]byte(longer)); !slices.Equal(bare(got), bare(l)) || e != api.OK {
						t.Fatalf("Lex(%q): %v, %d; without %q in it %v", longer, got, e, more, l)
					}
				}
			}
		}
	}
	allTexts(4, []string{"a", "-1", "(", "]", "'", "#t", "#;", ";b", " ", "\n"}, check)
	check("(define x '[a -12]) ; all")
}

// P5.1: words up to the greatest length of symbols and beyond, also of runes of several bytes, and after #.
func TestLongWords(t *testing.T) {
	for n := 20; n <= 30; n++ {
		for _, end := range []string{"", "a", "-", "1", "é", "€", "😀"} {
			for _, c := range []string{"a", "1", "0", "-", "é"} {
				word := strings.Repeat(c, n) + end
				for _, s := range []string{word, " " + word + ")", "+" + word, "#" + word, "#t" + word, word + "#t", ";" + word} {
					checkText(t, s)
				}
			}
		}
	}
	for _, x := range []struct {
		s string
		n int
		e api.Errno
	}{
		{strings.Repeat("a", 24), 24, api.OK}, {strings.Repeat("a", 25), 25, api.ErrLong}, {strings.Repeat("é", 12), 24, api.OK}, {strings.Repeat("é", 12) + "1", 25, api.ErrLong},
		{strings.Repeat("1", 24) + "a", 25, api.ErrLong}, {"+" + strings.Repeat("1", 23) + "-", 25, api.ErrLong}, {strings.Repeat("-", 24), 24, api.OK}, {strings.Repeat("1", 25), 25, api.ErrRange},
	} {
		if x.e == api.OK {
			checkLex(t, x.s, []api.LxToken{on(sp(0, x.n), sym(x.s))}, sp(0, 0), api.OK)
		} else {
			checkLex(t, x.s, nil, sp(0, x.n), x.e)
		}
	}
	zeros := strings.Repeat("0", 7999)
	checkLex(t, zeros+"7", []api.LxToken{on(sp(0, 8000), in(7))}, sp(0, 0), api.OK)
	checkLex(t, "-"+zeros, []api.LxToken{on(sp(0, 8000), in(0))}, sp(0, 0), api.OK)
	checkLex(t, "1"+zeros, nil, sp(0, 8000), api.ErrRange)
	checkLex(t, "a"+zeros, nil, sp(0, 8000), api.ErrLong)
	checkLex(t, "#"+zeros, nil, sp(0, 8000), api.ErrForm)
}

// P5.1: a text of 8000 bytes is taken apart, one of more bytes is too long, whatever is in it, and whatever else is wrong.
func TestLongTexts(t *testing.T) {
	checkLex(t, strings.Repeat(" ", 7999)+"a", []api.LxToken{on(sp(7999, 8000), sym("a"))}, sp(0, 0), api.OK)
	checkLex(t, strings.Repeat(" ", 7999)+"\"", nil, sp(7999, 8000), api.ErrForm)
	checkLex(t, strings.Repeat(" ", 7998)+"é", []api.LxToken{on(sp(7998, 8000), sym("é"))}, sp(0, 0), api.OK)
	checkLex(t, strings.Repeat(" ", 7999)+"é", nil, sp(0, 0), api.ErrLong)
	checkGaps(t, strings.Repeat(" ", 8000), []api.SpSpan{sp(0, 8000)}, api.OK)
	checkGaps(t, strings.Repeat(" ", 8001), nil, api.ErrLong)
	if l, at, e := lexer.Lex(bytes.Repeat([]byte("("), 8000)); len(l) != 8000 || l[7999] != on(sp(7999, 8000), open(1)) || at != sp(0, 0) || e != api.OK {
		t.Fatalf("Lex of 8000 brackets: %d, %v, %d", len(l), at, e)
	}
	checkNext(t, strings.Repeat(" ", 7999)+"a", 3, on(sp(7999, 8000), sym("a")), sp(0, 0), api.OK)
	checkNext(t, strings.Repeat("a", 8000), 7990, on(sp(7990, 8000), sym(strings.Repeat("a", 10))), sp(0, 0), api.OK)
	for _, s := range []string{"\"" + strings.Repeat(" ", 8000), "a" + strings.Repeat("\xff", 8000), strings.Repeat(";", 8001), strings.Repeat("1", 20000)} {
		checkLex(t, s, nil, sp(0, 0), api.ErrLong)
		checkGaps(t, s, nil, api.ErrLong)
		for _, from := range []int{0, 1, 8000, len(s), len(s) + 1, -1, math.MaxInt, math.MinInt} {
			checkNext(t, s, from, api.LxToken{}, sp(0, 0), api.ErrLong)
		}
	}
}

// P5.1: from must be an index of the text, or the number of its bytes.
func TestNextRange(t *testing.T) {
	for _, s := range []string{"", "a", "a b", "\xff", " ;", "\""} {
		for _, from := range []int{-1, len(s) + 1, -len(s) - 1, math.MaxInt, math.MinInt, math.MaxInt32 + 1} {
			checkNext(t, s, from, api.LxToken{}, sp(0, 0), api.ErrRange)
		}
		checkNext(t, s, len(s), api.LxToken{}, sp(0, 0), api.ErrNone)
	}
	// A token that comes first hides the faults after it, but for Lex.
	checkNext(t, "a \"", 0, on(sp(0, 1), sym("a")), sp(0, 0), api.OK)
	checkNext(t, "a \"", 1, api.LxToken{}, sp(2, 3), api.ErrForm)
	checkNext(t, ";a\xff b", 0, api.LxToken{}, sp(2, 3), api.ErrForm)
	checkNext(t, ";a\xff b", 1, on(sp(1, 2), sym("a")), sp(0, 0), api.OK)
	checkNext(t, ";a\xff b", 3, on(sp(4, 5), sym("b")), sp(0, 0), api.OK)
	checkNext(t, "€", 1, api.LxToken{}, sp(1, 2), api.ErrForm)
	checkLex(t, "a \"", nil, sp(2, 3), api.ErrForm)
	if l, at, e := lexer.Lex(nil); len(l) > 0 || at != sp(0, 0) || e != api.OK {
		t.Fatalf("Lex of nil: %v, %v, %d", l, at, e)
	}
	if x, at, e := lexer.Next(nil, 0); x != (api.LxToken{}) || at != sp(0, 0) || e != api.ErrNone {
		t.Fatalf("Next of nil: %v, %v, %d", x, at, e)
	}
	if l, e := lexer.Gaps(nil); !slices.Equal(l, []api.SpSpan{sp(0, 0)}) || e != api.OK {
		t.Fatalf("Gaps of nil: %v, %d", l, e)
	}
}

// The examples of the chapter, but for Print.
func TestLexExamples(t *testing.T) {
	for s, want := range map[string][]api.LxToken{
		"(define x '[a -12]) ; all": {open(1), sym("define"), sym("x"), quote(), open(2), sym("a"), in(-12), shut(2), shut(1)},
		"#t#f #;1+ 007 +-5":         {bo(1), bo(0), skip(), sym("1+"), in(7), sym("+-5")},
	} {
		if l, at, e := lexer.Lex([]byte(s)); !slices.Equal(bare(l), want) || at != sp(0, 0) || e != api.OK {
			t.Fatalf("Lex(%q): %v, %v, %d", s, l, at, e)
		}
	}
	checkGaps(t, "a ;b", []api.SpSpan{sp(0, 0), sp(1, 4)}, api.OK)
	checkLex(t, "#true", nil, sp(0, 5), api.ErrForm)
	checkLex(t, "a\"", nil, sp(1, 2), api.ErrForm)
	checkLex(t, "9223372036854775808", nil, sp(0, 19), api.ErrRange)
	checkLex(t, string([]byte{97, 255}), nil, sp(1, 2), api.ErrForm)
}

// P5.7, R3: arguments stay as they are, and what is done to one result, or to an argument, is not seen in another result.
func TestFreshMemory(t *testing.T) {
	const s = "(ab 'cd) ;é"
	b := []byte(s)
	want, _, _ := lexer.Lex([]byte(s))
	kept, _, _ := lexer.Lex(b)
	one, _, _ := lexer.Next(b, 1)
	for range 2 {
		l, _, _ := lexer.Lex(b)
		gaps, _ := lexer.Gaps(b)
		text, _, _ := lexer.Print(kept)
		if !slices.Equal(l, want) || !slices.Equal(gaps, between(want, len(s))) || text != "(ab 'cd)" {
			t.Fatalf("results have changed: %v, %v, %q", l, gaps, text)
		}
		clear(l)
		clear(gaps)
		if string(b) != s || !slices.Equal(kept, want) {
			t.Fatalf("arguments have changed: %q, %v", b, kept)
		}
	}
	clear(b)
	if !slices.Equal(kept, want) || one != want[1] {
		t.Fatalf("tokens have changed with the text: %v, %v", kept, one)
	}
}
