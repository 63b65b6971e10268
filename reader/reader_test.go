package reader_test

import (
	"fmt"
	"math"
	"slices"
	"strings"
	"testing"

	"mummer/api"
	"mummer/data"
	"mummer/lexer"
	"mummer/reader"
)

func sp(from, to int) api.SpSpan { return api.SpSpan{From: from, To: to} }

// tokensOf returns the tokens of a text that the lexer takes apart.
func tokensOf(t *testing.T, s string) []api.LxToken {
	t.Helper()
	l, at, e := lexer.Lex([]byte(s))
	if e != api.OK {
		t.Fatalf("Lex(%.60q): %v, %d", s, at, e)
	}
	return l
}

// tokens returns those of parts, of which each is a token; all spans are others, and lie in no order.
func tokens(parts string) []api.LxToken {
	var l []api.LxToken
	for i, part := range strings.Fields(parts) {
		t, _, _ := lexer.Next([]byte(part), 0)
		t.Span = sp(100-7*i, 3*i-50)
		l = append(l, t)
	}
	return l
}

// allTexts calls f with all texts of at most n of the parts.
func allTexts(n int, parts []string, f func(string)) {
	var grow func(s string, left int)
	grow = func(s string, left int) {
		f(s)
		for _, p := range parts {
			if left > 0 {
				grow(s+p, left-1)
			}
		}
	}
	grow("", n)
}

func gather(l []api.LxToken) (v read) {
	v.l, v.at, v.e = reader.Gather(l)
	return v
}

func readText(s string) (v read) {
	v.l, v.at, v.e = reader.Read([]byte(s))
	return v
}

// checkGather holds Gather against the definition.
func checkGather(t *testing.T, l []api.LxToken) {
	t.Helper()
	if got, want := gather(l), gathered(l); !sameRead(got, want) {
		t.Fatalf("Gather(%.300v): %.600v; want %.600v", l, got, want)
	}
}

// checkText holds Read and One against the definition.
func checkText(t *testing.T, s string) read {
	t.Helper()
	l, at, e := lexer.Lex([]byte(s))
	want := read{at: at, e: e}
	if e == api.OK {
		want = gathered(l)
	}
	if got := readText(s); !sameRead(got, want) {
		t.Fatalf("Read(%.80q): %.600v; want %.600v", s, got, want)
	}
	var d api.RdDatum
	one := want
	switch {
	case want.e != api.OK:
	case len(want.l) == 0:
		one.e = api.ErrNone
	case len(want.l) == 1:
		d = want.l[0]
	default:
		one.at, one.e = want.l[1].Spans[0], api.ErrTwice
	}
	if got, at, e := reader.One([]byte(s)); !sameDatum(got, d) || at != one.at || e != one.e {
		t.Fatalf("One(%.80q): %.300v, %v, %d; want %.300v, %v, %d", s, got, at, e, d, one.at, one.e)
	}
	return want
}

// P6.1: all short lists of tokens, with any spans.
func TestShortGather(t *testing.T) {
	all := func(n int, parts string) {
		l := tokens(parts)
		var kinds []string
		for i := range l {
			kinds = append(kinds, string(rune('a'+i)))
		}
		allTexts(n, kinds, func(s string) {
			list := make([]api.LxToken, len(s))
			for i := range s {
				list[i] = l[s[i]-'a']
				list[i].Span = sp(100-7*i, 3*i-50)
			}
			checkGather(t, list)
		})
	}
	all(8, "a ( ) ' #;")
	all(6, "1 ( ) [ ] ' #;")
	all(4, "-7 0 #t #f quote ( ) [ ] ' #;")
	checkGather(t, nil)
}

// P6.1: all short texts.
func TestShortTexts(t *testing.T) {
	allTexts(5, []string{"a", "(", ")", "]", "'", "#;", " ", "-7", "#t", ";x\n"}, func(s string) { checkText(t, s) })
	allTexts(3, []string{"quote", "é", "007", "(", ")", "[", "]", "'", "#;", " ", "#f", "#", ";", "\n", "\"", "\xff", "{", "9223372036854775808", "/ab/cd/ef/gh/ij/kl/mn/op"}, func(s string) { checkText(t, s) })
}

// shown writes the data, with their spans.
func shown(l []api.RdDatum) string {
	var s []string
	for _, d := range l {
		for i, n := range d.Tree {
			s = append(s, fmt.Sprintf("%d/%d/%d/%s@%d-%d", n.Kind, n.Kids, n.N, n.S, d.Spans[i].From, d.Spans[i].To))
		}
		s = append(s, "|")
	}
	return strings.Join(s, " ")
}

// P6.1: data of all kinds, what is left out, and comments, against results that are written out.
func TestReadWrittenOut(t *testing.T) {
	for s, want := range map[string]string{
		"":                 "",
		" ;(\n":            "",
		"+5 -0 #t#f λ":     "1/0/5/@0-2 | 1/0/0/@3-5 | 2/0/1/@6-8 | 2/0/0/@8-10 | 3/0/0/λ@11-13 |",
		"()[ ]":            "4/0/0/@0-2 | 4/0/0/@2-5 |",
		"''a":              "4/2/0/@0-3 3/0/0/quote@0-1 4/2/0/@1-3 3/0/0/quote@1-2 3/0/0/a@2-3 |",
		"' ;b\n [a]":       "4/2/0/@0-9 3/0/0/quote@0-1 4/1/0/@6-9 3/0/0/a@7-8 |",
		"'#;(x)b c":        "4/2/0/@0-7 3/0/0/quote@0-1 3/0/0/b@6-7 | 3/0/0/c@8-9 |",
		"'#;#;x y b":       "4/2/0/@0-10 3/0/0/quote@0-1 3/0/0/b@9-10 |",
		"(a #;b)":          "4/1/0/@0-7 3/0/0/a@1-2 |",
		"(#;b)":            "4/0/0/@0-5 |",
		"(#;'b a)":         "4/1/0/@0-8 3/0/0/a@6-7 |",
		"#;a":              "",
		"#;#;a b":          "",
		"a #;(b [c] 'd)":   "3/0/0/a@0-1 |",
		"#;(a #;(b) c) d":  "3/0/0/d@14-15 |",
		"(a #;(b) '(c) d)": "4/3/0/@0-16 3/0/0/a@1-2 4/2/0/@9-13 3/0/0/quote@9-10 4/1/0/@10-13 3/0/0/c@11-12 3/0/0/d@14-15 |",
	} {
		if v := readText(s); shown(v.l) != want || v.at != sp(0, 0) || v.e != api.OK {
			t.Errorf("Read(%q): %s, %v, %d; want %s", s, shown(v.l), v.at, v.e, want)
		}
		checkText(t, s)
	}
}

// P6.1: faults, against results that are written out.
func TestFaultsWrittenOut(t *testing.T) {
	for s, want := range map[string]read{
		"a)":                          {at: sp(1, 2), e: api.RdErrClose},
		"(a)]":                        {at: sp(3, 4), e: api.RdErrClose},
		"#;a)":                        {at: sp(3, 4), e: api.RdErrClose},
		"[a)":                         {at: sp(2, 3), e: api.RdErrMatch},
		"([a)]":                       {at: sp(3, 4), e: api.RdErrMatch},
		"#;(]":                        {at: sp(3, 4), e: api.RdErrMatch},
		"')":                          {at: sp(0, 1), e: api.RdErrAfter},
		"(#;]":                        {at: sp(1, 3), e: api.RdErrAfter},
		"(a '#;b)":                    {at: sp(3, 4), e: api.RdErrAfter},
		"(a '#;b":                     {at: sp(3, 4), e: api.RdErrAfter},
		"'#;":                         {at: sp(1, 3), e: api.RdErrAfter},
		"#;'":                         {at: sp(2, 3), e: api.RdErrAfter},
		"(a) #;#;b":                   {at: sp(4, 6), e: api.RdErrAfter},
		"(a (b) c":                    {at: sp(0, 1), e: api.RdErrOpen},
		"(a (b c":                     {at: sp(3, 4), e: api.RdErrOpen},
		"'(a":                         {at: sp(1, 2), e: api.RdErrOpen},
		"'#;(a":                       {at: sp(3, 4), e: api.RdErrOpen},
		"(a #;b":                      {at: sp(0, 1), e: api.RdErrOpen},
		")(":                          {at: sp(0, 1), e: api.RdErrClose},
		"((])":                        {at: sp(2, 3), e: api.RdErrMatch},
		") #x":                        {at: sp(2, 4), e: api.ErrForm},
		"(]) \xff":                    {at: sp(4, 5), e: api.ErrForm},
		"( 1234567890":                {at: sp(0, 1), e: api.RdErrOpen},
		"( 12345678901234567890":      {at: sp(2, 22), e: api.ErrRange},
		"' abcdefghijklmnopqrstuvwxy": {at: sp(2, 27), e: api.ErrLong},
	} {
		if got := readText(s); !sameRead(got, want) {
			t.Errorf("Read(%q): %v; want %v", s, got, want)
		}
		checkText(t, s)
	}
}

// P6.1: One with no data, with one, and with several.
func TestOneWrittenOut(t *testing.T) {
	for s, want := range map[string]read{
		" ":           {e: api.ErrNone},
		";a":          {e: api.ErrNone},
		"#;a":         {e: api.ErrNone},
		"a b":         {at: sp(2, 3), e: api.ErrTwice},
		"a 'b c":      {at: sp(2, 4), e: api.ErrTwice},
		"#;a b #;c d": {at: sp(10, 11), e: api.ErrTwice},
		"a b)":        {at: sp(3, 4), e: api.RdErrClose},
		"a b \"":      {at: sp(4, 5), e: api.ErrForm},
		"a '":         {at: sp(2, 3), e: api.RdErrAfter},
	} {
		if d, at, e := reader.One([]byte(s)); len(d.Tree) > 0 || len(d.Spans) > 0 || at != want.at || e != want.e {
			t.Errorf("One(%q): %v, %v, %d; want %v", s, d, at, e, want)
		}
	}
	if d, at, e := reader.One([]byte(" #;x '7 ;y")); shown([]api.RdDatum{d}) != "4/2/0/@5-7 3/0/0/quote@5-6 1/0/7/@6-7 |" || at != sp(0, 0) || e != api.OK {
		t.Errorf("One: %v, %v, %d", d, at, e)
	}
}

// P6.1: too many tokens go first, then tokens that are none, then faults.
func TestGatherErrors(t *testing.T) {
	bad := []api.LxToken{{}, {Kind: 8}, {Kind: -1}, {Kind: math.MaxInt}, {Kind: api.LxOpen, N: 3}, {Kind: api.LxClose}, {Kind: api.LxQuote, N: 1}, {Kind: api.LxSkip, S: "a"}, {Kind: api.LxInt, S: "5"}, {Kind: api.LxBool, N: 2}, {Kind: api.LxSym}, {Kind: api.LxSym, S: "5"}, {Kind: api.LxSym, S: "a b"}}
	for i, x := range bad {
		x.Span = sp(9, -9)
		want := read{at: x.Span, e: lexer.Check(x)}
		for _, before := range []string{"", "(", ")", "( ]", "a '", strings.Repeat("1 ", 201), strings.Repeat("( ", 40)} {
			l := append(tokens(before), x)
			if got := gather(l); !sameRead(got, want) {
				t.Fatalf("Gather(%.200v): %v; want %v", l, got, want)
			}
			l = append(l, bad[(i+1)%len(bad)], tokens(")")[0])
			if got := gather(l); !sameRead(got, want) {
				t.Fatalf("Gather(%.200v): %v; want %v", l, got, want)
			}
		}
	}
	many := slices.Repeat(tokens("#; a"), 4000)
	if got := gather(many); !sameRead(got, read{}) {
		t.Fatalf("Gather of 8000 tokens: %v", got)
	}
	for _, x := range append(bad, tokens("a ) ( '")...) {
		for _, l := range [][]api.LxToken{append(slices.Clone(many), x), append([]api.LxToken{x}, many...), slices.Repeat([]api.LxToken{x}, 9000)} {
			if got := gather(l); !sameRead(got, read{e: api.ErrLong}) {
				t.Fatalf("Gather of %d tokens: %v", len(l), got)
			}
		}
	}
	for _, s := range []string{strings.Repeat(" ", 8001), "\xff" + strings.Repeat(")", 8000)} {
		checkText(t, s)
		if got := readText(s); !sameRead(got, read{e: api.ErrLong}) {
			t.Fatalf("Read of %d bytes: %v", len(s), got)
		}
	}
	checkText(t, strings.Repeat(" ", 7999)+"a")
	checkText(t, strings.Repeat("(", 4000)+strings.Repeat(")", 4000))
}

// P6.1: nestings of brackets, quotes and what is left out about the greatest one.
func TestNesting(t *testing.T) {
	for n := 9; n <= 36; n++ { // a part has up to three tokens that wait
		for _, part := range []string{"(", "'", "#;", "('", "(#;", "'#;", "['(", "(#;a", "'#;a", "((b)", "#;'(", "#;a ", "(#;'a "} {
			for _, end := range []string{"", "a", "()", "(a)", "'", "'a", "#;", "#;a", "#;a b", ")", "]"} {
				for _, closing := range []string{"", strings.Repeat(")", n), strings.Repeat("])", n), " a" + strings.Repeat(")", n-1)} {
					checkText(t, strings.Repeat(part, n)+end+closing)
				}
			}
		}
	}
	for s, want := range map[string]read{
		strings.Repeat("(", 33) + "a":                                {at: sp(33, 34), e: api.ErrLong},
		strings.Repeat("(", 33) + "]":                                {at: sp(33, 34), e: api.RdErrMatch},
		strings.Repeat("'", 33) + ")":                                {at: sp(32, 33), e: api.RdErrAfter},
		strings.Repeat("'", 33) + "a":                                {at: sp(33, 34), e: api.ErrLong},
		strings.Repeat("#;", 33) + "a":                               {at: sp(66, 67), e: api.ErrLong},
		strings.Repeat("(", 33) + "#;":                               {at: sp(33, 35), e: api.ErrLong},
		"#;" + strings.Repeat("(", 32) + "a":                         {at: sp(34, 35), e: api.ErrLong},
		strings.Repeat("(", 33):                                      {at: sp(32, 33), e: api.RdErrOpen},
		strings.Repeat("#;a ", 40) + strings.Repeat("(a)", 40) + ")": {at: sp(280, 281), e: api.RdErrClose},
	} {
		if got := readText(s); !sameRead(got, want) {
			t.Errorf("Read(%q): %v; want %v", s, got, want)
		}
	}
}

// P6.1: how many nodes a datum has, also one that is left out, and what is left out of one.
func TestNodes(t *testing.T) {
	for n := 392; n <= 402; n++ {
		ones := strings.Repeat("1 ", n)
		for _, before := range []string{"", "(", "#;(", "'(", "'#;(", "((", "(#;(", "(a #;("} {
			for _, end := range []string{"", "'a", "''a", "()", "(a b)", "#;a", "#;(a b)", "#;'a", "'#;a b", "'#;(1 2 3)", "#;#;a b", "'", "#;"} {
				for _, closing := range []string{"", ")", "))", ")b)", ") 'c", ")(c d))"} {
					checkText(t, before+ones+end+closing)
				}
			}
		}
	}
	ones := func(n int) string { return strings.Repeat("1 ", n) }
	for s, want := range map[string]read{
		"(" + ones(400) + ")":                  {at: sp(799, 800), e: api.ErrLong},
		"#;(" + ones(400) + ")":                {at: sp(801, 802), e: api.ErrLong},
		"(" + ones(398) + "'a)":                {at: sp(797, 798), e: api.ErrLong},
		"(" + ones(397) + "'a)":                {at: sp(796, 797), e: api.ErrLong},
		"(" + ones(397) + "')":                 {at: sp(795, 796), e: api.RdErrAfter},
		"(" + ones(399) + ")" + ")":            {at: sp(800, 801), e: api.RdErrClose},
		"(" + ones(399) + "#;2 ]":              {at: sp(803, 804), e: api.RdErrMatch},
		"(" + ones(399) + "#;(" + ones(399):    {at: sp(801, 802), e: api.RdErrOpen},
		"(" + ones(399) + "#;(" + ones(400):    {at: sp(1600, 1601), e: api.ErrLong},
		"(1 #;(" + ones(399) + ")" + ones(399): {at: sp(1601, 1602), e: api.ErrLong},
		"(1 #;(" + ones(399) + ")" + ones(398): {at: sp(0, 1), e: api.RdErrOpen},
	} {
		if got := readText(s); !sameRead(got, want) {
			t.Errorf("Read(%.20q, %d bytes): %v; want %v", s, len(s), got, want)
		}
	}
}

// P6.1: how many data there are, without those that are left out.
func TestManyData(t *testing.T) {
	for n := 197; n <= 202; n++ {
		for _, part := range []string{"1 ", "'a", "(a #;b)", "#;a b ", "()#;()"} {
			for _, end := range []string{"", "a", "'a", "(a)", "'", "(", ")", "]", "#;", "#;a", "#;a ;b", "#;(a b)", "#;a b", "#;#;a b", "#;#;a b c", "#;'(c)", "#;a #;b (c)", "#;a 'b"} {
				checkText(t, strings.Repeat(part, n)+end)
			}
		}
	}
	two := strings.Repeat("1 ", 200)
	for s, want := range map[string]read{
		two + "a":        {at: sp(400, 401), e: api.ErrLong},
		two + "'":        {at: sp(400, 401), e: api.ErrLong},
		two + "[a":       {at: sp(400, 401), e: api.ErrLong},
		two + "#;a (":    {at: sp(404, 405), e: api.ErrLong},
		two + ")":        {at: sp(400, 401), e: api.RdErrClose},
		two + "#;":       {at: sp(400, 402), e: api.RdErrAfter},
		two + "#;'":      {at: sp(402, 403), e: api.RdErrAfter},
		two + "#;(a 'b ": {at: sp(402, 403), e: api.RdErrOpen},
	} {
		if got := readText(s); !sameRead(got, want) {
			t.Errorf("Read of 200 data and %q: %v; want %v", s[400:], got, want)
		}
	}
	if v := readText(two + strings.Repeat("#;a ", 300)); len(v.l) != 200 || v.e != api.OK {
		t.Errorf("Read of 200 data, with 300 left out: %d, %v, %d", len(v.l), v.at, v.e)
	}
	if v := readText(strings.Repeat("#;a ", 300) + "b"); len(v.l) != 1 || v.e != api.OK {
		t.Errorf("Read of 1 datum, with 300 left out: %d, %v, %d", len(v.l), v.at, v.e)
	}
}

// The examples of the chapter, but for Find.
func TestReadExamples(t *testing.T) {
	for s, want := range map[string]string{
		"(a 'b)":                 "4/2/0/@0-6 3/0/0/a@1-2 4/2/0/@3-5 3/0/0/quote@3-4 3/0/0/b@4-5 |",
		"1 #;(x y) [2] #; #;3 4": "1/0/1/@0-1 | 4/1/0/@10-13 1/0/2/@11-12 |",
	} {
		if v := readText(s); shown(v.l) != want || v.at != sp(0, 0) || v.e != api.OK {
			t.Errorf("Read(%q): %s, %v, %d", s, shown(v.l), v.at, v.e)
		}
	}
	for s, want := range map[string]read{
		"(a":    {at: sp(0, 1), e: api.RdErrOpen},
		")":     {at: sp(0, 1), e: api.RdErrClose},
		"(a]":   {at: sp(2, 3), e: api.RdErrMatch},
		"(a ')": {at: sp(3, 4), e: api.RdErrAfter},
		"a #;":  {at: sp(2, 4), e: api.RdErrAfter},
	} {
		if got := readText(s); !sameRead(got, want) {
			t.Errorf("Read(%q): %v; want %v", s, got, want)
		}
	}
	if d, at, e := reader.One([]byte("a b")); len(d.Tree) > 0 || at != sp(2, 3) || e != api.ErrTwice {
		t.Errorf("One of a b: %v, %v, %d", d, at, e)
	}
	if d, at, e := reader.One([]byte(" ")); len(d.Tree) > 0 || at != sp(0, 0) || e != api.ErrNone {
		t.Errorf("One of a blank: %v, %v, %d", d, at, e)
	}
}

// checkTotal checks that s has either data, which are such data, or one fault within it; and what the properties say of each datum.
func checkTotal(t *testing.T, s string) {
	t.Helper()
	b := []byte(s)
	l, at, e := reader.Read(b)
	if string(b) != s {
		t.Fatalf("Read has changed %q to %q", s, b)
	}
	if e != api.OK {
		if len(l) > 0 || at.From < 0 || at.From >= at.To || at.To > len(s) {
			t.Fatalf("Read(%q): %v, %v, %d", s, l, at, e)
		}
		return
	}
	end := 0
	for _, d := range l {
		if node, e := reader.Check(len(s), d); node != 0 || e != api.OK || at != sp(0, 0) || d.Spans[0].From < end {
			t.Fatalf("Read(%q): %v, with %v; Check: %d, %d", s, l, d, node, e)
		}
		end = d.Spans[0].To
		for i := range d.Tree {
			checkAlone(t, s, d, i)
		}
	}
}

// checkAlone checks that the bytes of the span of node i, read alone, are its subtree.
func checkAlone(t *testing.T, s string, d api.RdDatum, i int) {
	t.Helper()
	at := d.Spans[i]
	part := s[at.From:at.To]
	if part == "'" {
		if d.Tree[i] != (api.DtNode{Kind: api.DtSymbol, S: "quote"}) {
			t.Fatalf("%q has %v at %v", s, d.Tree[i], at)
		}
		return
	}
	want := api.RdDatum{}
	want.Tree, _ = data.Sub(d.Tree, i)
	for _, s := range d.Spans[i : i+len(want.Tree)] {
		want.Spans = append(want.Spans, sp(s.From-at.From, s.To-at.From))
	}
	if got, _, e := reader.One([]byte(part)); !sameDatum(got, want) || e != api.OK {
		t.Fatalf("One(%q), a part of %q: %v, %d; want %v", part, s, got, e, want)
	}
}

// P6.4, P6.5, P6.7: any short bytes, and texts with all that there is.
func TestAnyBytes(t *testing.T) {
	for a := range 256 {
		for b := range 256 {
			checkTotal(t, string([]byte{byte(a), byte(b)}))
		}
		for _, x := range [][2]string{{"(", ")"}, {"'", "a"}, {"#;", "a"}, {"(a ", ")"}, {"(a #", "b)"}, {"\xe2", "\xac"}} {
			checkTotal(t, x[0]+string([]byte{byte(a)})+x[1])
		}
	}
	allTexts(5, []string{"a", "(", ")", "'", "#;", " ", ";x\n", "#t", "é"}, func(s string) { checkTotal(t, s) })
	allTexts(3, []string{"quote", "1", "(", "[", ")", "]", "'", "#;", " ", "\"", "\xff", "-9", "#", ";"}, func(s string) { checkTotal(t, s) })
	for _, s := range []string{"(define (f x) ; all\n  '[a -12 #t #;skipped ''()]) ;", "'#;(x) (a '#; b 'c) #;d [quote e]", strings.Repeat("(a 'b)", 200), strings.Repeat("(", 33) + strings.Repeat(")", 33), strings.Repeat("'", 31) + "(a)", "(" + strings.Repeat("λ ", 399) + ")"} {
		if v := readText(s); v.e != api.OK {
			t.Fatalf("Read(%q): %v, %d", s, v.at, v.e)
		}
		checkTotal(t, s)
	}
}

// moved returns the data with spans that are n bytes further on.
func moved(l []api.RdDatum, n int) []api.RdDatum {
	var out []api.RdDatum
	for _, d := range l {
		m := api.RdDatum{Tree: d.Tree}
		for _, s := range d.Spans {
			m.Spans = append(m.Spans, sp(s.From+n, s.To+n))
		}
		out = append(out, m)
	}
	return out
}

// P6.6: two texts, with a byte 10 between them, have the data of both, up to 200.
func TestOneAfterAnother(t *testing.T) {
	all := []string{strings.Repeat("1 ", 100), strings.Repeat("(a)", 101), strings.Repeat("'b", 199), strings.Repeat("1 ", 200)}
	allTexts(3, []string{"a", "(", ")", "'", "#;", ";b", " "}, func(s string) {
		if readText(s).e == api.OK {
			all = append(all, s)
		}
	})
	for _, first := range all {
		a := readText(first)
		for _, second := range all {
			b := readText(second)
			want := read{l: append(slices.Clone(a.l), moved(b.l, len(first)+1)...)}
			if len(want.l) > 200 {
				want = read{at: want.l[200].Spans[0], e: api.ErrLong}
				if d := b.l[200-len(a.l)]; d.Tree[0].Kind == api.DtList { // the fault is at its first token
					want.at.To = want.at.From + 1
				}
			}
			if got := readText(first + "\n" + second); !sameRead(got, want) {
				t.Fatalf("Read of %.30q, then %.30q: %.300v; want %.300v", first, second, got, want)
			}
		}
	}
}

// P6.6: what is printed of the tokens of a text has the same trees.
func TestPrintedTokens(t *testing.T) {
	check := func(s string) {
		v := readText(s)
		if v.e != api.OK {
			return
		}
		text, _, e := lexer.Print(tokensOf(t, s))
		got := readText(text)
		same := slices.EqualFunc(got.l, v.l, func(a, b api.RdDatum) bool { return slices.Equal(a.Tree, b.Tree) })
		if e != api.OK || got.e != api.OK || !same {
			t.Fatalf("Read(%q), printed from %q: %v; want %v", text, s, got, v)
		}
	}
	allTexts(5, []string{"a", "(", ")", "'", "#;", " ", ";x\n", "+07", "#t"}, check)
	check("(define (f x) ; all\n  '[a -12 #t #;skipped ''()]) ;")
}

// P6.7, R3: arguments stay as they are, and what is done to one result, or to an argument, is not seen in another result.
func TestFreshMemory(t *testing.T) {
	const s = "(a '(b)) #;(c d) [e #;f] g"
	b := []byte(s)
	l := tokensOf(t, s)
	want := shown(readText(s).l)
	spoil := func(d api.RdDatum) {
		clear(append(d.Tree, slices.Repeat([]api.DtNode{{Kind: 9}}, cap(d.Tree)-len(d.Tree))...))
		clear(append(d.Spans, slices.Repeat([]api.SpSpan{{From: 9}}, cap(d.Spans)-len(d.Spans))...))
	}
	kept, _, _ := reader.Gather(l)
	for i := range 3 {
		got, _, _ := reader.Gather(l)
		spoil(got[i])
		again, _, _ := reader.Read(b)
		if shown(again) != want || shown(kept) != want || string(b) != s || !slices.Equal(l, tokensOf(t, s)) {
			t.Fatalf("results, or arguments, have changed: %s, %s", shown(again), shown(kept))
		}
		for j, d := range got {
			if j != i && !sameDatum(d, kept[j]) {
				t.Fatalf("the datum %d has changed with %d: %v", j, i, d)
			}
		}
	}
	read, _, _ := reader.Read(b)
	clear(b)
	clear(l)
	if shown(read) != want || shown(kept) != want {
		t.Fatalf("results have changed with arguments: %s, %s", shown(read), shown(kept))
	}
}
