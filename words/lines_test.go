package words_test

import (
	"slices"
	"strings"
	"testing"

	"mummer/api"
	"mummer/words"
)

func bare(s string) api.Field { return api.Field{S: s} }

func quoted(s string) api.Field { return api.Field{S: s, Quoted: true} }

func many(n int, f api.Field) []api.Field { return slices.Repeat([]api.Field{f}, n) }

func letters(n int) string { return strings.Repeat("a", n) }

func checkSplit(t *testing.T, line string, want []api.Field, e api.Errno) {
	t.Helper()
	if l, got := words.Split(line); got != e || !slices.Equal(l, want) {
		t.Errorf("Split(%.40q) (%d bytes): %.100v, %d; want %.100v, %d", line, len(line), l, got, want, e)
	}
}

func checkJoin(t *testing.T, l []api.Field, want string, e api.Errno) {
	t.Helper()
	if line, got := words.Join(l); got != e || line != want {
		t.Errorf("Join(%.100v): %.40q, %d; want %.40q, %d", l, line, got, want, e)
	}
}

// P1.3, P1.4, P1.7: lines and their fields.
func TestLineForms(t *testing.T) {
	for line, l := range map[string][]api.Field{
		"":                     nil,
		"a":                    {bare("a")},
		`get / "a b"`:          {bare("get"), bare("/"), quoted("a b")},
		`""`:                   {quoted("")},
		`"" ""`:                {quoted(""), quoted("")},
		`" "`:                  {quoted(" ")},
		`"a" a "a"`:            {quoted("a"), bare("a"), quoted("a")},
		`"\"" "\\ " "\n\x00"`:  {quoted(`"`), quoted(`\ `), quoted("\n\x00")},
		"! ~ #[]^_{}'":         {bare("!"), bare("~"), bare("#[]^_{}'")},
		`"\xff\x80" - -1 0 ;;`: {quoted("\xff\x80"), bare("-"), bare("-1"), bare("0"), bare(";;")},
	} {
		checkSplit(t, line, l, api.OK)
		checkJoin(t, l, line, api.OK)
	}
	for _, line := range []string{" ", "  ", "a  b", " a", "a ", "\"a\" ", " \"a\"", "\"a\"  \"b\"", "a\tb", "a\nb", "a\n", "a\x00", "a\x7f", "a\x80", `a"`, `a"b"`, `"a"b`, `"a""b"`, `"`, `a "`, `"a b`, `a\b`, `\`, `"\x41"`, `a "\x7F"`, "é", "\"\n\""} {
		checkSplit(t, line, nil, api.ErrForm)
	}
}

// P1.3: which bytes separate fields, and which may be bare ones.
func TestBareBytes(t *testing.T) {
	for c := range 256 {
		s := string([]byte{byte(c)})
		ok := c >= 33 && c <= 126 && s != `"` && s != `\`
		for _, x := range []string{s, "a" + s, s + "a", "a" + s + "a"} {
			line, l, e := "", []api.Field(nil), api.ErrForm
			if ok {
				line, l, e = x, []api.Field{bare(x)}, api.OK
			}
			checkJoin(t, []api.Field{bare(x)}, line, e)
			if x == "a a" {
				l, e = many(2, bare("a")), api.OK
			}
			checkSplit(t, x, l, e)
		}
		if s != " " {
			checkSplit(t, `"a"`+s+`"a"`, nil, api.ErrForm)
		}
		checkJoin(t, []api.Field{quoted(s)}, `"`+written(byte(c))+`"`, api.OK)
		checkSplit(t, `"`+written(byte(c))+`"`, []api.Field{quoted(s)}, api.OK)
	}
}

// P1.3: how long lines and fields are, how many fields there are, and which error goes first.
func TestSplitLimits(t *testing.T) {
	zeros := func(n int) string { return `"` + strings.Repeat(`\x00`, n) + `"` }
	for _, x := range []struct {
		line string
		e    api.Errno
	}{
		{letters(2000), api.OK}, {letters(2001), api.ErrLong}, {`"` + letters(2000) + `"`, api.OK}, {`"` + letters(2001) + `"`, api.ErrLong},
		{zeros(2000), api.OK}, {zeros(2001), api.ErrLong}, {"a " + zeros(2001), api.ErrLong}, {letters(2001) + " a", api.ErrLong},
		{strings.Repeat("a ", 63) + "a", api.OK}, {strings.Repeat("a ", 64) + "a", api.ErrLong}, {strings.Repeat(`"" `, 64) + `""`, api.ErrLong}, {strings.Repeat(`"" `, 63) + `""`, api.OK},
		{strings.Repeat(letters(2000)+" ", 4) + letters(188), api.OK}, {strings.Repeat(letters(2000)+" ", 4) + letters(189), api.ErrLong},
		// The length of the line, its form, and then the rest.
		{strings.Repeat(" ", 8192), api.ErrForm}, {strings.Repeat(" ", 8193), api.ErrLong},
		{letters(8192), api.ErrLong}, {letters(8191) + " ", api.ErrForm}, {strings.Repeat("a ", 4096), api.ErrForm}, {strings.Repeat("a ", 4095) + "a", api.ErrLong},
		{strings.Repeat("a ", 64), api.ErrForm}, {strings.Repeat("a ", 100) + `"`, api.ErrForm}, {letters(2001) + " ", api.ErrForm}, {letters(2001) + `"`, api.ErrForm}, {zeros(2001) + "a", api.ErrForm},
	} {
		l, e := words.Split(x.line)
		if e != x.e || e != api.OK && len(l) > 0 {
			t.Errorf("Split(%.40q) (%d bytes): %d fields, %d; want %d", x.line, len(x.line), len(l), e, x.e)
		}
		if e == api.OK {
			checkJoin(t, l, x.line, api.OK)
		}
	}
}

// P1.4: the limits of Join, and which error goes first.
func TestJoinLimits(t *testing.T) {
	full := append(many(4, bare(letters(2000))), bare(letters(188)))
	for _, x := range []struct {
		l []api.Field
		e api.Errno
	}{
		{many(64, bare("a")), api.OK}, {many(65, bare("a")), api.ErrLong}, {many(64, quoted("")), api.OK}, {many(65, quoted("")), api.ErrLong},
		{many(1, bare(letters(2000))), api.OK}, {many(1, bare(letters(2001))), api.ErrLong}, {many(1, quoted(letters(2000))), api.OK}, {many(1, quoted(letters(2001))), api.ErrLong},
		{full, api.OK}, {append(many(4, bare(letters(2000))), bare(letters(189))), api.ErrLong}, {append(many(4, bare(letters(2000))), quoted(letters(186))), api.OK}, {append(many(4, bare(letters(2000))), quoted(letters(187))), api.ErrLong},
		{many(1, quoted(strings.Repeat("\x00", 2000))), api.OK}, {many(2, quoted(strings.Repeat("\x00", 2000))), api.ErrLong}, {many(1, quoted(strings.Repeat("\x00", 2001))), api.ErrLong},
		{many(1, bare("")), api.ErrForm}, {many(1, bare("a b")), api.ErrForm}, {many(1, bare(`a"`)), api.ErrForm}, {[]api.Field{quoted("a b"), bare("a"), bare("a\n")}, api.ErrForm},
		// Fields that are too many or too long, bytes, and then the line.
		{many(65, bare("")), api.ErrLong}, {[]api.Field{bare(""), bare(letters(2001))}, api.ErrLong}, {[]api.Field{bare(""), quoted(letters(2001))}, api.ErrLong},
		{append(many(5, bare(letters(2000))), bare("")), api.ErrForm}, {append([]api.Field{bare(" ")}, many(5, bare(letters(2000)))...), api.ErrForm}, {many(5, bare(letters(2000))), api.ErrLong},
	} {
		line, e := words.Join(x.l)
		if e != x.e || e != api.OK && line != "" {
			t.Errorf("Join(%.60v) (%d fields): %d bytes, %d; want %d", x.l, len(x.l), len(line), e, x.e)
		}
		if e == api.OK {
			checkSplit(t, line, x.l, api.OK)
		}
	}
	if line, _ := words.Join(full); len(line) != 8192 {
		t.Errorf("the longest line has %d bytes", len(line))
	}
	checkJoin(t, nil, "", api.OK)
	checkJoin(t, []api.Field{}, "", api.OK)
}

// P1.7: what Split takes is exactly what Join gives.
func TestSplitAll(t *testing.T) {
	taken := 0
	allStrings("a \"\\nx", 6, func(s string) {
		l, e := words.Split(s)
		if e == api.OK {
			taken++
			checkJoin(t, l, s, api.OK)
		} else if len(l) > 0 || e != api.ErrForm {
			t.Errorf("Split(%q): %v, %d", s, l, e)
		}
	})
	given := 0
	allFields(6, func(l []api.Field) {
		if line, e := words.Join(l); e != api.OK {
			t.Errorf("Join(%v): %d", l, e)
		} else if len(line) <= 6 {
			given++
			checkSplit(t, line, l, api.OK)
		}
	})
	if taken != given {
		t.Errorf("%d lines are taken, and %d given", taken, given)
	}
}

// allFields calls f with each list of fields whose line has at most n bytes of those that TestSplitAll has in lines, and with some others. The byte aa has them in its escape.
func allFields(n int, f func([]api.Field)) {
	var all []api.Field
	allStrings("anx", n, func(s string) {
		if s != "" {
			all = append(all, bare(s))
		}
	})
	allStrings("a \"\\\nnx\xaa", n-2, func(s string) {
		if len(words.Quote(s)) <= n {
			all = append(all, quoted(s))
		}
	})
	var add func(l []api.Field, room int)
	add = func(l []api.Field, room int) {
		f(l)
		for _, x := range all {
			width := len(x.S)
			if x.Quoted {
				width = len(words.Quote(x.S))
			}
			if len(l) > 0 {
				width++
			}
			if width <= room {
				add(append(slices.Clone(l), x), room-width)
			}
		}
	}
	add(nil, n)
}

// P1.8: two lists of fields that are joined one by one, and both together.
func TestJoinTwo(t *testing.T) {
	var lists [][]api.Field
	some := []api.Field{bare("a"), bare("-"), quoted(""), quoted("a b"), quoted("\"\n"), quoted("\xff")}
	for _, f := range some {
		lists = append(lists, []api.Field{f})
		for _, g := range some {
			lists = append(lists, []api.Field{f, g}, []api.Field{f, g, f})
		}
	}
	for _, a := range lists {
		one, _ := words.Join(a)
		for _, b := range lists {
			two, _ := words.Join(b)
			checkJoin(t, append(slices.Clone(a), b...), one+" "+two, api.OK)
			checkSplit(t, one+" "+two, append(slices.Clone(a), b...), api.OK)
		}
	}
}

// P1.5: lines of a text.
func TestLines(t *testing.T) {
	for text, want := range map[string][]string{
		"":                   nil,
		"\n":                 {""},
		"\n\n":               {"", ""},
		"a\n":                {"a"},
		"a\nb\n":             {"a", "b"},
		"a\n\n b\r\n":        {"a", "", " b\r"},
		"\r\x00\xff\n\"\\\n": {"\r\x00\xff", "\"\\"},
	} {
		if l, e := words.Lines(text); e != api.OK || !slices.Equal(l, want) {
			t.Errorf("Lines(%q): %q, %d", text, l, e)
		}
	}
	for _, text := range []string{"a", "a\nb", "\n ", "\na", "\r", "a\r"} {
		if l, e := words.Lines(text); e != api.ErrForm || len(l) > 0 {
			t.Errorf("Lines(%q): %q, %d", text, l, e)
		}
	}
}

// P1.5: the limits of Lines, and which error goes first.
func TestLinesLimits(t *testing.T) {
	feeds := func(n int) string { return strings.Repeat("\n", n) }
	for i, x := range []struct {
		text string
		n    int
		e    api.Errno
	}{
		{feeds(5000), 5000, api.OK}, {feeds(5001), 0, api.ErrLong}, {feeds(5000) + "x", 0, api.ErrForm}, {feeds(5001) + "x", 0, api.ErrForm},
		{letters(1<<20-1) + "\n", 1, api.OK}, {letters(1 << 20), 0, api.ErrForm}, {letters(1<<20) + "\n", 0, api.ErrLong}, {letters(1<<20 + 1), 0, api.ErrLong},
		{feeds(1 << 20), 0, api.ErrLong}, {feeds(1<<20 + 1), 0, api.ErrLong}, {letters(1<<20-5000) + feeds(5000), 5000, api.OK},
	} {
		if l, e := words.Lines(x.text); len(l) != x.n || e != x.e {
			t.Errorf("%d: Lines: %d lines, %d; want %d, %d", i, len(l), e, x.n, x.e)
		}
	}
}
