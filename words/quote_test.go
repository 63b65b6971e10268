package words_test

import (
	"fmt"
	"strings"
	"testing"

	"mummer/api"
	"mummer/words"
)

// written is what stands for a byte within quotes, as the chapter says it.
func written(c byte) string {
	switch {
	case c == '"':
		return `\"`
	case c == '\\':
		return `\\`
	case c == 10:
		return `\n`
	case c == 13:
		return `\r`
	case c == 9:
		return `\t`
	case c >= 32 && c <= 126:
		return string([]byte{c})
	}
	return fmt.Sprintf("\\x%02x", c)
}

// P1.2: each byte, alone and between others, has its one form, and is read back.
func TestQuoteBytes(t *testing.T) {
	for c := range 256 {
		s := string([]byte{byte(c)})
		for _, x := range [][2]string{{s, written(byte(c))}, {"a" + s + "b", "a" + written(byte(c)) + "b"}, {s + s, written(byte(c)) + written(byte(c))}} {
			want := `"` + x[1] + `"`
			if got := words.Quote(x[0]); got != want {
				t.Errorf("Quote(%q): %s, want %s", x[0], got, want)
			}
			if got, e := words.Unquote(want); got != x[0] || e != api.OK {
				t.Errorf("Unquote(%s): %q, %d", want, got, e)
			}
		}
	}
}

// P1.2: the examples, and strings of any length.
func TestQuoteLength(t *testing.T) {
	if got := words.Quote("a\n\x00\""); got != `"a\n\x00\""` {
		t.Errorf("Quote: %s", got)
	}
	if got := words.Quote(""); got != `""` {
		t.Errorf("Quote of the empty string: %s", got)
	}
	for _, n := range []int{2000, 2001, 1 << 20, 1<<20 + 1} {
		for _, c := range []byte{'a', '"', 0, 0xff} {
			s := strings.Repeat(string([]byte{c}), n)
			q := `"` + strings.Repeat(written(c), n) + `"`
			if words.Quote(s) != q {
				t.Errorf("Quote of %d times %d", n, c)
			}
			if got, e := words.Unquote(q); got != s || e != api.OK {
				t.Errorf("Unquote of %d times %d: %d", n, c, e)
			}
		}
	}
}

// P1.2: of all ways to write an escape only one is a quoted form.
func TestUnquoteEscapes(t *testing.T) {
	forms := map[string]string{}
	for c := range 256 {
		forms[written(byte(c))] = string([]byte{byte(c)})
	}
	check := func(s string) {
		want, ok := forms[s]
		got, e := words.Unquote(`"` + s + `"`)
		if ok && (got != want || e != api.OK) || !ok && (got != "" || e != api.ErrForm) {
			t.Errorf("Unquote of %q in quotes: %q, %d", s, got, e)
		}
	}
	for a := range 256 {
		check(string([]byte{byte(a)}))
		check(string([]byte{'\\', byte(a)}))
		check(string([]byte{'\\', 'x', byte(a)}))
		for b := range 256 {
			check(string([]byte{'\\', 'x', byte(a), byte(b)}))
		}
	}
}

// P1.2, P1.7: what Unquote takes is exactly what Quote gives.
func TestUnquoteAll(t *testing.T) {
	taken := 0
	allStrings("\"\\nx01a ", 6, func(s string) {
		v, e := words.Unquote(s)
		if e == api.OK {
			taken++
			if words.Quote(v) != s {
				t.Errorf("Quote of Unquote(%q): %q", s, words.Quote(v))
			}
		} else if v != "" || e != api.ErrForm {
			t.Errorf("Unquote(%q): %q, %d", s, v, e)
		}
	})
	// Of these bytes 6 stand for themselves, 3 are in the short escapes of the quote, the backslash and 10, and 8 long escapes are left: not 0a, which has a short one.
	c := []int{1, 6, 6*6 + 3, 0, 0}
	for n := 3; n <= 4; n++ {
		c[n] = 6*c[n-1] + 3*c[n-2]
	}
	c[4] += 8
	if want := c[0] + c[1] + c[2] + c[3] + c[4]; taken != want {
		t.Errorf("%d strings are taken, want %d", taken, want)
	}
}

// P1.2: what is no quoted form as a whole.
func TestUnquoteForm(t *testing.T) {
	for _, s := range []string{"", `"`, `a`, `"a`, `a"`, `"a" `, ` "a"`, `"a"b`, `"a""b"`, `"\"`, `"\`, `"\x41"`, `"\x7F"`, `"\x7`, `"\x7"`, `"\x`, `"\x"`, `"\x22"`, `"\x5c"`, `"\x0a"`, `"\x0d"`, `"\x09"`, `"\x20"`, `"\x7e"`, `"\x1F"`, `"\xg0"`, `"\x0g"`, `"\N"`, `"\a"`, `"\0"`, `"\'"`, "\"\n\"", "\"\t\"", "\"\x00\"", "\"\x7f\"", "\"\x80\"", "\"é\""} {
		if v, e := words.Unquote(s); v != "" || e != api.ErrForm {
			t.Errorf("Unquote(%q): %q, %d", s, v, e)
		}
	}
	for s, want := range map[string]string{`"\x1f"`: "\x1f", `"\x7f"`: "\x7f", `"\x80"`: "\x80", `"\xff"`: "\xff", `" "`: " ", `"~"`: "~", `"\\x41"`: `\x41`, `"\\\""`: `\"`} {
		if v, e := words.Unquote(s); v != want || e != api.OK {
			t.Errorf("Unquote(%s): %q, %d", s, v, e)
		}
	}
}
