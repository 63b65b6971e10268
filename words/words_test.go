package words_test

import (
	"math"
	"math/big"
	"slices"
	"strconv"
	"strings"
	"testing"

	"mummer/api"
	"mummer/words"
)

const (
	lowers = "abcdefghijklmnopqrstuvwxyz"
	digits = "0123456789"
)

// allStrings calls f once with each string of at most n bytes, all of them from alphabet.
func allStrings(alphabet string, n int, f func(string)) {
	var grow func(s string)
	grow = func(s string) {
		f(s)
		for i := 0; i < len(alphabet) && len(s) < n; i++ {
			grow(s + alphabet[i:i+1])
		}
	}
	grow("")
}

// P1.1: which bytes a name has, and where.
func TestNameBytes(t *testing.T) {
	for c := range 256 {
		s := string([]byte{byte(c)})
		lower, digit := strings.Contains(lowers, s), strings.Contains(digits, s)
		later := lower || digit || s == "-"
		for name, want := range map[string]bool{s: lower, s + "a": lower, "a" + s: later, "a" + s + "b": later, "abcdefghijklmno" + s: later} {
			if words.Name(name) != want {
				t.Errorf("Name(%q) is not %v", name, want)
			}
		}
	}
}

// P1.1: how long a name is.
func TestNameLength(t *testing.T) {
	for n := range 40 {
		if got, want := words.Name(strings.Repeat("a", n)), n >= 1 && n <= 16; got != want {
			t.Errorf("Name of %d letters: %v", n, got)
		}
	}
	for name, want := range map[string]bool{"web-1": true, "Web": false, "a--": true, "a-9-": true, "1a": false, "-": false, "a\n": false, "é": false, strings.Repeat("a", 17): false} {
		if words.Name(name) != want {
			t.Errorf("Name(%q) is not %v", name, want)
		}
	}
}

// P1.1: the strings that Int takes are those that strconv writes.
func TestIntForm(t *testing.T) {
	allStrings("-+0129 _x.", 4, func(s string) {
		want, err := strconv.Atoi(s)
		n, e := words.Int(s, math.MinInt64, math.MaxInt64)
		if err != nil || strconv.Itoa(want) != s {
			if n != 0 || e != api.ErrForm {
				t.Errorf("Int(%q): %d, %d; want ErrForm", s, n, e)
			}
		} else if n != int64(want) || e != api.OK {
			t.Errorf("Int(%q): %d, %d", s, n, e)
		}
	})
	for c := range 256 {
		s := string([]byte{byte(c)})
		for _, text := range []string{s + "1", "1" + s, "-" + s, "1" + s + "1"} {
			n, e := words.Int(text, -1000, 1000)
			if ok := strings.Contains(digits, s) && text != "01" && text != "-0" || text == "-1"; ok != (e == api.OK) || !ok && (n != 0 || e != api.ErrForm) {
				t.Errorf("Int(%q): %d, %d", text, n, e)
			}
		}
	}
}

// P1.1: ErrForm goes before ErrRange, and both bounds belong to the range.
func TestIntRange(t *testing.T) {
	for _, x := range []struct {
		s         string
		low, high int64
		n         int64
		e         api.Errno
	}{
		{"12", 0, 10, 0, api.ErrRange}, {"10", 0, 10, 10, api.OK}, {"11", 0, 10, 0, api.ErrRange}, {"0", 0, 10, 0, api.OK}, {"-1", 0, 10, 0, api.ErrRange},
		{"-20", -20, -10, -20, api.OK}, {"-21", -20, -10, 0, api.ErrRange}, {"-10", -20, -10, -10, api.OK}, {"-9", -20, -10, 0, api.ErrRange},
		{"5", 6, 4, 0, api.ErrRange}, {"5", 5, 4, 0, api.ErrRange}, {"5", 6, 5, 0, api.ErrRange}, {"x", 6, 4, 0, api.ErrForm},
		{"007", 0, 3, 0, api.ErrForm}, {"-0", 1, 3, 0, api.ErrForm}, {"+12", 0, 10, 0, api.ErrForm},
		{"9223372036854775807", math.MinInt64, math.MaxInt64, math.MaxInt64, api.OK}, {"9223372036854775808", math.MinInt64, math.MaxInt64, 0, api.ErrRange},
		{"-9223372036854775808", math.MinInt64, math.MaxInt64, math.MinInt64, api.OK}, {"-9223372036854775809", math.MinInt64, math.MaxInt64, 0, api.ErrRange},
		{"18446744073709551617", 0, 10, 0, api.ErrRange}, {strings.Repeat("9", 1000), 0, 10, 0, api.ErrRange}, {"-" + strings.Repeat("9", 1000), -10, 10, 0, api.ErrRange},
		{strings.Repeat("9", 1000) + "x", 0, 10, 0, api.ErrForm}, {"0" + strings.Repeat("9", 1000), 0, 10, 0, api.ErrForm},
	} {
		if n, e := words.Int(x.s, x.low, x.high); n != x.n || e != x.e {
			t.Errorf("Int(%.30q, %d, %d): %d, %d; want %d, %d", x.s, x.low, x.high, n, e, x.n, x.e)
		}
	}
}

// P1.1, P1.7: Digits has the decimal form, which Int reads back.
func TestDigits(t *testing.T) {
	l := []int64{math.MinInt64, math.MinInt64 + 1, math.MaxInt64, math.MaxInt64 - 1}
	for n := int64(1); n < math.MaxInt64/10; n *= 10 {
		l = append(l, n-1, n, n+1, -n+1, -n, -n-1)
	}
	for n := int64(-1100); n <= 1100; n++ {
		l = append(l, n)
	}
	for _, n := range l {
		s := words.Digits(n)
		if want := big.NewInt(n).String(); s != want {
			t.Errorf("Digits(%d): %s", n, s)
		}
		if got, e := words.Int(s, n, n); got != n || e != api.OK {
			t.Errorf("Int(%s): %d, %d", s, got, e)
		}
	}
}

// R1: what is no list, line or string at all is an argument like another one.
func TestAnyBytes(t *testing.T) {
	var all []byte
	for c := range 256 {
		all = append(all, byte(c))
	}
	for _, s := range []string{"", "\x00", "\xff\xfe", string(all), strings.Repeat("\\", 9000), strings.Repeat("\"", 9000), strings.Repeat("-", 9000), strings.Repeat(",", 9000)} {
		if words.Name(s) {
			t.Errorf("Name(%.20q)", s)
		}
		if n, e := words.Int(s, 0, 9); n != 0 || e != api.ErrForm {
			t.Errorf("Int(%.20q): %d, %d", s, n, e)
		}
		if v, e := words.Unquote(s); v != "" || e != api.ErrForm {
			t.Errorf("Unquote(%.20q): %q, %d", s, v, e)
		}
		if l, e := words.ParseList(s); len(l) > 0 || e != api.ErrForm {
			t.Errorf("ParseList(%.20q): %v, %d", s, l, e)
		}
		if v, e := words.Unquote(words.Quote(s)); v != s || e != api.OK {
			t.Errorf("Unquote of Quote(%.20q): %q, %d", s, v, e)
		}
	}
}

// P1.8, R3: arguments stay as they are, and what is done to one result is not seen in another one.
func TestFreshMemory(t *testing.T) {
	fields := []api.Field{{S: "a"}, {S: "b c", Quoted: true}}
	numbers := []int{1, 2, 3, 7}
	words.Join(fields)
	words.List(numbers)
	words.Join([]api.Field{{S: "a"}, {S: ""}})
	if !slices.Equal(fields, []api.Field{{S: "a"}, {S: "b c", Quoted: true}}) || !slices.Equal(numbers, []int{1, 2, 3, 7}) {
		t.Errorf("arguments have changed: %v, %v", fields, numbers)
	}
	for range 2 {
		split, _ := words.Split("a \"b c\"")
		lines, _ := words.Lines("a\nb\n")
		list, _ := words.ParseList("1-3,7")
		if !slices.Equal(split, fields) || !slices.Equal(lines, []string{"a", "b"}) || !slices.Equal(list, numbers) {
			t.Errorf("results have changed: %v, %v, %v", split, lines, list)
		}
		clear(split)
		clear(lines)
		clear(list)
	}
}
