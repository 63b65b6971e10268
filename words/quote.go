package words

import (
	"strings"

	"mummer/api"
)

// escape is a byte that has an escape of its own, and what follows the backslash there.
type escape struct{ char, letter byte }

var escapes = [5]escape{{'"', '"'}, {'\\', '\\'}, {'\n', 'n'}, {'\r', 'r'}, {'\t', 't'}}

const hexDigits = "0123456789abcdef"

// Quote returns the quoted form of s.
func Quote(s string) string {
	b := make([]byte, 0, len(s)+2)
	b = append(b, '"')
	for i := range len(s) {
		b = appendWritten(b, s[i])
	}
	return string(append(b, '"'))
}

// Unquote returns the string whose quoted form is s.
func Unquote(s string) (string, api.Errno) {
	value, end, ok := quotedAt(s, 0)
	if !ok || end != len(s) {
		return "", api.ErrForm
	}
	return value, api.OK
}

// quotedAt reads the quoted form that begins at the byte at of s, and says where it ends.
func quotedAt(s string, at int) (value string, end int, ok bool) {
	if at >= len(s) || s[at] != '"' {
		return "", at, false
	}
	var b []byte
	for at++; at < len(s) && s[at] != '"'; {
		c, width := writtenByte(s[at:])
		if width == 0 {
			return "", at, false
		}
		b = append(b, c)
		at += width
	}
	if at == len(s) {
		return "", at, false
	}
	return string(b), at + 1, true
}

// appendWritten adds what stands for c within quotes.
func appendWritten(b []byte, c byte) []byte {
	if plainByte(c) {
		return append(b, c)
	}
	for _, e := range escapes {
		if e.char == c {
			return append(b, '\\', e.letter)
		}
	}
	return append(b, '\\', 'x', hexDigits[c>>4], hexDigits[c&15])
}

// writtenByte reads the byte that the beginning of s stands for within quotes, and how many bytes stand for it: 0 if it stands for none.
func writtenByte(s string) (c byte, width int) {
	if plainByte(s[0]) {
		return s[0], 1
	}
	if s[0] != '\\' || len(s) < 2 {
		return 0, 0
	}
	for _, e := range escapes {
		if e.letter == s[1] {
			return e.char, 2
		}
	}
	if s[1] != 'x' || len(s) < 4 {
		return 0, 0
	}
	high, low := strings.IndexByte(hexDigits, s[2]), strings.IndexByte(hexDigits, s[3])
	if high < 0 || low < 0 {
		return 0, 0
	}
	c = byte(high<<4 | low)
	// A byte that may be written in a shorter way must be: each string has one quoted form.
	if string(appendWritten(nil, c)) != s[:4] {
		return 0, 0
	}
	return c, 4
}

// plainByte reports whether c stands for itself within quotes.
func plainByte(c byte) bool {
	return c >= ' ' && c <= '~' && c != '"' && c != '\\'
}
