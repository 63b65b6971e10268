// Package words is layer 1: see shared/doc/01-words.md.
package words

import (
	"strconv"
	"strings"

	"mummer/api"
)

// Name reports whether s is a name.
func Name(s string) bool {
	if len(s) == 0 || len(s) > api.MaxWord || !lowerByte(s[0]) {
		return false
	}
	for i := range len(s) {
		if c := s[i]; !lowerByte(c) && !digitByte(c) && c != '-' {
			return false
		}
	}
	return true
}

// Int returns the integer from low to high whose decimal form is s.
func Int(s string, low, high int64) (int64, api.Errno) {
	if s == "-0" || !natural(strings.TrimPrefix(s, "-")) {
		return 0, api.ErrForm
	}
	n, err := strconv.ParseInt(s, 10, 64)
	if err != nil || n < low || n > high {
		return 0, api.ErrRange
	}
	return n, api.OK
}

// Digits returns the decimal form of n.
func Digits(n int64) string {
	return strconv.FormatInt(n, 10)
}

// natural reports whether s is the decimal form of an integer of any size that is not negative.
func natural(s string) bool {
	if s == "" || s[0] == '0' && len(s) > 1 {
		return false
	}
	for i := range len(s) {
		if !digitByte(s[i]) {
			return false
		}
	}
	return true
}

func lowerByte(c byte) bool { return c >= 'a' && c <= 'z' }

func digitByte(c byte) bool { return c >= '0' && c <= '9' }
