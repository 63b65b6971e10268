package lexer

import (
	"strconv"
	"strings"

	"mummer/api"
)

// A mark is a token that is no word: its text, its kind, and its number.
type mark struct {
	text string
	kind int
	n    int64
}

var marks = [...]mark{
	{"(", api.LxOpen, 1},
	{"[", api.LxOpen, 2},
	{")", api.LxClose, 1},
	{"]", api.LxClose, 2},
	{"'", api.LxQuote, 0},
	{"#;", api.LxSkip, 0},
	{"#f", api.LxBool, 0},
	{"#t", api.LxBool, 1},
}

// markToken returns the mark that has the span s of b, or s alone and its error.
func markToken(b []byte, s api.SpSpan) (api.LxToken, api.Errno) {
	text := string(b[s.From:s.To])
	for _, m := range marks {
		if m.text == text {
			return api.LxToken{Kind: m.kind, Span: s, N: m.n}, api.OK
		}
	}
	return api.LxToken{Span: s}, api.ErrForm
}

// wordToken returns the token of the word that has the span s of b, or s alone and its error.
func wordToken(b []byte, s api.SpSpan) (api.LxToken, api.Errno) {
	word := string(b[s.From:s.To])
	n, e := Integer(word)
	switch {
	case e == api.OK:
		return api.LxToken{Kind: api.LxInt, Span: s, N: n}, api.OK
	case e == api.ErrRange:
		return api.LxToken{Span: s}, api.ErrRange
	case len(word) > api.MaxSymbol:
		return api.LxToken{Span: s}, api.ErrLong
	}
	return api.LxToken{Kind: api.LxSym, Span: s, S: word}, api.OK
}

// Symbol reports whether s is a symbol.
func Symbol(s string) bool {
	if s == "" || len(s) > api.MaxSymbol || isInteger(s) {
		return false
	}
	return runs([]byte(s), ofWords)(0) == len(s)
}

// Integer returns the number that s stands for.
func Integer(s string) (int64, api.Errno) {
	if !isInteger(s) {
		return 0, api.ErrForm
	}
	n, err := strconv.ParseInt(s, 10, 64)
	if err != nil { // it has the form, so the number is what does not fit
		return 0, api.ErrRange
	}
	return n, api.OK
}

// isInteger reports whether s is an integer, of any size.
func isInteger(s string) bool {
	if s != "" && (s[0] == '+' || s[0] == '-') {
		s = s[1:]
	}
	return s != "" && strings.Trim(s, "0123456789") == ""
}

// Check returns OK if t is a token, wherever it stands.
func Check(t api.LxToken) api.Errno {
	switch {
	case !ofItsKind(t):
		return api.ErrArg
	case t.Kind == api.LxSym && !Symbol(t.S):
		return api.ErrForm
	case textOf(t) == "": // no mark of this kind has this number; words have a text here
		return api.ErrRange
	}
	return api.OK
}

// ofItsKind reports whether t has a kind, and nothing that this kind does not have.
func ofItsKind(t api.LxToken) bool {
	switch t.Kind {
	case api.LxOpen, api.LxClose, api.LxInt, api.LxBool:
		return t.S == ""
	case api.LxQuote, api.LxSkip:
		return t.S == "" && t.N == 0
	case api.LxSym:
		return t.N == 0
	}
	return false
}

// Print returns the text of the tokens of l; at is the index of what is no token.
func Print(l []api.LxToken) (s string, at int, e api.Errno) {
	for i, t := range l {
		if e := Check(t); e != api.OK {
			return "", i, e
		}
	}
	var b []byte
	for i, t := range l {
		if i > 0 && apart(l[i-1], t) {
			b = append(b, ' ')
		}
		b = append(b, textOf(t)...)
		if len(b) > api.MaxSource {
			return "", 0, api.ErrLong
		}
	}
	return string(b), 0, api.OK
}

// textOf returns how t is written, nothing if it is no mark with such a number.
func textOf(t api.LxToken) string {
	switch t.Kind {
	case api.LxInt:
		return strconv.FormatInt(t.N, 10)
	case api.LxSym:
		return t.S
	}
	for _, m := range marks {
		if m.kind == t.Kind && m.n == t.N {
			return m.text
		}
	}
	return ""
}

// apart reports whether a blank is between the tokens a and b.
func apart(a, b api.LxToken) bool {
	switch a.Kind {
	case api.LxOpen, api.LxQuote, api.LxSkip:
		return false
	}
	return b.Kind != api.LxClose
}
