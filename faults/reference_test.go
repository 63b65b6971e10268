package faults_test

import (
	"fmt"
	"math"
	"slices"
	"strings"
	"testing"
	"unicode/utf8"

	"mummer/api"
)

// edges are numbers that are far from all that is valid.
var edges = []int{math.MinInt, math.MinInt + 1, -9000, -2, 9000, math.MaxInt - 1, math.MaxInt}

func sp(from, to int) api.SpSpan { return api.SpSpan{From: from, To: to} }

// caused returns a fault with this cause, and a code that says nothing.
func caused(code api.Errno, cause int) api.FtFault {
	return api.FtFault{Code: code, Pass: api.PsExpand, Span: sp(0, 1), Cause: cause}
}

// at returns a fault without a cause at this span.
func at(from, to int) api.FtFault {
	return api.FtFault{Code: api.ErrForm, Pass: api.PsLex, Span: sp(from, to), Cause: -1}
}

// allTexts calls f with all texts of at most n of the pieces.
func allTexts(n int, f func(string)) {
	var grow func(s string, left int)
	grow = func(s string, left int) {
		f(s)
		for _, p := range []string{"a", "\n", "\r", "é", "€", "😀"} {
			if left > 0 {
				grow(s+p, left-1)
			}
		}
	}
	grow("", n)
}

// A spot is a line and a column.
type spot struct{ line, column int }

// placesOf returns the place of each byte of s, and of its end, by a walk over its runes.
func placesOf(s string) []spot {
	var l []spot
	here := spot{1, 1}
	for _, r := range s {
		for range utf8.RuneLen(r) {
			l = append(l, here)
		}
		here.column++
		if r == '\n' {
			here = spot{here.line + 1, 1}
		}
	}
	return append(l, here)
}

// The words of the chapter.
var (
	passes = strings.Fields("lex read expand surface sugar step lift model")
	codes  = strings.Split("nil, argument, too long, none, fuel, form, range, twice, state, unbound, ambiguous, place, macro, match, early, letrec, apply, arity, type, overflow, divide", ", ")
)

// wordOf returns the word of a code from 1 to 999.
func wordOf(code int) string {
	if code <= len(codes) {
		return codes[code-1]
	}
	return fmt.Sprint("error ", code)
}

// messageOf is the definition of the message of a fault of s.
func messageOf(s string, f api.FtFault) string {
	here := placesOf(s)[f.Span.From]
	m := fmt.Sprintf("%d:%d: %s: %s", here.line, here.column, passes[f.Pass-1], wordOf(int(f.Code)))
	if f.Name == "" {
		return m
	}
	return m + " " + f.Name
}

// pictureOf is the definition of the picture of a fault of s.
func pictureOf(s string, f api.FtFault) string {
	here := placesOf(s)[f.Span.From]
	lines := strings.Split(s, "\n")
	line := lines[here.line-1]
	begin := len(strings.Join(lines[:here.line-1], "\n"))
	if here.line > 1 {
		begin++
	}
	marks := ""
	for i := range line {
		if f.Span.From <= begin+i && begin+i < f.Span.To {
			marks += "^"
		}
	}
	if marks == "" {
		marks = "^"
	}
	return messageOf(s, f) + "\n  " + line + "\n  " + strings.Repeat(" ", here.column-1) + marks + "\n"
}

// chainOf is the definition of the chain of the fault i.
func chainOf(l []api.FtFault, i int) []int {
	if i == -1 {
		return nil
	}
	return append([]int{i}, chainOf(l, l[i].Cause)...)
}

// rootsOf returns the faults that are no cause.
func rootsOf(l []api.FtFault) []int {
	var roots []int
	for i := range l {
		if !slices.ContainsFunc(l, func(f api.FtFault) bool { return f.Cause == i }) {
			roots = append(roots, i)
		}
	}
	return roots
}

// allLists calls f with all lists of at most n faults, with all causes and all of these codes.
func allLists(n int, of []api.Errno, f func([]api.FtFault)) {
	var grow func(l []api.FtFault)
	grow = func(l []api.FtFault) {
		f(l)
		for cause := -1; cause < len(l) && len(l) < n; cause++ {
			for _, code := range of {
				grow(append(slices.Clone(l), caused(code, cause)))
			}
		}
	}
	grow(nil)
}

// A dice throws numbers that follow from how it begins.
type dice uint64

func (d *dice) below(n int) int {
	*d = *d*6364136223846793005 + 1442695040888963407
	return int(*d>>33) % n
}

// wantInts fails if the call did not have these numbers, or this error.
func wantInts(t *testing.T, call string, l []int, e api.Errno, want []int, wantErr api.Errno) {
	t.Helper()
	if !slices.Equal(l, want) || e != wantErr {
		t.Fatalf("%.300s: %v, %d; want %v, %d", call, l, e, want, wantErr)
	}
}

// wantText fails if the call did not have this text, or this error.
func wantText(t *testing.T, call string, s string, e api.Errno, want string, wantErr api.Errno) {
	t.Helper()
	if s != want || e != wantErr {
		t.Fatalf("%.300s: %.300q, %d; want %.300q, %d", call, s, e, want, wantErr)
	}
}
