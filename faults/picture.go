package faults

import (
	"bytes"
	"strconv"
	"strings"

	"mummer/api"
	"mummer/runes"
)

// Place returns on which line and column of b the rune is in which the byte at is, or the end of b.
func Place(b []byte, at int) (line, column int, e api.Errno) {
	start, e := runes.Back(b, at)
	if e != api.OK {
		return 0, 0, e
	}
	n, _ := runes.Count(b[lineStart(b, start):start]) // a part of a string that is cut at starts is one
	return 1 + bytes.Count(b[:start], []byte{'\n'}), 1 + n, api.OK
}

// Message returns the message of the fault f of b.
func Message(b []byte, f api.FtFault) (string, api.Errno) {
	f.Cause = -1 // there is no list in which it could be
	if e := checkText(b, []api.FtFault{f}); e != api.OK {
		return "", e
	}
	return message(b, f), api.OK
}

// Picture returns the pictures of the faults of the chain of the fault i of b.
func Picture(b []byte, l []api.FtFault, i int) (string, api.Errno) {
	if e := checkText(b, l); e != api.OK {
		return "", e
	}
	chain, e := Chain(l, i)
	if e != api.OK {
		return "", e
	}
	var s strings.Builder
	for _, k := range chain {
		s.WriteString(picture(b, l[k]))
	}
	return s.String(), api.OK
}

// checkText returns the error of runes.Check for b, or that of Check for the faults l of b.
func checkText(b []byte, l []api.FtFault) api.Errno {
	if _, e := runes.Check(b); e != api.OK {
		return e
	}
	_, e := Check(len(b), l)
	return e
}

// message returns the message of f, which has no error.
func message(b []byte, f api.FtFault) string {
	line, column, _ := Place(b, f.Span.From)
	pass, _ := Pass(f.Pass)
	word, _ := Word(f.Code)
	s := strconv.Itoa(line) + ":" + strconv.Itoa(column) + ": " + pass + ": " + word
	if f.Name != "" {
		s += " " + f.Name
	}
	return s
}

// picture returns the picture of f, which has no error.
func picture(b []byte, f api.FtFault) string {
	_, column, _ := Place(b, f.Span.From)
	from, to := lineStart(b, f.Span.From), lineEnd(b, f.Span.From)
	marks := max(1, startsWithin(b[from:to], f.Span.From-from, f.Span.To-from))
	return message(b, f) + "\n  " + string(b[from:to]) + "\n  " + strings.Repeat(" ", column-1) + strings.Repeat("^", marks) + "\n"
}

// lineStart returns where the line begins in which the byte at is.
func lineStart(b []byte, at int) int { return bytes.LastIndexByte(b[:at], '\n') + 1 }

// lineEnd returns where the line ends in which the byte at is.
func lineEnd(b []byte, at int) int {
	if n := bytes.IndexByte(b[at:], '\n'); n >= 0 {
		return at + n
	}
	return len(b)
}

// startsWithin returns how many runes of b begin at the bytes from from on, before to.
func startsWithin(b []byte, from, to int) int {
	starts, _ := runes.Starts(b)
	n := 0
	for _, start := range starts {
		if from <= start && start < to && start < len(b) { // the last start is the end of b, where no rune begins
			n++
		}
	}
	return n
}
