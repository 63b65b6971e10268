package spans

import (
	"bytes"

	"mummer/api"
	"mummer/runes"
)

// Lines returns the lines of b, without the bytes 10 between them.
func Lines(b []byte) ([]api.SpSpan, api.Errno) {
	if _, e := runes.Check(b); e != api.OK {
		return nil, e
	}
	var l []api.SpSpan
	from := 0
	for i, c := range b {
		if c == '\n' {
			l = append(l, api.SpSpan{From: from, To: i})
			from = i + 1
		}
	}
	return append(l, api.SpSpan{From: from, To: len(b)}), api.OK
}

// Place returns on which line and column the start at of b is.
func Place(b []byte, at int) (line, column int, e api.Errno) {
	on, e := runes.On(b, at)
	if e != api.OK {
		return 0, 0, e
	}
	if !on {
		return 0, 0, api.ErrForm
	}
	before := b[:at]
	inLine := before[bytes.LastIndexByte(before, '\n')+1:]
	n, e := runes.Count(inLine)
	if e != api.OK {
		return 0, 0, e
	}
	return 1 + bytes.Count(before, []byte{'\n'}), 1 + n, api.OK
}

// At returns the start of b that is on this line and column.
func At(b []byte, line, column int) (int, api.Errno) {
	lines, e := Lines(b)
	if e != api.OK {
		return 0, e
	}
	if line < 1 || line > len(lines) {
		return 0, api.ErrNone
	}
	s := lines[line-1]
	starts, e := runes.Starts(b[s.From:s.To])
	if e != api.OK {
		return 0, e
	}
	if column < 1 || column > len(starts) {
		return 0, api.ErrNone
	}
	return s.From + starts[column-1], api.OK
}

// Cut returns the bytes of the span s of b.
func Cut(b []byte, s api.SpSpan) (string, api.Errno) {
	if _, e := runes.Check(b); e != api.OK {
		return "", e
	}
	if e := Check(len(b), s); e != api.OK {
		return "", e
	}
	for _, end := range [...]int{s.From, s.To} {
		if on, e := runes.On(b, end); e != api.OK || !on {
			return "", api.ErrForm
		}
	}
	return string(b[s.From:s.To]), api.OK
}
