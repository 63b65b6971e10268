package words

import (
	"iter"
	"strings"

	"mummer/api"
)

// Split returns the fields of a line.
func Split(line string) ([]api.Field, api.Errno) {
	if len(line) > api.MaxLine {
		return nil, api.ErrLong
	}
	var l []api.Field
	for f, ok := range fields(line) {
		if !ok {
			return nil, api.ErrForm
		}
		l = append(l, f)
	}
	if tooLong(l) {
		return nil, api.ErrLong
	}
	return l, api.OK
}

// Join returns the line of the fields l.
func Join(l []api.Field) (string, api.Errno) {
	if tooLong(l) {
		return "", api.ErrLong
	}
	var b strings.Builder
	for i, f := range l {
		if i > 0 {
			b.WriteByte(' ')
		}
		switch {
		case f.Quoted:
			b.WriteString(Quote(f.S))
		case f.S == "" || bareEnd(f.S, 0) != len(f.S):
			return "", api.ErrForm
		default:
			b.WriteString(f.S)
		}
	}
	if b.Len() > api.MaxLine {
		return "", api.ErrLong
	}
	return b.String(), api.OK
}

// Lines returns the lines of a text, without line feeds.
func Lines(text string) ([]string, api.Errno) {
	if len(text) > api.MaxText {
		return nil, api.ErrLong
	}
	if text != "" && !strings.HasSuffix(text, "\n") {
		return nil, api.ErrForm
	}
	if strings.Count(text, "\n") > api.MaxLines {
		return nil, api.ErrLong
	}
	var l []string
	for line := range strings.Lines(text) {
		l = append(l, strings.Clone(strings.TrimSuffix(line, "\n")))
	}
	return l, api.OK
}

// fields yields the fields of a line, each with true; where the line is not one of fields, it yields false, and ends.
func fields(line string) iter.Seq2[api.Field, bool] {
	return func(yield func(api.Field, bool) bool) {
		var f api.Field
		var ok bool
		at := 0
		if line == "" {
			return
		}
	next:
		if at < len(line) && line[at] == '"' {
			goto quoted
		}
		f, at, ok = bareField(line, at)
		goto ended
	quoted:
		f.Quoted = true
		f.S, at, ok = quotedAt(line, at)
	ended:
		if !ok || at < len(line) && line[at] != ' ' {
			yield(api.Field{}, false)
			return
		}
		if !yield(f, true) || at == len(line) {
			return
		}
		at++
		goto next
	}
}

// bareField reads the bare field that begins at the byte at of line, and says where it ends.
func bareField(line string, at int) (f api.Field, end int, ok bool) {
	end = bareEnd(line, at)
	return api.Field{S: strings.Clone(line[at:end])}, end, end > at
}

// bareEnd is where the bytes of s from the byte at on that a bare field may have end.
func bareEnd(s string, at int) int {
	for at < len(s) && plainByte(s[at]) && s[at] != ' ' {
		at++
	}
	return at
}

// tooLong reports whether there are more fields than a line may have, or one has a string that is too long.
func tooLong(l []api.Field) bool {
	if len(l) > api.MaxFields {
		return true
	}
	for _, f := range l {
		if len(f.S) > api.MaxField {
			return true
		}
	}
	return false
}
