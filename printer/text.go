package printer

import (
	"strconv"

	"mummer/api"
)

// A sink takes what is written, and knows how many bytes that was.
type sink interface {
	put(s string)
	size() int
}

// A counter is a sink that only counts.
type counter int

func (c *counter) put(s string) { *c += counter(len(s)) }
func (c *counter) size() int    { return int(*c) }

// A writer is a sink that has what is written.
type writer []byte

func (w *writer) put(s string) { *w = append(*w, s...) }
func (w *writer) size() int    { return len(*w) }

// written returns what write puts into a sink, or ErrLong; it is counted first, so that nothing too long is written.
func written(write func(sink)) (string, api.Errno) {
	var count counter
	write(&count)
	if count.size() > api.MaxSource {
		return "", api.ErrLong
	}
	var text writer
	write(&text)
	return string(text), api.OK
}

// spell puts the text of the datum t into out, and returns the span of each node in what out has then.
func spell(t []api.DtNode, out sink) []api.SpSpan {
	spans := make([]api.SpSpan, len(t))
	next := 0
	var walk func()
	walk = func() {
		node := next
		next++
		spans[node].From = out.size()
		if t[node].Kind == api.DtList {
			out.put("(")
			for kid := range t[node].Kids {
				if kid > 0 {
					out.put(" ")
				}
				walk()
			}
			out.put(")")
		} else {
			out.put(atom(t[node]))
		}
		spans[node].To = out.size()
	}
	walk()
	return spans
}

// atom returns the text of a node that is no list.
func atom(n api.DtNode) string {
	switch {
	case n.Kind == api.DtSymbol:
		return n.S
	case n.Kind == api.DtInt:
		return strconv.FormatInt(n.N, 10)
	case n.N == 1:
		return "#t"
	}
	return "#f"
}
