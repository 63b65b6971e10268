package spans

import "mummer/api"

// Nest returns, for each span of l, the index of the last span before it in l within which it is, -1 if there is none; at is the index of what is no span, or does not nest.
func Nest(l []api.SpSpan) (parents []int, at int, e api.Errno) {
	if len(l) > api.MaxNodes {
		return nil, 0, api.ErrLong
	}
	if bad := firstBad(l...); bad >= 0 {
		return nil, bad, api.ErrForm
	}
	// The stack has the indices of spans, each within the one below it. What is taken off is before the span s, and is no parent of a later one: at most an empty one at its end is within it, and that one is within s, too, which is later in the list.
	var stack []int
next:
	for i, s := range l {
		for top := len(stack) - 1; top >= 0; top-- {
			parent := stack[top]
			if within(s, l[parent]) {
				parents = append(parents, parent)
				stack = append(stack[:top+1], i)
				continue next
			}
			if !before(l[parent], s) {
				return nil, i, api.ErrForm
			}
		}
		parents = append(parents, -1)
		stack = append(stack[:0], i)
	}
	return parents, 0, api.OK
}
