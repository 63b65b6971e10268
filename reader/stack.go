package reader

import (
	"iter"

	"mummer/api"
)

// A stack has the value that was pushed last on top.
type stack[T any] struct{ values []T }

func (s *stack[T]) size() int { return len(s.values) }
func (s *stack[T]) push(v T)  { s.values = append(s.values, v) }
func (s *stack[T]) pop()      { s.values = s.values[:len(s.values)-1] }

// top returns where the value on top is, until the next push.
func (s *stack[T]) top() *T { return &s.values[len(s.values)-1] }

// inTurn yields tokens. Where it is left, it goes on when it is ranged over again.
func inTurn(tokens []api.LxToken) iter.Seq[api.LxToken] {
	next := 0
	return func(yield func(api.LxToken) bool) {
		for next < len(tokens) {
			next++
			if !yield(tokens[next-1]) {
				return
			}
		}
	}
}

// pull returns a function that takes one more token out of a sequence that goes on where it is left, and reports whether there was one. (The language of the program leaves out iter.Pull.)
func pull(seq iter.Seq[api.LxToken]) func() (api.LxToken, bool) {
	return func() (api.LxToken, bool) {
		for t := range seq {
			return t, true
		}
		return api.LxToken{}, false
	}
}
