package faults

import (
	"errors"

	"mummer/api"
)

// A coded is a Code as an error.
type coded api.Errno

func (c coded) Error() string {
	word, _ := Word(api.Errno(c))
	return word
}

// A link is what is looked for in the error of a chain: a fault of a list, and the error that it comes from.
type link interface {
	error
	index() int
	Unwrap() error
}

// A linked is a fault as an error.
type linked struct {
	coded
	at    int   // its index
	cause error // nil: none
}

func (f linked) index() int    { return f.at }
func (f linked) Unwrap() error { return f.cause }

// Is lets errors.Is find the Code, though the error has more than it.
func (f linked) Is(target error) bool {
	c, ok := target.(coded)
	return ok && c == f.coded
}

// chained returns the chain of the fault i of a list without errors, as an error: each fault wraps the one that it comes from.
func chained(l []api.FtFault, i int) error {
	f := linked{coded: coded(l[i].Code), at: i}
	if l[i].Cause >= 0 {
		f.cause = chained(l, l[i].Cause)
	}
	return f
}

// indices returns the indices of the faults of a chain.
func indices(chain error) []int {
	var l []int
	for {
		var f link
		if !errors.As(chain, &f) {
			return l
		}
		l = append(l, f.index())
		chain = f.Unwrap()
	}
}
