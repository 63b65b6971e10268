package faults

import (
	"strconv"

	"mummer/api"
)

var passWords = [...]string{
	api.PsLex:     "lex",
	api.PsRead:    "read",
	api.PsExpand:  "expand",
	api.PsSurface: "surface",
	api.PsSugar:   "sugar",
	api.PsStep:    "step",
	api.PsLift:    "lift",
	api.PsModel:   "model",
}

var codeWords = [...]string{
	api.ErrNil:       "nil",
	api.ErrArg:       "argument",
	api.ErrLong:      "too long",
	api.ErrNone:      "none",
	api.ErrFuel:      "fuel",
	api.ErrForm:      "form",
	api.ErrRange:     "range",
	api.ErrTwice:     "twice",
	api.ErrDown:      "state",
	api.ErrUnbound:   "unbound",
	api.ErrAmbiguous: "ambiguous",
	api.ErrPlace:     "place",
	api.ErrMacro:     "macro",
	api.ErrMatch:     "match",
	api.ErrEarly:     "early",
	api.ErrRec:       "letrec",
	api.ErrApply:     "apply",
	api.ErrArity:     "arity",
	api.ErrType:      "type",
	api.ErrOverflow:  "overflow",
	api.ErrDivide:    "divide",
}

// Pass returns the word of the pass.
func Pass(pass int) (string, api.Errno) {
	if pass < api.PsLex || pass > api.PsModel {
		return "", api.ErrArg
	}
	return passWords[pass], api.OK
}

// Word returns the word of the code.
func Word(code api.Errno) (string, api.Errno) {
	switch {
	case code < 1 || code > api.MaxFtCode:
		return "", api.ErrArg
	case int(code) < len(codeWords):
		return codeWords[code], api.OK
	}
	return "error " + strconv.Itoa(int(code)), api.OK
}
