package runes

import (
	"strings"

	"mummer/api"
)

// firstLetter is the first of the runes that are letters from there on.
const firstLetter = 161

// members has, for each class, the bytes that are runes of it; what no class has is RuOther.
var members = [...]string{
	api.RuSpace:  "\t\n\r ",
	api.RuOpen:   "([",
	api.RuClose:  ")]",
	api.RuQuote:  "'",
	api.RuHash:   "#",
	api.RuSemi:   ";",
	api.RuDigit:  "0123456789",
	api.RuSign:   "+-",
	api.RuLetter: "abcdefghijklmnopqrstuvwxyzABCDEFGHIJKLMNOPQRSTUVWXYZ!$%&*/:<=>?^_~.@",
}

// Class returns the class of r.
func Class(r int32) (int, api.Errno) {
	if widthOf(r) == 0 {
		return 0, api.ErrRange
	}
	if r >= firstLetter {
		return api.RuLetter, api.OK
	}
	for class, s := range members {
		if strings.IndexByte(s, byte(r)) >= 0 {
			return class, api.OK
		}
	}
	return api.RuOther, api.OK
}
