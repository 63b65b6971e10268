package scopes

import "mummer/api"

// Add returns s with the scope id.
func Add(s string, id int) (string, api.Errno) {
	return mergeOne(s, id, choice{first: true, both: true, second: true})
}

// Drop returns s without the scope id.
func Drop(s string, id int) (string, api.Errno) {
	return mergeOne(s, id, choice{first: true})
}

// Flip returns s without the scope id if it is in s, and with it if it is not.
func Flip(s string, id int) (string, api.Errno) {
	return mergeOne(s, id, choice{first: true, second: true})
}

// Union returns the set of the scopes that are in a or in b.
func Union(a, b string) (string, api.Errno) {
	return mergeTwo(a, b, choice{first: true, both: true, second: true})
}

// Meet returns the set of the scopes that are in a and in b.
func Meet(a, b string) (string, api.Errno) {
	return mergeTwo(a, b, choice{both: true})
}

// Minus returns the set of the scopes that are in a and not in b.
func Minus(a, b string) (string, api.Errno) {
	return mergeTwo(a, b, choice{first: true})
}

// Sub reports whether all scopes of a are in b.
func Sub(a, b string) (bool, api.Errno) {
	if e := checkTwo(a, b); e != api.OK {
		return false, e
	}
	return within(a, b), api.OK
}

// Relate returns how a and b are to each other.
func Relate(a, b string) (int, api.Errno) {
	if e := checkTwo(a, b); e != api.OK {
		return 0, e
	}
	switch {
	case a == b:
		return api.ScSame, api.OK
	case within(a, b):
		return api.ScLess, api.OK
	case within(b, a):
		return api.ScMore, api.OK
	}
	return api.ScApart, api.OK
}

// checkTwo returns the error of Check for a, then for b.
func checkTwo(a, b string) api.Errno {
	if e := Check(a); e != api.OK {
		return e
	}
	return Check(b)
}

// within reports whether all scopes of the set a are in the set b.
func within(a, b string) bool { return merge(a, b, choice{first: true}) == "" }

// A choice says which scopes of two sets are chosen: those in the first set alone, in both, in the second one alone.
type choice struct{ first, both, second bool }

// mergeOne returns the chosen scopes of s and of the set that has id alone, or an error.
func mergeOne(s string, id int, c choice) (string, api.Errno) {
	if e := checkWith(s, id); e != api.OK {
		return "", e
	}
	return limited(merge(s, setOf(id), c))
}

// mergeTwo returns the chosen scopes of a and b, or an error.
func mergeTwo(a, b string, c choice) (string, api.Errno) {
	if e := checkTwo(a, b); e != api.OK {
		return "", e
	}
	return limited(merge(a, b, c))
}

// limited returns s, or ErrLong if it has more scopes than a set may have.
func limited(s string) (string, api.Errno) {
	if tooMany(len(s) / width) {
		return "", api.ErrLong
	}
	return s, api.OK
}

// merge returns the chosen scopes of the sets a and b, of any number.
func merge(a, b string, c choice) string {
	var merged []byte
next:
	if a == "" || b == "" {
		merged = appendIf(c.first, merged, a)
		merged = appendIf(c.second, merged, b)
		return string(merged)
	}
	// The higher byte of a scope is the first one, so the bytes have the order of the scopes.
	switch {
	case a[:width] < b[:width]:
		merged = appendIf(c.first, merged, a[:width])
		a = a[width:]
	case a[:width] > b[:width]:
		merged = appendIf(c.second, merged, b[:width])
		b = b[width:]
	default:
		merged = appendIf(c.both, merged, a[:width])
		a, b = a[width:], b[width:]
	}
	goto next
}

// appendIf returns merged, followed by s if it is chosen.
func appendIf(chosen bool, merged []byte, s string) []byte {
	if !chosen {
		return merged
	}
	return append(merged, s...)
}
