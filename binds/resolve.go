package binds

import (
	"mummer/api"
	"mummer/scopes"
)

// Candidates returns the indices of the bindings that have this name, and no scope that is not in the set.
func Candidates(t []api.BnBind, name, set string) ([]int, api.Errno) {
	if e := checkWith(t, set); e != api.OK {
		return nil, e
	}
	return candidates(t, name, set), api.OK
}

// Resolve returns the index of the binding that name means with this set.
func Resolve(t []api.BnBind, name, set string) (int, api.Errno) {
	if e := checkWith(t, set); e != api.OK {
		return 0, e
	}
	return resolve(t, name, set)
}

// Same reports whether the names of a and b mean the same with their sets.
func Same(t []api.BnBind, a, b api.BnBind) (bool, api.Errno) {
	if e := checkWith(t, a.Scopes, b.Scopes); e != api.OK {
		return false, e
	}
	ofA, e := meaning(t, a)
	if e != api.OK {
		return false, e
	}
	ofB, e := meaning(t, b)
	if e != api.OK {
		return false, e
	}
	return ofA == ofB, api.OK
}

// meaning returns the binding that the name of b means with its set, or, if there is none, one that has nothing but this name, as none of a table does.
func meaning(t []api.BnBind, b api.BnBind) (api.BnBind, api.Errno) {
	i, e := resolve(t, b.Name, b.Scopes)
	switch e {
	case api.OK:
		return t[i], api.OK
	case api.ErrUnbound:
		return api.BnBind{Name: b.Name}, api.OK
	}
	return api.BnBind{}, e
}

// candidates is Candidates for a table and a set.
func candidates(t []api.BnBind, name, set string) []int {
	var l []int
	for i, b := range t {
		if b.Name == name && within(b.Scopes, set) {
			l = append(l, i)
		}
	}
	return l
}

// resolve is Resolve for a table and a set.
func resolve(t []api.BnBind, name, set string) (int, api.Errno) {
	l := candidates(t, name, set)
	if len(l) == 0 {
		return 0, api.ErrUnbound
	}
	i, ok := greatest(l, func(i, k int) bool { return within(t[i].Scopes, t[k].Scopes) })
	if !ok {
		return 0, api.ErrAmbiguous
	}
	return i, api.OK
}

// within reports whether all scopes of the set a are in the set b.
func within(a, b string) bool {
	is, _ := scopes.Sub(a, b)
	return is
}

// greatest returns the element of l, which is not empty, that all elements are below; ok: there is one. Each element is below itself.
func greatest[T any](l []T, below func(a, b T) bool) (top T, ok bool) {
	top = l[0]
	for _, x := range l {
		if below(top, x) {
			top = x
		}
	}
	// The greatest element, if there is one, cannot be missed above, and is not left again. If there is none, top is some other one.
	for _, x := range l {
		if !below(x, top) {
			var none T
			return none, false
		}
	}
	return top, true
}
