package match_test

import (
	"slices"
	"strconv"

	"mummer/api"
	"mummer/pattern"
)

// A dice throws numbers that follow from how it begins.
type dice uint64

func (d *dice) below(n int) int {
	*d = *d*6364136223846793005 + 1442695040888963407
	return int(*d>>33) % n
}

// scope throws a set of scopes.
func (d *dice) scope() string {
	return []string{"", "", set(1), set(2), set(1, 2), set(1, 3)}[d.below(6)]
}

// leaf throws what may stand in a pattern, and is no list; name: the number of the next variable.
func (d *dice) leaf(name *int) part {
	switch d.below(8) {
	case 0:
		return part{StNode: in(int64(d.below(2)))}
	case 1:
		return part{StNode: bo(int64(d.below(2)))}
	case 2:
		return part{StNode: sy("_")}
	case 3, 4:
		return part{StNode: scoped(sy([]string{"else", "other"}[d.below(2)]), d.scope())}
	}
	*name++
	return part{StNode: scoped(sy("v"+strconv.Itoa(*name-1)), d.scope())}
}

// list throws a list of a pattern in which at most so many lists are in each other.
func (d *dice) list(deep int, name *int) part {
	x := part{StNode: li(0)}
	had := false
	for range d.below(4) {
		if deep > 0 && d.below(2) == 0 {
			x.kids = append(x.kids, d.list(deep-1, name))
		} else {
			x.kids = append(x.kids, d.leaf(name))
		}
		if !had && d.below(3) == 0 {
			x.kids = append(x.kids, part{StNode: scoped(sy("..."), d.scope())})
			had = true
		}
	}
	return x
}

// pattern throws the pattern of a rule, and literals.
func (d *dice) pattern() (p []api.StNode, lits []api.PaId) {
	for {
		lits = []api.PaId{id("else"), {S: "else", Scopes: set(1)}, {S: "other", Scopes: set(1, 2)}, id("other"), id("v1"), {S: "v2", Scopes: set(1)}}[d.below(3):][:d.below(4)]
		name := 0
		x := d.list(5, &name)
		x.kids = slices.Insert(x.kids, 0, part{StNode: []api.StNode{sy("m"), sy("v0"), sy("..."), sy("_"), sy("else")}[d.below(5)]})
		p = x.flat()
		if _, e := pattern.Check(p, lits); e == api.OK {
			return p, lits
		}
	}
}

// table throws a table of bindings.
func (d *dice) table() []api.BnBind {
	var t []api.BnBind
	for range d.below(5) {
		b := api.BnBind{Name: []string{"else", "other"}[d.below(2)], Scopes: d.scope(), What: 1 + d.below(4), Ref: d.below(2)}
		if !slices.ContainsFunc(t, func(c api.BnBind) bool { return c.Name == b.Name && c.Scopes == b.Scopes }) {
			t = append(t, b)
		}
	}
	return t
}

// datum throws an input, or a part of one.
func (d *dice) datum(deep int) part {
	switch d.below(7) {
	case 0:
		return part{StNode: in(int64(d.below(2)))}
	case 1:
		return part{StNode: bo(int64(d.below(2)))}
	case 2, 3:
		return part{StNode: scoped(sy([]string{"else", "other", "...", "_", "v0"}[d.below(5)]), d.scope())}
	}
	x := part{StNode: scoped(li(0), d.scope())}
	for range d.below(4) * min(deep, 1) {
		x.kids = append(x.kids, d.datum(deep-1))
	}
	return x
}

// fit throws what matches want, if the literals do.
func (d *dice) fit(r rule, want part) part {
	switch {
	case want.Kind == api.StList:
		x := part{StNode: li(0)}
		for k, y := range want.kids {
			n := 1
			switch {
			case isDots(y):
				n = 0
			case k+1 < len(want.kids) && isDots(want.kids[k+1]):
				n = d.below(4)
			}
			for range n {
				x.kids = append(x.kids, d.fit(r, y))
			}
		}
		return x
	case r.isVar(want) || want.S == "_":
		return d.datum(2)
	case want.Kind == api.StSymbol:
		return part{StNode: scoped(sy(want.S), d.scope())}
	}
	return part{StNode: want.StNode}
}

// input throws an input that matches p, if the literals do.
func (d *dice) input(r rule, p []api.StNode) part {
	x := d.fit(r, headless(partOf(p)))
	x.kids = slices.Insert(x.kids, 0, d.datum(2))
	return x
}

// spoil changes one of the nodes of x.
func (d *dice) spoil(x part) part {
	if len(x.kids) == 0 || d.below(8) == 0 {
		return d.datum(2)
	}
	k := d.below(len(x.kids))
	x.kids = slices.Clone(x.kids)
	switch d.below(6) {
	case 0:
		x.kids = slices.Delete(x.kids, k, k+1)
	case 1:
		x.kids = slices.Insert(x.kids, k, d.datum(1))
	case 2:
		x.kids = append(x.kids, x.kids[k])
	default:
		x.kids[k] = d.spoil(x.kids[k])
	}
	return x
}
