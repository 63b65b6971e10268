package pattern_test

import (
	"slices"
	"strconv"
	"testing"

	"mummer/api"
	"mummer/pattern"
)

// P12.6: with other symbols, the same pattern has the same errors, and the same variables with these symbols.
func TestOtherSymbols(t *testing.T) {
	var d dice
	for i := range 2000 {
		p, lits := d.pattern(), someLits()[i%5]
		other := map[api.PaId]string{}
		renamed := slices.Clone(p)
		for k, n := range p {
			name := api.PaId{S: n.S, Scopes: n.Scopes}
			if n.Kind != api.StSymbol || n.S == "..." || n.S == "_" || slices.Contains(lits, name) {
				continue
			}
			if other[name] == "" {
				other[name] = "w" + strconv.Itoa(len(other)*7)
			}
			renamed[k].S = other[name]
		}
		node, e := pattern.Check(p, lits)
		wantCheck(t, renamed, lits, node, e)
		vars, e := pattern.Vars(p, lits)
		for k, v := range vars {
			vars[k].Id.S = other[v.Id]
		}
		wantVars(t, renamed, lits, vars, e)
		fewest, e := pattern.Fewest(p, lits)
		wantFewest(t, renamed, lits, fewest, e)
	}
}

// P12.7: a further literal that is no variable changes nothing; one that is a variable is missing, and nothing else changes.
func TestFurtherLiteral(t *testing.T) {
	var d dice
	changed := 0
	for i := range 2000 {
		p, lits := d.pattern(), someLits()[i%4]
		vars, e := pattern.Vars(p, lits)
		if e != api.OK {
			continue
		}
		fewest, _ := pattern.Fewest(p, lits)
		for _, further := range append(ids("none", "...", "_", "m", "else", "v0", "v1", "v2", "v5"), api.PaId{S: "v3", Scopes: "\x00\x01"}) {
			more := append(slices.Clone(lits), further)
			others := slices.DeleteFunc(slices.Clone(vars), func(v api.PaVar) bool { return v.Id == further })
			if len(others) < len(vars) {
				changed++
			}
			wantVars(t, p, more, others, api.OK)
			wantFewest(t, p, more, fewest, api.OK)
		}
	}
	if changed < 500 {
		t.Errorf("%d literals are variables", changed)
	}
}

// P12.7: arguments stay as they are, with the room behind them; results share no memory with them or with each other.
func TestMemory(t *testing.T) {
	room := append(syn("(m a (b c ...) ... else d)"), sy("behind"), sy("behind"))
	p := room[:len(room)-2]
	literals := append(ids("else"), ids("behind", "behind")...)
	lits := literals[:1]
	beforeRoom, beforeLits := slices.Clone(room), slices.Clone(literals)
	want, _ := pattern.Vars(p, lits)
	vars, _ := pattern.Vars(p, lits)
	wantCheck(t, p, lits, 0, api.OK)
	pattern.Fewest(p, lits)
	pattern.Parts(p, 0)
	pattern.Parts(p, 3)
	pattern.Find(vars, id("b"))
	if !slices.Equal(vars, want) {
		t.Fatal("Find changes the variables")
	}
	vars[0] = v("changed", 9)
	wantVars(t, p, lits, want, api.OK)
	l := append(nodes(li(3)), sy("a"), sy("b"), sy("c"), sy("behind"))
	first, _, _ := pattern.Lits(l[:4])
	first[0] = id("changed")
	wantLits(t, l[:4], ids("a", "b", "c"), 0, api.OK)
	if !slices.Equal(room, beforeRoom) || !slices.Equal(literals, beforeLits) || l[4].S != "behind" || l[0] != li(3) || l[1] != sy("a") {
		t.Fatal("arguments have changed")
	}
}

// P12.7: any arguments are accepted; what a span, an origin and scopes of other nodes are makes no difference.
func TestAnyArguments(t *testing.T) {
	var d dice
	strange := nodes(api.StNode{}, li(-1), li(1<<40), in(1), sy(""), sy("a"), sy("..."), scoped(sy("a"), "odd"), api.StNode{Kind: -7, Kids: 3})
	for range 3000 {
		var l []api.StNode
		for range d.below(8) {
			l = append(l, append(strange, li(0), li(1), li(2), sy("m"))[d.below(len(strange)+4)])
		}
		holdPattern(t, l, ids("a"))
	}
	for range 500 {
		p := d.pattern()
		for i := range p {
			p[i].Span = api.SpSpan{From: d.below(5), To: 5 + d.below(5)}
			p[i].Origin = d.below(3)
			if p[i].Kind != api.StSymbol {
				p[i].Scopes = "\x00\x07"
			}
		}
		holdPattern(t, p, ids("else"))
	}
}
