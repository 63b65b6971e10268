package match_test

import (
	"slices"
	"strconv"
	"testing"

	"mummer/api"
	"mummer/match"
	"mummer/pattern"
	"mummer/stx"
)

// opened returns p, in which a variable of its own stands for each blank and literal, and what has to be there as it is stays.
func (r rule) opened(p []api.StNode) []api.StNode {
	open := slices.Clone(p)
	for i, n := range p {
		if i > 1 && n.Kind == api.StSymbol && n.S != "..." && !r.isVar(part{StNode: n}) {
			open[i] = sy("w" + strconv.Itoa(i))
		}
	}
	return open
}

// split returns the trees below the root of what a variable has.
func split(l []api.MaNode) [][]api.MaNode {
	var all [][]api.MaNode
	rest := l[1:]
	for range l[0].Kids {
		end := 0
		for missing := 1; missing > 0; end++ {
			missing += max(rest[end].Kids, 0) - 1
		}
		all = append(all, rest[:end])
		rest = rest[end:]
	}
	return all
}

// An env is what variables have.
type env map[api.PaId][]api.MaNode

// turns returns what the variables in x have each time that x is repeated; ok: there are variables.
func (has env) turns(x part) (turns []env, ok bool) {
	var visit func(x part)
	visit = func(x part) {
		for _, k := range x.kids {
			visit(k)
		}
		l, is := has[x.identifier()]
		if x.Kind != api.StSymbol || !is {
			return
		}
		trees := split(l)
		if !ok {
			ok, turns = true, make([]env, len(trees))
			for i := range turns {
				turns[i] = env{}
			}
		}
		for i, tree := range trees {
			turns[i][x.identifier()] = tree
		}
	}
	visit(x)
	return turns, ok
}

// built returns what a pattern is whose variables are replaced by what they have in the input; ok: each repeated element has variables.
func (has env) built(x part, input []part) (l part, ok bool) {
	if x.Kind != api.StList {
		if has, is := has[x.identifier()]; is && x.Kind == api.StSymbol {
			return input[has[0].At], true
		}
		return x, true
	}
	l.StNode = x.StNode
	for k, y := range x.kids {
		turns, ok := []env{has}, true
		switch {
		case isDots(y):
			turns = nil
		case k+1 < len(x.kids) && isDots(x.kids[k+1]):
			turns, ok = has.turns(y)
		}
		for _, turn := range turns {
			built, is := turn.built(y, input)
			l.kids = append(l.kids, built)
			ok = ok && is
		}
		if !ok {
			return l, false
		}
	}
	return l, true
}

// parts returns all parts in x, by their indices.
func parts(x part) []part {
	l := []part{x}
	for _, k := range x.kids {
		l = append(l, parts(k)...)
	}
	return l
}

// P13.4: an input that matches is the pattern, filled with what its variables have, and what blanks and literals stand for.
func TestTheorem(t *testing.T) {
	var d dice
	built := 0
	for range 4000 {
		p, lits := d.pattern()
		table := d.table()
		r := rule{table, lits}
		input := d.input(r, p).flat()
		if is, _ := match.Matches(table, p, lits, input); !is {
			continue
		}
		open := r.opened(p)
		if _, e := pattern.Check(open, lits); e != api.OK {
			continue // a blank, or a literal, is too deep for a variable
		}
		l, e := match.Match(table, open, nil, input)
		if e != api.OK {
			t.Fatalf("%s, %s: %d", brief(open), brief(input), e)
		}
		has := env{}
		for _, b := range l {
			has[b.Id] = b.Tree
		}
		want := partOf(input)
		got, ok := has.built(headless(partOf(open)), parts(want))
		if !ok {
			continue
		}
		built++
		got.kids = slices.Insert(got.kids, 0, want.kids[0])
		a, _ := stx.Data(got.flat())
		b, _ := stx.Data(input)
		if !slices.Equal(a, b) {
			t.Fatalf("%s of %s is %s", brief(input), brief(p), brief(got.flat()))
		}
	}
	if built < 1000 {
		t.Errorf("%d inputs are built", built)
	}
}

// repeats returns, for each variable of a pattern, in which repeated elements it is, the outermost first.
func (r rule) repeats(p []api.StNode) [][]int {
	var all [][]int
	var visit func(x part, in []int)
	visit = func(x part, in []int) {
		if r.isVar(x) {
			all = append(all, in)
		}
		for k, y := range x.kids {
			if k+1 < len(x.kids) && isDots(x.kids[k+1]) {
				visit(y, append(slices.Clone(in), y.at))
			} else {
				visit(y, in)
			}
		}
	}
	visit(headless(partOf(p)), nil)
	return all
}

// cut returns the upper nodes of what a variable has, to this depth alone.
func cut(l []api.MaNode, depth int) []api.MaNode {
	if depth == 0 {
		return nil
	}
	upper := tree(l[0])
	for _, k := range split(l) {
		upper = append(upper, cut(k, depth-1)...)
	}
	return upper
}

// P13.5, P13.6: variables have nodes of the input, none of them twice, and as many as others that are repeated with them; and there are as many nodes as are needed.
func TestWhatVariablesHave(t *testing.T) {
	var d dice
	good := 0
	for range 4000 {
		p, lits := d.pattern()
		table := d.table()
		r := rule{table, lits}
		input := d.input(r, p).flat()
		l, e := match.Match(table, p, lits, input)
		if e != api.OK {
			continue
		}
		good++
		if fewest, _ := pattern.Fewest(p, lits); len(input) < fewest {
			t.Fatalf("%s matches %s", brief(input), brief(p))
		}
		taken := make([]bool, len(input))
		for _, b := range l {
			if match.Check(b) != api.OK {
				t.Fatalf("%v", b)
			}
			leaves, _ := match.Leaves(b)
			for _, at := range leaves {
				size, _ := stx.Size(input, at)
				if size == 0 || slices.Contains(taken[at:at+size], true) {
					t.Fatalf("%s, %s: %v", brief(p), brief(input), l)
				}
				for k := range size {
					taken[at+k] = true
				}
			}
		}
		in := r.repeats(p)
		for i := range l {
			for k := range i {
				both := 0
				for both < min(len(in[i]), len(in[k])) && in[i][both] == in[k][both] {
					both++
				}
				if !slices.Equal(cut(l[i].Tree, both), cut(l[k].Tree, both)) {
					t.Fatalf("%s, %s: %v", brief(p), brief(input), l)
				}
			}
		}
	}
	if good < 2000 {
		t.Errorf("%d match", good)
	}
}

// P13.6: an input with fewer nodes than are needed does not match; one with as many may.
func TestFewest(t *testing.T) {
	lits := ids("else")
	inputs := lists(part{StNode: in(7)}, 3, nodes(in(5), sy("else")))
	for _, p := range patterns(lists(part{StNode: sy("m")}, 3, nodes(sy("a"), sy("..."), sy("_"), in(5), sy("else"))), lits) {
		fewest, _ := pattern.Fewest(p, lits)
		least := 99
		for _, input := range inputs {
			if is, _ := match.Matches(nil, p, lits, input); is {
				least = min(least, len(input))
			}
		}
		if least != fewest {
			t.Fatalf("%s: %d; want %d", brief(p), least, fewest)
		}
	}
}

// P13.6: variables alone match each list of as many elements.
func TestVariablesAlone(t *testing.T) {
	var d dice
	for n := range 20 {
		p := nodes(li(n+1), sy("m"))
		for i := range n {
			p = append(p, scoped(sy("x"), set(i)))
		}
		for range 50 {
			x := part{StNode: li(0)}
			for range n + 1 {
				x.kids = append(x.kids, d.datum(3))
			}
			l, e := match.Match(nil, p, nil, x.flat())
			if e != api.OK || len(l) != n {
				t.Fatalf("%s, %s: %d", brief(p), brief(x.flat()), e)
			}
			for i, b := range l {
				if b.Id != (api.PaId{S: "x", Scopes: set(i)}) || b.Depth != 0 || !slices.Equal(b.Tree, tree(leaf(partOf(x.flat()).kids[i+1].at))) {
					t.Fatalf("%s, %s: %v", brief(p), brief(x.flat()), l)
				}
			}
			x.kids = append(x.kids, d.datum(1))
			wantMismatch(t, nil, p, nil, x.flat(), 0)
			x.kids = x.kids[:n]
			wantMismatch(t, nil, p, nil, x.flat(), 0)
		}
	}
}

// P13.6: arguments stay as they are, with the room behind them; results share no memory with them or with each other.
func TestMemory(t *testing.T) {
	p := append(syn("(m else (a b ...) ... (c ...) d)"), sy("behind"), sy("behind"))
	input := append(syn("(m else (1 2 3) (4) (5 6) 7)"), sy("behind"), sy("behind"))
	lits := append(ids("else"), id("behind"), id("behind"))
	table := []api.BnBind{{Name: "else", What: 3}, {Name: "m", What: 2}, {Name: "behind", What: 1}, {Name: "behind", What: 1}}
	p2, input2, lits2, table2 := slices.Clone(p), slices.Clone(input), slices.Clone(lits), slices.Clone(table)
	get := func() []api.MaBind {
		l, e := match.Match(table[:2], p[:len(p)-2], lits[:1], input[:len(input)-2])
		if e != api.OK || len(l) != 4 {
			t.Fatalf("%v, %d", l, e)
		}
		return l
	}
	first, second, want := get(), get(), get()
	wantAnswers(t, table[:2], p[:len(p)-2], lits[:1], input[:len(input)-2], true, api.OK, 0, api.ErrNone)
	for i := range first {
		// What stands behind a tree, within its room, is no other tree.
		full := first[i].Tree[:cap(first[i].Tree)]
		for k := range full {
			full[k] = api.MaNode{Kids: 99, At: 99}
		}
		for k := range first {
			if k > i && !sameBind(first[k], want[k]) {
				t.Fatalf("%v shares memory with %v", first[k], first[i])
			}
		}
	}
	if !slices.EqualFunc(second, want, sameBind) || !slices.EqualFunc(get(), want, sameBind) {
		t.Fatal("results share memory")
	}
	for i := range want {
		before := slices.Clone(want[i].Tree)
		leaves, _ := match.Leaves(want[i])
		match.Check(want[i])
		match.Count(want[i], []int{0})
		for k := range leaves {
			leaves[k] = 99
		}
		if !slices.Equal(want[i].Tree, before) {
			t.Fatal("a tree has changed")
		}
	}
	path := []int{1, 0}
	match.Count(want[1], path)
	if !slices.Equal(p, p2) || !slices.Equal(input, input2) || !slices.Equal(lits, lits2) || !slices.Equal(table, table2) || !slices.Equal(path, []int{1, 0}) {
		t.Fatal("arguments have changed")
	}
}

// P13.6: any arguments are accepted.
func TestAnyArguments(t *testing.T) {
	var d dice
	strange := nodes(api.StNode{}, li(-1), li(1<<40), in(1), sy(""), sy("a"), sy("..."), scoped(sy("a"), "odd"), bo(2), api.StNode{Kind: -7, Kids: 3}, li(0), li(1), li(2), li(2), sy("m"), sy("_"))
	list := func() []api.StNode {
		var l []api.StNode
		for range d.below(6) {
			l = append(l, strange[d.below(len(strange))])
		}
		return l
	}
	for range 3000 {
		literals := [][]api.PaId{nil, ids("a"), ids("a", "a"), ids("", "...", "_", "1"), {{S: "a", Scopes: "odd"}}}[d.below(5)]
		tables := [][]api.BnBind{nil, nil, {{}}, {{Name: "a", What: 1}}, {{Name: "a", What: 1}, {Name: "a", What: 2}}}[d.below(5)]
		holdMatch(t, tables, list(), literals, list())
		holdMatch(t, nil, syn("(m a b ...)"), literals, list())
		holdMatch(t, tables, list(), literals, syn("(m 1)"))
	}
}
