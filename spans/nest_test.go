package spans_test

import (
	"slices"
	"testing"

	"mummer/api"
	"mummer/spans"
)

// nested is P3.4 for spans, by looking at all pairs.
func nested(l []api.SpSpan) (parents []int, at int, e api.Errno) {
	for i, s := range l {
		parent := -1
		for j, o := range l[:i] {
			if contained(s, o) {
				parent = j
			} else if !ahead(o, s) {
				return nil, i, api.ErrForm
			}
		}
		parents = append(parents, parent)
	}
	return parents, 0, api.OK
}

func checkNest(t *testing.T, l []api.SpSpan, want []int, wantAt int, wantErr api.Errno) {
	t.Helper()
	p, at, e := spans.Nest(l)
	if !slices.Equal(p, want) || at != wantAt || e != wantErr {
		t.Errorf("Nest(%.100v): %.60v, %d, %d; want %.60v, %d, %d", l, p, at, e, want, wantAt, wantErr)
	}
}

// P3.4: all short lists of short spans.
func TestNestAll(t *testing.T) {
	grow := func(all []api.SpSpan, most int) {
		var add func(l []api.SpSpan)
		add = func(l []api.SpSpan) {
			p, at, e := nested(l)
			checkNest(t, l, p, at, e)
			for _, s := range all {
				if len(l) < most {
					add(append(slices.Clone(l), s))
				}
			}
		}
		add(nil)
	}
	grow(upTo(2), 6)
	grow(upTo(3), 5)
	grow(upTo(5), 3)
}

// P3.4: parents along long ways down and back.
func TestNestTrees(t *testing.T) {
	checkNest(t, []api.SpSpan{sp(0, 3), sp(0, 3), sp(3, 3), sp(3, 5)}, []int{-1, 0, 1, -1}, 0, api.OK)
	checkNest(t, []api.SpSpan{sp(4, 4), sp(4, 9), sp(4, 4), sp(9, 9), sp(9, 9)}, []int{-1, -1, 1, 1, 3}, 0, api.OK)
	checkNest(t, []api.SpSpan{sp(0, 20), sp(1, 9), sp(2, 8), sp(3, 7), sp(4, 5), sp(8, 8), sp(10, 19), sp(11, 12), sp(12, 12), sp(25, 30)}, []int{-1, 0, 1, 2, 3, 2, 0, 6, 7, -1}, 0, api.OK)
	checkNest(t, []api.SpSpan{sp(0, 20), sp(1, 9), sp(2, 8), sp(9, 12), sp(11, 14)}, nil, 4, api.ErrForm)
	checkNest(t, []api.SpSpan{sp(0, 20), sp(1, 9), sp(2, 8), sp(9, 12), sp(5, 6)}, nil, 4, api.ErrForm)
	checkNest(t, []api.SpSpan{sp(0, 20), sp(1, 9), sp(19, 21)}, nil, 2, api.ErrForm)
	down, up := make([]api.SpSpan, 1000), make([]int, 1000)
	for i := range down {
		down[i], up[i] = sp(i, 5000-i), i-1
	}
	checkNest(t, append(down, sp(2500, 2501), sp(4500, 4500), sp(4999, 5000), sp(5000, 5001)), append(up, 999, 500, 0, -1), 0, api.OK)
}

// P3.4: how many spans there may be, what is no span, and which error goes first.
func TestNestErrors(t *testing.T) {
	same, up := slices.Repeat([]api.SpSpan{sp(4, 6)}, 2000), make([]int, 2000)
	row, none := make([]api.SpSpan, 2000), slices.Repeat([]int{-1}, 2000)
	for i := range 2000 {
		up[i], row[i] = i-1, sp(i, i+1)
	}
	checkNest(t, nil, nil, 0, api.OK)
	checkNest(t, []api.SpSpan{}, nil, 0, api.OK)
	checkNest(t, same, up, 0, api.OK)
	checkNest(t, row, none, 0, api.OK)
	checkNest(t, make([]api.SpSpan, 2001), nil, 0, api.ErrLong)
	checkNest(t, append(slices.Clone(same), sp(5, 4)), nil, 0, api.ErrLong)
	checkNest(t, append([]api.SpSpan{sp(5, 6), sp(1, 2)}, same...), nil, 0, api.ErrLong)
	checkNest(t, []api.SpSpan{sp(0, most), sp(most, most), sp(most-1, most)}, nil, 2, api.ErrForm)
	checkNest(t, []api.SpSpan{sp(0, most), sp(most-1, most), sp(most, most)}, []int{-1, 0, 1}, 0, api.OK)
	for _, s := range bad() {
		checkNest(t, []api.SpSpan{s}, nil, 0, api.ErrForm)
		checkNest(t, []api.SpSpan{sp(0, 9), s, s}, nil, 1, api.ErrForm)
		// What is no span goes before what does not nest, wherever they are.
		checkNest(t, []api.SpSpan{sp(5, 6), sp(1, 2), sp(7, 8), s}, nil, 3, api.ErrForm)
		checkNest(t, append(slices.Clone(same[:1999]), s), nil, 1999, api.ErrForm)
	}
	checkNest(t, append(slices.Clone(row[:1999]), sp(3, 5)), nil, 1999, api.ErrForm)
}
