package spans_test

import (
	"math"
	"slices"
	"testing"

	"mummer/api"
	"mummer/spans"
)

// edited returns the numbers from 0 to n - 1, those of cut taken out, and add times -1 put there.
func edited(n int, cut api.SpSpan, add int) []int {
	var l []int
	for i := range n + 1 {
		if i == cut.From {
			l = append(l, slices.Repeat([]int{-1}, add)...)
		}
		if i < n && (i < cut.From || i >= cut.To) {
			l = append(l, i)
		}
	}
	return l
}

// kept returns the numbers of s, those of cut taken out; put: with add times -1 there.
func kept(s, cut api.SpSpan, add int, put bool) []int {
	var l []int
	for i := s.From; i <= s.To; i++ {
		if i == cut.From && put {
			l = append(l, slices.Repeat([]int{-1}, add)...)
		}
		if i < s.To && (i < cut.From || i >= cut.To) {
			l = append(l, i)
		}
	}
	return l
}

// P3.3, P3.8: all short spans and edits. A shifted span has in the edited text what it had, without what was cut, and with what was put within it.
func TestShiftEdits(t *testing.T) {
	const n = 6
	for _, s := range upTo(n) {
		for _, cut := range upTo(n) {
			for add := range 4 {
				got, e := spans.Shift(s, cut, add)
				overlap := !contained(s, cut) && !contained(cut, s) && !ahead(s, cut) && !ahead(cut, s)
				if overlap || contained(s, cut) && !contained(cut, s) {
					if got != sp(0, 0) || e != api.ErrNone {
						t.Errorf("Shift(%v, %v, %d): %v, %d; want ErrNone", s, cut, add, got, e)
					}
					continue
				}
				text := edited(n, cut, add)
				if e != api.OK || spans.Check(len(text), got) != api.OK {
					t.Errorf("Shift(%v, %v, %d): %v, %d, in %d bytes", s, cut, add, got, e, len(text))
					continue
				}
				put := !ahead(s, cut) && !ahead(cut, s)
				if want := kept(s, cut, add, put); !slices.Equal(text[got.From:got.To], want) {
					t.Errorf("Shift(%v, %v, %d): %v, which has %v; want %v", s, cut, add, got, text[got.From:got.To], want)
				}
				if want := shifted(s, cut, add); got != want {
					t.Errorf("Shift(%v, %v, %d): %v; want %v", s, cut, add, got, want)
				}
			}
		}
	}
}

// shifted is where P3.3 says that s is, if it has a place.
func shifted(s, cut api.SpSpan, add int) api.SpSpan {
	size := cut.To - cut.From
	if ahead(s, cut) {
		return s
	}
	if ahead(cut, s) {
		return sp(s.From-size+add, s.To-size+add)
	}
	return sp(s.From, s.To-size+add)
}

// P3.3: empty spans, and edits at the ends of spans.
func TestShiftEnds(t *testing.T) {
	for _, x := range []struct {
		s, cut api.SpSpan
		add    int
		want   api.SpSpan
		e      api.Errno
	}{
		{sp(4, 4), sp(4, 4), 2, sp(4, 6), api.OK}, {sp(4, 4), sp(4, 4), 0, sp(4, 4), api.OK}, {sp(4, 4), sp(3, 3), 2, sp(6, 6), api.OK}, {sp(4, 4), sp(5, 5), 2, sp(4, 4), api.OK},
		{sp(4, 4), sp(4, 6), 2, sp(0, 0), api.ErrNone}, {sp(4, 4), sp(2, 4), 2, sp(0, 0), api.ErrNone}, {sp(4, 4), sp(3, 5), 2, sp(0, 0), api.ErrNone},
		{sp(4, 4), sp(1, 3), 0, sp(2, 2), api.OK}, {sp(4, 4), sp(5, 7), 0, sp(4, 4), api.OK},
		{sp(3, 5), sp(3, 3), 2, sp(5, 7), api.OK}, {sp(3, 5), sp(4, 4), 2, sp(3, 7), api.OK}, {sp(3, 5), sp(5, 5), 2, sp(3, 5), api.OK},
		{sp(3, 5), sp(3, 5), 7, sp(3, 10), api.OK}, {sp(3, 5), sp(3, 5), 0, sp(3, 3), api.OK}, {sp(3, 5), sp(4, 5), 0, sp(3, 4), api.OK}, {sp(3, 5), sp(3, 4), 0, sp(3, 4), api.OK},
		{sp(3, 5), sp(4, 6), 1, sp(0, 0), api.ErrNone}, {sp(3, 5), sp(2, 4), 1, sp(0, 0), api.ErrNone}, {sp(3, 5), sp(3, 6), 1, sp(0, 0), api.ErrNone}, {sp(3, 5), sp(2, 5), 1, sp(0, 0), api.ErrNone}, {sp(3, 5), sp(2, 6), 1, sp(0, 0), api.ErrNone},
		{sp(3, 5), sp(1, 3), 2, sp(3, 5), api.OK}, {sp(3, 5), sp(1, 3), 5, sp(6, 8), api.OK}, {sp(3, 5), sp(0, 3), 0, sp(0, 2), api.OK},
	} {
		if s, e := spans.Shift(x.s, x.cut, x.add); s != x.want || e != x.e {
			t.Errorf("Shift(%v, %v, %d): %v, %d; want %v, %d", x.s, x.cut, x.add, s, e, x.want, x.e)
		}
	}
}

// P3.3: the greatest numbers, and which error goes first.
func TestShiftLimits(t *testing.T) {
	for _, x := range []struct {
		s, cut api.SpSpan
		add    int
		want   api.SpSpan
		e      api.Errno
	}{
		{sp(0, 1), sp(0, 1), mostAdd, sp(0, mostAdd), api.OK}, {sp(most, most), sp(0, 0), mostAdd, sp(most+mostAdd, most+mostAdd), api.OK}, {sp(0, most), sp(5, 5), mostAdd, sp(0, most+mostAdd), api.OK},
		{sp(most, most), sp(0, most-1), 0, sp(1, 1), api.OK}, {sp(0, most), sp(0, most), 0, sp(0, 0), api.OK}, {sp(most, most), sp(most, most), mostAdd, sp(most, most+mostAdd), api.OK},
		{sp(0, 1), sp(0, 1), mostAdd + 1, sp(0, 0), api.ErrRange}, {sp(0, 1), sp(0, 1), -1, sp(0, 0), api.ErrRange}, {sp(0, 1), sp(2, 3), math.MaxInt, sp(0, 0), api.ErrRange}, {sp(5, 6), sp(2, 3), math.MinInt, sp(0, 0), api.ErrRange},
		{sp(0, 1), sp(0, 2), -1, sp(0, 0), api.ErrRange}, {sp(0, 2), sp(1, 3), mostAdd + 1, sp(0, 0), api.ErrRange}, {sp(0, 2), sp(1, 3), mostAdd, sp(0, 0), api.ErrNone},
	} {
		if s, e := spans.Shift(x.s, x.cut, x.add); s != x.want || e != x.e {
			t.Errorf("Shift(%v, %v, %d): %v, %d; want %v, %d", x.s, x.cut, x.add, s, e, x.want, x.e)
		}
	}
	for _, s := range bad() {
		for _, add := range []int{0, 5, -1, mostAdd + 1} {
			for _, x := range [][2]api.SpSpan{{s, sp(0, 1)}, {sp(0, 1), s}, {s, s}} {
				if got, e := spans.Shift(x[0], x[1], add); got != sp(0, 0) || e != api.ErrForm {
					t.Errorf("Shift(%v, %v, %d): %v, %d; want ErrForm", x[0], x[1], add, got, e)
				}
			}
		}
	}
}
