package spans_test

import (
	"math"
	"slices"
	"testing"

	"mummer/api"
	"mummer/spans"
)

const (
	most    = 1 << 62 // the greatest number in a span
	mostAdd = 1 << 61
)

func sp(from, to int) api.SpSpan { return api.SpSpan{From: from, To: to} }

// upTo returns all spans of n bytes.
func upTo(n int) []api.SpSpan {
	var l []api.SpSpan
	for from := range n + 1 {
		for to := from; to <= n; to++ {
			l = append(l, sp(from, to))
		}
	}
	return l
}

// bad returns what every function but Check and Cut rejects.
func bad() []api.SpSpan {
	return []api.SpSpan{
		sp(-1, 1), sp(-1, -1), sp(-1, 0), sp(2, 1), sp(1, 0), sp(0, -1), sp(math.MinInt, math.MaxInt), sp(math.MaxInt, math.MinInt), sp(math.MinInt, math.MinInt),
		sp(0, most+1), sp(most, most+1), sp(most+1, most+1), sp(0, math.MaxInt), sp(math.MaxInt, math.MaxInt), sp(most+1, most), sp(-most, most),
	}
}

// P3.1: what is no span, what is one of n bytes, and which error goes first.
func TestCheck(t *testing.T) {
	for n := -2; n <= 4; n++ {
		for from := -2; from <= 5; from++ {
			for to := -2; to <= 5; to++ {
				want := api.OK
				if from < 0 || to < from {
					want = api.ErrForm
				} else if n < 0 || to > n {
					want = api.ErrRange
				}
				if e := spans.Check(n, sp(from, to)); e != want {
					t.Errorf("Check(%d, %d-%d): %d; want %d", n, from, to, e, want)
				}
			}
		}
	}
	for _, x := range []struct {
		n    int
		s    api.SpSpan
		want api.Errno
	}{
		{math.MaxInt, sp(0, math.MaxInt), api.OK}, {math.MaxInt, sp(math.MaxInt, math.MaxInt), api.OK}, {math.MaxInt - 1, sp(0, math.MaxInt), api.ErrRange}, {most, sp(0, most+1), api.ErrRange}, {most + 1, sp(0, most+1), api.OK},
		{math.MinInt, sp(0, 0), api.ErrRange}, {math.MinInt, sp(math.MinInt, 0), api.ErrForm}, {math.MaxInt, sp(math.MinInt, math.MaxInt), api.ErrForm}, {0, sp(math.MaxInt, 0), api.ErrForm},
	} {
		if e := spans.Check(x.n, x.s); e != x.want {
			t.Errorf("Check(%d, %v): %d; want %d", x.n, x.s, e, x.want)
		}
	}
}

// contained and ahead are the definitions of within and before.
func contained(a, b api.SpSpan) bool { return !(a.From < b.From) && !(a.To > b.To) }

func ahead(a, b api.SpSpan) bool { return !(a.To > b.From) && (a.From != b.From || a.To != b.To) }

// P3.2, P3.6: pairs of spans. Of overlapping, one before the other, one within the other, exactly one holds.
func TestPairs(t *testing.T) {
	for _, a := range upTo(6) {
		for _, b := range upTo(6) {
			in, e := spans.Within(a, b)
			if in != contained(a, b) || e != api.OK {
				t.Errorf("Within(%v, %v): %v, %d", a, b, in, e)
			}
			first, e := spans.Before(a, b)
			if first != ahead(a, b) || e != api.OK {
				t.Errorf("Before(%v, %v): %v, %d", a, b, first, e)
			}
			over, _ := spans.Within(b, a)
			second, _ := spans.Before(b, a)
			if first && second {
				t.Errorf("%v and %v: each is before the other one", a, b)
			}
			holds := 0
			for _, c := range []bool{!in && !over && !first && !second, first || second, (in || over) && !first && !second} {
				if c {
					holds++
				}
			}
			if holds != 1 {
				t.Errorf("%v and %v: %d of the three hold", a, b, holds)
			}
		}
	}
}

// P3.6: Before is a strict order of spans that are not empty.
func TestBeforeOrder(t *testing.T) {
	before := func(a, b api.SpSpan) bool {
		is, e := spans.Before(a, b)
		return is && e == api.OK
	}
	full := slices.DeleteFunc(upTo(5), func(s api.SpSpan) bool { return s.From == s.To })
	for _, a := range full {
		if before(a, a) {
			t.Errorf("%v is before itself", a)
		}
		for _, b := range full {
			for _, c := range full {
				if before(a, b) && before(b, c) && !before(a, c) {
					t.Errorf("%v is before %v, that before %v, but not the first before the last", a, b, c)
				}
			}
		}
	}
}

// isLeast reports whether s is in all, and within each one of all in which good holds; good holds for s.
func isLeast(s api.SpSpan, all []api.SpSpan, good func(api.SpSpan) bool) bool {
	for _, o := range all {
		if good(o) && !contained(s, o) {
			return false
		}
	}
	return good(s)
}

// P3.2, P3.7: Cover is the least span in which all are.
func TestCover(t *testing.T) {
	all := upTo(4)
	var grow func(l []api.SpSpan)
	grow = func(l []api.SpSpan) {
		s, e := spans.Cover(l)
		if len(l) == 0 {
			if s != sp(0, 0) || e != api.ErrNone {
				t.Errorf("Cover of none: %v, %d", s, e)
			}
		} else if e != api.OK || !isLeast(s, all, func(o api.SpSpan) bool {
			return !slices.ContainsFunc(l, func(m api.SpSpan) bool { return !contained(m, o) })
		}) {
			t.Errorf("Cover(%v): %v, %d", l, s, e)
		}
		for _, s := range all {
			if len(l) < 3 {
				grow(append(slices.Clone(l), s))
			}
		}
	}
	grow(nil)
	if s, e := spans.Cover([]api.SpSpan{}); s != sp(0, 0) || e != api.ErrNone {
		t.Errorf("Cover of an empty list: %v, %d", s, e)
	}
	for _, x := range []struct {
		l    []api.SpSpan
		want api.SpSpan
	}{
		{[]api.SpSpan{sp(0, most)}, sp(0, most)}, {[]api.SpSpan{sp(most, most), sp(5, 6)}, sp(5, most)}, {[]api.SpSpan{sp(9, 9), sp(3, 3), sp(7, 8), sp(4, 4)}, sp(3, 9)},
		{append(slices.Repeat([]api.SpSpan{sp(5, 6)}, 3000), sp(2, 3)), sp(2, 6)},
	} {
		if s, e := spans.Cover(x.l); s != x.want || e != api.OK {
			t.Errorf("Cover(%.60v): %v, %d", x.l, s, e)
		}
	}
}

// P3.2, P3.7: Meet is the greatest span that is within both.
func TestMeet(t *testing.T) {
	all := upTo(6)
	for _, a := range all {
		for _, b := range all {
			s, is, e := spans.Meet(a, b)
			some := false
			for _, o := range all {
				if contained(o, a) && contained(o, b) {
					some = true
					if !contained(o, s) {
						t.Errorf("Meet(%v, %v): %v; %v is within both, too", a, b, s, o)
					}
				}
			}
			if is != some || e != api.OK {
				t.Errorf("Meet(%v, %v): %v, %d", a, b, is, e)
			}
			if is && !(contained(s, a) && contained(s, b)) || !is && s != sp(0, 0) {
				t.Errorf("Meet(%v, %v): %v, %v", a, b, s, is)
			}
		}
	}
}

// Numbers up to 2^62 are good in all functions, greater ones, and what is no span, in none, whichever span it is.
func TestBadSpans(t *testing.T) {
	check := func(a, b api.SpSpan, want api.Errno) {
		in, e1 := spans.Within(a, b)
		first, e2 := spans.Before(a, b)
		m, is, e3 := spans.Meet(a, b)
		c, e4 := spans.Cover([]api.SpSpan{a, b})
		if e1 != want || e2 != want || e3 != want || e4 != want {
			t.Errorf("%v, %v: %d, %d, %d, %d; want %d", a, b, e1, e2, e3, e4, want)
		}
		if want != api.OK && (in || first || is || m != sp(0, 0) || c != sp(0, 0)) {
			t.Errorf("%v, %v: other results are not zero", a, b)
		}
	}
	good := []api.SpSpan{sp(0, 0), sp(2, 4), sp(0, most), sp(most, most), sp(most-1, most)}
	for _, s := range bad() {
		for _, o := range good {
			check(s, o, api.ErrForm)
			check(o, s, api.ErrForm)
		}
		check(s, s, api.ErrForm)
		for i := range 3 {
			l := []api.SpSpan{sp(1, 2), sp(3, 4), sp(5, 6)}
			l[i] = s
			if c, e := spans.Cover(l); c != sp(0, 0) || e != api.ErrForm {
				t.Errorf("Cover(%v): %v, %d", l, c, e)
			}
		}
	}
	for _, a := range good {
		for _, b := range good {
			check(a, b, api.OK)
		}
	}
}

// P3.1, P3.2, P3.3, P3.4: the examples of the chapter.
func TestExamples(t *testing.T) {
	for _, x := range []struct {
		s    api.SpSpan
		want api.Errno
	}{{sp(2, 5), api.OK}, {sp(2, 6), api.ErrRange}, {sp(3, 2), api.ErrForm}} {
		if e := spans.Check(5, x.s); e != x.want {
			t.Errorf("Check(5, %v): %d", x.s, e)
		}
	}
	if s, e := spans.Cover([]api.SpSpan{sp(2, 4), sp(7, 7)}); s != sp(2, 7) || e != api.OK {
		t.Errorf("Cover: %v, %d", s, e)
	}
	for _, x := range []struct {
		a, b, want api.SpSpan
		is         bool
	}{{sp(2, 5), sp(4, 9), sp(4, 5), true}, {sp(2, 4), sp(4, 9), sp(4, 4), true}, {sp(2, 3), sp(4, 9), sp(0, 0), false}} {
		if s, is, e := spans.Meet(x.a, x.b); s != x.want || is != x.is || e != api.OK {
			t.Errorf("Meet(%v, %v): %v, %v, %d", x.a, x.b, s, is, e)
		}
	}
	if is, e := spans.Within(sp(2, 4), sp(2, 5)); !is || e != api.OK {
		t.Errorf("Within: %v, %d", is, e)
	}
	if is, e := spans.Before(sp(2, 4), sp(4, 9)); !is || e != api.OK {
		t.Errorf("Before: %v, %d", is, e)
	}
	if is, e := spans.Before(sp(4, 4), sp(4, 4)); is || e != api.OK {
		t.Errorf("Before: %v, %d", is, e)
	}
	for _, x := range []struct {
		s, want api.SpSpan
		e       api.Errno
	}{{sp(10, 12), sp(12, 14), api.OK}, {sp(3, 8), sp(3, 10), api.OK}, {sp(4, 8), sp(0, 0), api.ErrNone}, {sp(3, 4), sp(0, 0), api.ErrNone}} {
		if s, e := spans.Shift(x.s, sp(3, 5), 4); s != x.want || e != x.e {
			t.Errorf("Shift(%v): %v, %d", x.s, s, e)
		}
	}
	p, at, e := spans.Nest([]api.SpSpan{sp(0, 9), sp(1, 3), sp(1, 2), sp(4, 8)})
	if !slices.Equal(p, []int{-1, 0, 1, 0}) || at != 0 || e != api.OK {
		t.Errorf("Nest: %v, %d, %d", p, at, e)
	}
}
