package faults_test

import (
	"fmt"
	"math"
	"slices"
	"strings"
	"testing"

	"mummer/api"
	"mummer/faults"
)

// A flaw makes a fault of 9 bytes, with before faults before it, a wrong one; the flaws of one field exclude each other.
type flaw struct {
	field string
	e     api.Errno
	put   func(f *api.FtFault, before int)
}

// flaws returns flaws of each kind, at the bounds and far from them.
func flaws() []flaw {
	var l []flaw
	add := func(field string, e api.Errno, put func(f *api.FtFault, before int)) {
		l = append(l, flaw{field, e, put})
	}
	for _, n := range append([]int{-1, 0, 1000}, edges...) {
		add("Code", api.ErrRange, func(f *api.FtFault, _ int) { f.Code = api.Errno(n) })
	}
	for _, n := range append([]int{-1, 0, 9}, edges...) {
		add("Pass", api.ErrRange, func(f *api.FtFault, _ int) { f.Pass = n })
	}
	for _, s := range []api.SpSpan{sp(-1, 0), sp(-1, 5), sp(-1, -1), sp(-2, -1), sp(0, -1), sp(1, 0), sp(5, 4), sp(9, 8), sp(9, 10), sp(10, 10), sp(0, 10), sp(10, 9), sp(0, math.MaxInt), sp(math.MaxInt, math.MaxInt), sp(math.MinInt, 9), sp(math.MinInt, math.MaxInt), sp(math.MaxInt, math.MinInt), sp(0, math.MinInt)} {
		add("Span", api.ErrRange, func(f *api.FtFault, _ int) { f.Span = s })
	}
	for _, s := range []string{strings.Repeat("n", 61), strings.Repeat("\n", 61), strings.Repeat("\xff", 61), strings.Repeat("é", 30) + "e", strings.Repeat("€", 20) + "\xc3", strings.Repeat("n", 8000), strings.Repeat("n", 8001)} {
		add("Name", api.ErrLong, func(f *api.FtFault, _ int) { f.Name = s })
	}
	for _, s := range []string{"\xff", "a\x80", "\xc3", "a\xe2\x82", "\xf0\x9f\x98", "\xed\xa0\x80", "\xc0\x80", "\xf4\x90\x80\x80", strings.Repeat("n", 59) + "\xc3", strings.Repeat("n", 59) + "\n", "\n", "\x00", "\x1f", "a\tb", "é\x1f", "\x1f\xff"} {
		add("Name", api.ErrForm, func(f *api.FtFault, _ int) { f.Name = s })
	}
	for _, n := range edges {
		add("Cause", api.ErrNone, func(f *api.FtFault, _ int) { f.Cause = n })
	}
	for more := range 3 {
		add("Cause", api.ErrNone, func(f *api.FtFault, before int) { f.Cause = before + more })
	}
	return l
}

// rank is where an error is in the order of errors of Check.
func rank(e api.Errno) int {
	return slices.Index([]api.Errno{api.ErrRange, api.ErrLong, api.ErrForm, api.ErrNone}, e)
}

// good returns a fault of 9 bytes.
func good() api.FtFault {
	return api.FtFault{Code: 10, Pass: 3, Span: sp(2, 5), Name: "x", Cause: -1}
}

// goods returns faults of 9 bytes, with before faults before them, that have no error.
func goods(before int) []api.FtFault {
	var l []api.FtFault
	add := func(put func(f *api.FtFault)) {
		f := good()
		put(&f)
		l = append(l, f)
	}
	for code := api.Errno(1); code <= 999; code++ {
		add(func(f *api.FtFault) { f.Code = code })
	}
	for pass := 1; pass <= 8; pass++ {
		add(func(f *api.FtFault) { f.Pass = pass })
	}
	for to := range 10 {
		for from := range to + 1 {
			add(func(f *api.FtFault) { f.Span = sp(from, to) })
		}
	}
	for _, s := range []string{"", " ", "a b", "~\x7f", "\u0080\u0085", "é", "𐍈\U0010FFFF", strings.Repeat("n", 60), strings.Repeat(" ", 60), strings.Repeat("é", 30), strings.Repeat("€", 20), strings.Repeat("😀", 15)} {
		add(func(f *api.FtFault) { f.Name = s })
	}
	for cause := -1; cause < before; cause++ {
		add(func(f *api.FtFault) { f.Cause = cause })
	}
	return l
}

func checkCheck(t *testing.T, n int, l []api.FtFault, want int, wantErr api.Errno) {
	t.Helper()
	if k, e := faults.Check(n, l); k != want || e != wantErr {
		t.Fatalf("Check(%d, %.300v): %d, %d; want %d, %d", n, l, k, e, want, wantErr)
	}
}

// P8.1: what is as stated has no error, wherever it stands.
func TestCheckGood(t *testing.T) {
	checkCheck(t, 9, nil, 0, api.OK)
	checkCheck(t, 9, []api.FtFault{}, 0, api.OK)
	for before := range 4 {
		for _, f := range goods(before) {
			l := append(slices.Repeat([]api.FtFault{good()}, before), f, good())
			checkCheck(t, 9, l[:before+1], 0, api.OK)
			checkCheck(t, 9, l, 0, api.OK)
		}
	}
}

// P8.1: each flaw has its error, with the index of its fault; of two flaws of a fault the error that is named first counts.
func TestCheckFlaws(t *testing.T) {
	all := flaws()
	for before := range 4 {
		for _, a := range all {
			f := good()
			a.put(&f, before)
			l := append(slices.Repeat([]api.FtFault{good()}, before), f, good())
			checkCheck(t, 9, l, before, a.e)
			for _, b := range all {
				if a.field == b.field {
					continue
				}
				want := a.e
				if rank(b.e) < rank(a.e) {
					want = b.e
				}
				g := f
				b.put(&g, before)
				l[before] = g
				checkCheck(t, 9, l, before, want)
			}
		}
	}
}

// P8.1: of two faults with flaws the first one counts, whatever the errors are.
func TestCheckFirst(t *testing.T) {
	all := flaws()
	for _, a := range all {
		for _, b := range all {
			l := slices.Repeat([]api.FtFault{good()}, 4)
			a.put(&l[1], 1)
			b.put(&l[3], 3)
			checkCheck(t, 9, l, 1, a.e)
		}
	}
}

// P8.1: a name may have each byte from 32 on in which a rune of one byte is, and none below.
func TestCheckNameBytes(t *testing.T) {
	for c := range 256 {
		want := api.OK
		if c < 32 || c >= 128 {
			want = api.ErrForm
		}
		for _, s := range []string{"%c", "a%c", "%cb", "é%c€"} {
			f := good()
			f.Name = strings.Replace(s, "%c", string([]byte{byte(c)}), 1)
			checkCheck(t, 9, []api.FtFault{f}, 0, want)
		}
	}
}

// P8.1: n is any number of bytes.
func TestCheckBytes(t *testing.T) {
	for _, n := range append([]int{-1, 0, 1, 2, 7999, 8000, 8001, 1 << 40}, edges...) {
		checkCheck(t, n, nil, 0, api.OK)
		for _, s := range []api.SpSpan{sp(0, 0), sp(0, n), sp(n, n), sp(0, n-1), sp(0, n+1), sp(n, n+1)} {
			l := []api.FtFault{at(s.From, s.To)}
			if s.From < 0 || s.To < s.From || s.To > n {
				checkCheck(t, n, l, 0, api.ErrRange)
			} else {
				checkCheck(t, n, l, 0, api.OK)
			}
		}
	}
}

// manyFaults returns n faults, each with a cause if it can have one.
func manyFaults(n int) []api.FtFault {
	l := slices.Repeat([]api.FtFault{at(0, 1)}, n)
	for i := range l {
		l[i].Cause = i - 1
	}
	return l
}

// P8.1: 50 faults are a list, 51 too many, whatever they are.
func TestCheckLimit(t *testing.T) {
	for n := 48; n <= 50; n++ {
		checkCheck(t, 1, manyFaults(n), 0, api.OK)
		l := manyFaults(n)
		l[n-1].Cause = n - 1
		checkCheck(t, 1, l, n-1, api.ErrNone)
	}
	for _, l := range [][]api.FtFault{manyFaults(51), make([]api.FtFault, 51), make([]api.FtFault, 9000)} {
		checkCheck(t, 1, l, 0, api.ErrLong)
		checkCheck(t, -1, l, 0, api.ErrLong)
		checkList(t, l, api.ErrLong)
	}
}

// checkList fails if a function of lists does not return this error, with nothing else, whatever its other argument is.
func checkList(t *testing.T, l []api.FtFault, want api.Errno) {
	t.Helper()
	roots, e := faults.Roots(l)
	wantInts(t, fmt.Sprint("Roots of ", l), roots, e, nil, want)
	order, e := faults.Order(l)
	wantInts(t, fmt.Sprint("Order of ", l), order, e, nil, want)
	for _, i := range append([]int{-1, 0, 1, len(l) - 1, len(l)}, edges...) {
		chain, e := faults.Chain(l, i)
		wantInts(t, fmt.Sprint("Chain of ", i, l), chain, e, nil, want)
		for _, code := range []api.Errno{0, 6, 10, api.Errno(i)} {
			if has, e := faults.Has(l, i, code); has || e != want {
				t.Fatalf("Has(%.300v, %d, %d): %v, %d; want %d", l, i, code, has, e, want)
			}
			if k, e := faults.First(l, code); k != 0 || e != want {
				t.Fatalf("First(%.300v, %d): %d, %d; want %d", l, code, k, e, want)
			}
		}
	}
}

// P8.1: the functions of lists return the error of Check first, for texts of 8000 bytes.
func TestListErrors(t *testing.T) {
	for _, a := range flaws() {
		for before := range 3 {
			l := slices.Repeat([]api.FtFault{good()}, before+1)
			a.put(&l[before], before)
			if _, want := faults.Check(8000, l); want != api.OK {
				checkList(t, l, want)
			} else if a.field != "Span" {
				t.Fatalf("%v is no flaw for 8000 bytes", l[before])
			}
		}
	}
	for _, s := range []api.SpSpan{sp(0, 8001), sp(8000, 8001), sp(8001, 8001), sp(8001, 8000)} {
		checkList(t, []api.FtFault{at(0, 0), at(s.From, s.To)}, api.ErrRange)
	}
	for _, s := range []api.SpSpan{sp(0, 8000), sp(7999, 8000), sp(8000, 8000)} {
		l := []api.FtFault{at(0, 0), at(s.From, s.To)}
		chain, e := faults.Chain(l, 1)
		wantInts(t, "Chain", chain, e, []int{1}, api.OK)
		roots, e := faults.Roots(l)
		wantInts(t, "Roots", roots, e, []int{0, 1}, api.OK)
		order, e := faults.Order(l)
		wantInts(t, "Order", order, e, []int{0, 1}, api.OK)
		if has, e := faults.Has(l, 1, api.ErrForm); !has || e != api.OK {
			t.Errorf("Has: %v, %d", has, e)
		}
		if k, e := faults.First(l, api.ErrForm); k != 0 || e != api.OK {
			t.Errorf("First: %d, %d", k, e)
		}
	}
}
