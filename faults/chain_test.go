package faults_test

import (
	"cmp"
	"fmt"
	"slices"
	"testing"

	"mummer/api"
	"mummer/faults"
)

// checkChains holds Chain, Roots, Has and First of l against the definitions, and the properties of chains.
func checkChains(t *testing.T, l []api.FtFault, codes []api.Errno) {
	t.Helper()
	roots, e := faults.Roots(l)
	wantInts(t, fmt.Sprint("Roots of ", l), roots, e, rootsOf(l), api.OK)
	inRoots := make([]bool, len(l))
	for i := range l {
		want := chainOf(l, i)
		chain, e := faults.Chain(l, i)
		wantInts(t, fmt.Sprint("Chain of ", i, l), chain, e, want, api.OK)
		if !slices.IsSortedFunc(chain, func(a, b int) int { return cmp.Or(cmp.Compare(b, a), -1) }) || l[chain[len(chain)-1]].Cause != -1 {
			t.Fatalf("Chain(%v, %d): %v does not descend to its end", l, i, chain)
		}
		for _, code := range codes {
			want := slices.ContainsFunc(want, func(k int) bool { return l[k].Code == code })
			if has, e := faults.Has(l, i, code); has != want || e != api.OK {
				t.Fatalf("Has(%v, %d, %d): %v, %d", l, i, code, has, e)
			}
		}
		for _, k := range chain {
			inRoots[k] = inRoots[k] || slices.Contains(roots, i)
		}
	}
	if slices.Contains(inRoots, false) {
		t.Fatalf("Roots(%v): %v; a fault is in no chain of these", l, roots)
	}
	for _, code := range codes {
		want, wantErr := slices.IndexFunc(l, func(f api.FtFault) bool { return f.Code == code }), api.OK
		if want < 0 {
			want, wantErr = 0, api.ErrNone
		}
		if k, e := faults.First(l, code); k != want || e != wantErr {
			t.Fatalf("First(%v, %d): %d, %d; want %d, %d", l, code, k, e, want, wantErr)
		}
	}
	for _, i := range append([]int{-1, len(l), len(l) + 1}, edges...) {
		chain, e := faults.Chain(l, i)
		wantInts(t, fmt.Sprint("Chain of ", i, l), chain, e, nil, api.ErrNone)
		if has, e := faults.Has(l, i, 1); has || e != api.ErrNone {
			t.Fatalf("Has(%v, %d): %v, %d", l, i, has, e)
		}
	}
}

// P8.2, P8.6: all small lists.
func TestChainsSmall(t *testing.T) {
	some := []api.Errno{-1, 0, 1, 2, 3, 998, 999, 1000, api.Errno(edges[0]), api.Errno(edges[len(edges)-1])}
	allLists(4, []api.Errno{1, 2, 999}, func(l []api.FtFault) { checkChains(t, l, some) })
	allLists(6, []api.Errno{2}, func(l []api.FtFault) {
		for i := range l {
			l[i].Code = api.Errno(i%4 + 1)
		}
		checkChains(t, l, []api.Errno{0, 1, 2, 3, 4, 5})
	})
}

// P8.2, P8.6: lists of up to 50 faults, and the longest chain.
func TestChainsGreat(t *testing.T) {
	var all []api.Errno
	for code := range api.Errno(1001) {
		all = append(all, code)
	}
	checkChains(t, manyFaults(50), all)
	var d dice
	for n := range 51 {
		var l []api.FtFault
		for i := range n {
			f := caused(api.Errno(1+d.below(999)), d.below(i+1)-1)
			f.Name = fmt.Sprint("n", d.below(3))
			l = append(l, f)
		}
		checkChains(t, l, all)
	}
}

// P8.2: a code belongs to the fault, not to what else it has.
func TestHasCodeAlone(t *testing.T) {
	l := []api.FtFault{{Code: 7, Pass: 1, Span: sp(2, 3), Name: "5", Cause: -1}, {Code: 7, Pass: 4, Span: sp(2, 3), Name: "fuel", Cause: 0}}
	for code := range api.Errno(10) {
		if has, e := faults.Has(l, 1, code); has != (code == 7) || e != api.OK {
			t.Errorf("Has of %d: %v, %d", code, has, e)
		}
	}
}

// checkOrder fails if Order of l does not have all indices, each pair of neighbours in the order of the chapter.
func checkOrder(t *testing.T, l []api.FtFault) {
	t.Helper()
	order, e := faults.Order(l)
	if len(order) != len(l) || e != api.OK {
		t.Fatalf("Order(%v): %v, %d", l, order, e)
	}
	for k := 1; k < len(order); k++ {
		i, j := order[k-1], order[k]
		a, b := l[i].Span, l[j].Span
		if !(a.From < b.From || a.From == b.From && (a.To < b.To || a.To == b.To && i < j)) {
			t.Fatalf("Order(%v): %v; %d goes after %d", l, order, i, j)
		}
	}
	for i := range l {
		if !slices.Contains(order, i) {
			t.Fatalf("Order(%v): %v; %d is left out", l, order, i)
		}
	}
}

// P8.2: all short lists of small spans; causes and codes make no difference.
func TestOrderSmall(t *testing.T) {
	var grow func(l []api.FtFault)
	grow = func(l []api.FtFault) {
		checkOrder(t, l)
		for _, s := range []api.SpSpan{sp(0, 0), sp(0, 1), sp(0, 2), sp(1, 1), sp(1, 2), sp(2, 2)} {
			if len(l) < 5 {
				f := caused(api.Errno(9-len(l)), len(l)-1)
				f.Span = s
				grow(append(slices.Clone(l), f))
			}
		}
	}
	grow(nil)
}

// P8.2: long lists, with many equal spans, and with spans of long texts.
func TestOrderGreat(t *testing.T) {
	var d dice
	for range 200 {
		for _, size := range []int{1, 3, 100, 8000} {
			var l []api.FtFault
			for range 1 + d.below(50) {
				from := d.below(size + 1)
				l = append(l, at(from, from+d.below(size-from+1)))
			}
			checkOrder(t, l)
		}
	}
}

// P8.2: no faults.
func TestNoFaults(t *testing.T) {
	for _, l := range [][]api.FtFault{nil, {}} {
		checkChains(t, l, []api.Errno{0, 1})
		checkOrder(t, l)
	}
}
