package words_test

import (
	"math"
	"math/big"
	"slices"
	"strconv"
	"strings"
	"testing"

	"mummer/api"
	"mummer/words"
)

func checkList(t *testing.T, l []int, want string, e api.Errno) {
	t.Helper()
	if s, got := words.List(l); s != want || got != e {
		t.Errorf("List(%.60v) (%d numbers): %.60s, %d; want %.60s, %d", l, len(l), s, got, want, e)
	}
}

func checkParse(t *testing.T, s string, want []int, e api.Errno) {
	t.Helper()
	if l, got := words.ParseList(s); !slices.Equal(l, want) || got != e {
		t.Errorf("ParseList(%.60q): %.60v, %d; want %.60v, %d", s, l, got, want, e)
	}
}

// expression writes a set of numbers as the chapter says it: a number ends a run if the next one is not there.
func expression(in func(int) bool, high int) string {
	s := ""
	for n := 0; n <= high; n++ {
		if !in(n) {
			continue
		}
		if n > 0 && in(n-1) {
			if !in(n + 1) {
				s += "-" + strconv.Itoa(n)
			}
		} else if s != "" {
			s += "," + strconv.Itoa(n)
		} else {
			s = strconv.Itoa(n)
		}
	}
	if s == "" {
		return "-"
	}
	return s
}

// P1.6, P1.7: each set of small numbers, across the step from one digit to two.
func TestListSets(t *testing.T) {
	for set := range 1 << 13 {
		in := func(n int) bool { return set>>n&1 == 1 }
		var l []int
		for n := range 13 {
			if in(n) {
				l = append(l, n)
			}
		}
		s := expression(in, 13)
		checkList(t, l, s, api.OK)
		checkParse(t, s, l, api.OK)
	}
}

// P1.6: the examples, and large numbers.
func TestListForms(t *testing.T) {
	for s, l := range map[string][]int{
		"-":                              nil,
		"0":                              {0},
		"1-3,5,8-9":                      {1, 2, 3, 5, 8, 9},
		"0,2,1000000000":                 {0, 2, 1000000000},
		"9-11,98-100,102":                {9, 10, 11, 98, 99, 100, 102},
		"7,999999998-1000000000":         {7, 999999998, 999999999, 1000000000},
		"99998-100001,199999-200000":     {99998, 99999, 100000, 100001, 199999, 200000},
		"1,10,100,1000,1000000,10000000": {1, 10, 100, 1000, 1000000, 10000000},
	} {
		checkList(t, l, s, api.OK)
		checkParse(t, s, l, api.OK)
	}
	checkList(t, []int{}, "-", api.OK)
	var most []int
	for n := range 500 {
		most = append(most, 1000000000-2*(499-n))
	}
	s, e := words.List(most)
	if e != api.OK || strings.Count(s, ",") != 499 {
		t.Errorf("List of 500 numbers: %d", e)
	}
	checkParse(t, s, most, api.OK)
}

// P1.6: the limits of List, and which error goes first.
func TestListErrors(t *testing.T) {
	ascending := func(n int) []int {
		var l []int
		for i := range n {
			l = append(l, i)
		}
		return l
	}
	checkList(t, ascending(500), "0-499", api.OK)
	for _, x := range []struct {
		l []int
		e api.Errno
	}{
		{ascending(501), api.ErrLong}, {make([]int, 501), api.ErrLong}, {make([]int, 500), api.ErrForm}, {append(ascending(500), -1), api.ErrLong}, {append(ascending(499), -1), api.ErrRange}, {append(ascending(499), 0), api.ErrForm},
		{[]int{-1}, api.ErrRange}, {[]int{-1, 0}, api.ErrRange}, {[]int{1000000001}, api.ErrRange}, {[]int{math.MaxInt}, api.ErrRange}, {[]int{math.MinInt}, api.ErrRange}, {[]int{0, 1000000000, 1000000001}, api.ErrRange},
		{[]int{2, 1}, api.ErrForm}, {[]int{1, 1}, api.ErrForm}, {[]int{1, 2, 3, 2}, api.ErrForm}, {[]int{2, 1, -1}, api.ErrRange}, {[]int{2, 1, 1000000001}, api.ErrRange}, {[]int{1000000000, 0}, api.ErrForm},
	} {
		checkList(t, x.l, "", x.e)
	}
}

// P1.6: the limits of ParseList, and which error goes first.
func TestParseListErrors(t *testing.T) {
	nines := strings.Repeat("9", 30)
	after := "1" + strings.Repeat("0", 30)
	later := "1" + strings.Repeat("0", 29) + "1"
	for s, e := range map[string]api.Errno{
		"": api.ErrForm, ",": api.ErrForm, "--": api.ErrForm, "-,": api.ErrForm, "-,1": api.ErrForm, "1,-": api.ErrForm, "1,": api.ErrForm, ",1": api.ErrForm, "1,,3": api.ErrForm,
		"1-3,4": api.ErrForm, "3-3": api.ErrForm, "2,1": api.ErrForm, "1,1": api.ErrForm, "1,2": api.ErrForm, "3-2": api.ErrForm, "1-2-3": api.ErrForm, "1-2,3-4": api.ErrForm, "1-3,2-5": api.ErrForm, "5-6,1-2": api.ErrForm,
		"01": api.ErrForm, "00": api.ErrForm, "0-01": api.ErrForm, "-1": api.ErrForm, "1-": api.ErrForm, "1--2": api.ErrForm, "-1-2": api.ErrForm, "+1": api.ErrForm, "1 ": api.ErrForm, "1, 3": api.ErrForm, "1-x": api.ErrForm, "x": api.ErrForm,
		"9,10": api.ErrForm, "99,100": api.ErrForm, "8-9,10": api.ErrForm, "199,200": api.ErrForm, "19,20-21": api.ErrForm, "1099,1100": api.ErrForm,
		"1000000001": api.ErrRange, "0,1000000001": api.ErrRange, "1000000000-1000000001": api.ErrRange, "999999999,1000000001": api.ErrRange, "5000000000": api.ErrRange, "18446744073709551616": api.ErrRange, "18446744073709551616,18446744073709551618": api.ErrRange,
		"0-499,501": api.ErrLong, "0-500": api.ErrLong, "0-600": api.ErrLong, "0,2-501": api.ErrLong, "0-1000000000": api.ErrLong, "500000000-1000000000": api.ErrLong,
		// The form goes first, then the range.
		"0-600,5": api.ErrForm, "0-600,601": api.ErrForm, "0-600,x": api.ErrForm, "1000000001,2": api.ErrForm, "1000000001,1000000002": api.ErrForm, "1000000001-1000000001": api.ErrForm, "0-1000000001": api.ErrRange, "0-600,1000000001": api.ErrRange,
		nines: api.ErrRange, nines + "," + after: api.ErrForm, nines + "-" + after: api.ErrRange, nines + "," + later: api.ErrRange, after + "," + nines: api.ErrForm, after + "-" + nines: api.ErrForm, nines + "-" + nines: api.ErrForm, "5," + after + "-" + later: api.ErrRange, "0" + nines: api.ErrForm, "-" + nines: api.ErrForm,
	} {
		checkParse(t, s, nil, e)
	}
	for s, n := range map[string]int{"0-499": 500, "0-498,500": 500, "999999501-1000000000": 500, "0,2-500": 500} {
		if l, e := words.ParseList(s); len(l) != n || e != api.OK {
			t.Errorf("ParseList(%s): %d numbers, %d", s, len(l), e)
		}
	}
	var odd []string
	for n := range 501 {
		odd = append(odd, strconv.Itoa(2*n+1))
	}
	checkParse(t, strings.Join(odd, ","), nil, api.ErrLong)
	checkParse(t, strings.Join(odd, ",")+",1002", nil, api.ErrForm)
	if l, e := words.ParseList(strings.Join(odd[:500], ",")); len(l) != 500 || e != api.OK {
		t.Errorf("ParseList of 500 odd numbers: %d, %d", len(l), e)
	}
}

// P1.6: numbers around powers of ten, of any size, belong to one run or do not ascend.
func TestParseListLarge(t *testing.T) {
	for size := range 40 {
		ten := new(big.Int).Exp(big.NewInt(10), big.NewInt(int64(size)), nil)
		for a := int64(-2); a <= 2; a++ {
			for b := int64(-2); b <= 2; b++ {
				x, y := new(big.Int).Add(ten, big.NewInt(a)), new(big.Int).Add(ten, big.NewInt(b))
				if x.Sign() < 0 || y.Sign() < 0 {
					continue
				}
				apart := api.OK
				if y.Cmp(big.NewInt(api.MaxNumber)) > 0 {
					apart = api.ErrRange
				}
				joined := apart
				if b <= a+1 {
					apart = api.ErrForm
				}
				if b <= a {
					joined = api.ErrForm
				}
				if _, e := words.ParseList(x.String() + "," + y.String()); e != apart {
					t.Errorf("ParseList(%d,%d): %d, want %d", x, y, e, apart)
				}
				if _, e := words.ParseList(x.String() + "-" + y.String()); e != joined {
					t.Errorf("ParseList(%d-%d): %d, want %d", x, y, e, joined)
				}
			}
		}
	}
}

// P1.6, P1.7: what ParseList takes is exactly what List gives.
func TestParseListAll(t *testing.T) {
	allStrings("0129,-x", 6, func(s string) {
		l, e := words.ParseList(s)
		switch e {
		case api.OK:
			checkList(t, l, s, api.OK)
		case api.ErrLong:
			if len(l) > 0 || !strings.Contains(s, "-") {
				t.Errorf("ParseList(%q): %v, %d", s, l, e)
			}
		case api.ErrForm:
			if len(l) > 0 {
				t.Errorf("ParseList(%q): %v, %d", s, l, e)
			}
		default:
			t.Errorf("ParseList(%q): %d", s, e)
		}
	})
}
