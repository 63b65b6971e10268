package words

import (
	"strings"

	"mummer/api"
)

// List returns the list expression of l.
func List(l []int) (string, api.Errno) {
	if len(l) > api.MaxListed {
		return "", api.ErrLong
	}
	for _, n := range l {
		if n < 0 || n > api.MaxNumber {
			return "", api.ErrRange
		}
	}
	for i := 1; i < len(l); i++ {
		if l[i-1] >= l[i] {
			return "", api.ErrForm
		}
	}
	if len(l) == 0 {
		return "-", api.OK
	}
	var b []string
	for from := 0; from < len(l); {
		to := runEnd(l, from)
		b = append(b, runText(l[from], l[to-1]))
		from = to
	}
	return strings.Join(b, ","), api.OK
}

// runEnd is where the run of consecutive integers of l that begins at from ends.
func runEnd(l []int, from int) int {
	to := from + 1
	for to < len(l) && l[to] == l[to-1]+1 {
		to++
	}
	return to
}

func runText(first, last int) string {
	if first == last {
		return Digits(int64(first))
	}
	return Digits(int64(first)) + "-" + Digits(int64(last))
}

// ParseList returns the list whose list expression is s.
func ParseList(s string) ([]int, api.Errno) {
	if s == "-" {
		return nil, api.OK
	}
	runs, ok := readRuns(s)
	if !ok {
		return nil, api.ErrForm
	}
	// The integers ascend, so no other one is greater than the last one.
	if greater(runs[len(runs)-1].last, Digits(api.MaxNumber)) {
		return nil, api.ErrRange
	}
	var l []int
	for _, r := range runs {
		first, last := r.ends()
		if len(l)+last-first >= api.MaxListed {
			return nil, api.ErrLong
		}
		for n := first; n <= last; n++ {
			l = append(l, n)
		}
	}
	return l, api.OK
}

// run is the decimal forms of the first and the last integer of a run.
type run struct{ first, last string }

// ends returns the first and the last integer of a run that has none above MaxNumber.
func (r run) ends() (first, last int) {
	from, _ := Int(r.first, 0, api.MaxNumber)
	to, _ := Int(r.last, 0, api.MaxNumber)
	return int(from), int(to)
}

// readRuns reads the maximal runs of a list that is not empty, with integers of any size.
func readRuns(s string) ([]run, bool) {
	var runs []run
	for i, text := range strings.Split(s, ",") {
		r, ok := readRun(text)
		// Integers that follow the run before at once would belong to it.
		if !ok || i > 0 && !greater(r.first, successor(runs[i-1].last)) {
			return nil, false
		}
		runs = append(runs, r)
	}
	return runs, true
}

func readRun(text string) (r run, ok bool) {
	first, last, long := strings.Cut(text, "-")
	if !long {
		return run{first, first}, natural(first)
	}
	return run{first, last}, natural(first) && natural(last) && greater(last, first)
}

// greater compares two integers by their decimal forms, which may be longer than any integer type allows.
func greater(a, b string) bool {
	if len(a) != len(b) {
		return len(a) > len(b)
	}
	return a > b
}

// successor returns the decimal form of the integer after the one of s.
func successor(s string) string {
	head := strings.TrimRight(s, "9")
	nines := len(s) - len(head)
	last := len(head) - 1
	if last < 0 {
		return "1" + strings.Repeat("0", nines)
	}
	return head[:last] + string([]byte{head[last] + 1}) + strings.Repeat("0", nines)
}
