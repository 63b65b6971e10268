package spans_test

import (
	"bytes"
	"math"
	"slices"
	"strings"
	"testing"

	"mummer/api"
	"mummer/runes"
	"mummer/spans"
)

// allTexts calls f with all texts of at most n of the pieces.
func allTexts(n int, f func(string)) {
	var grow func(s string, left int)
	grow = func(s string, left int) {
		f(s)
		for _, p := range []string{"a", "\n", "\r", "é", "€", "😀"} {
			if left > 0 {
				grow(s+p, left-1)
			}
		}
	}
	grow("", n)
}

// placesOf returns the place of each start of s, by a walk over its runes.
func placesOf(s string) map[int][2]int {
	m := map[int][2]int{}
	line, column := 1, 1
	for at, r := range s {
		m[at] = [2]int{line, column}
		column++
		if r == '\n' {
			line, column = line+1, 1
		}
	}
	m[len(s)] = [2]int{line, column}
	return m
}

func checkPlace(t *testing.T, s string, at int, want [2]int, wantErr api.Errno) {
	t.Helper()
	if line, column, e := spans.Place([]byte(s), at); [2]int{line, column} != want || e != wantErr {
		t.Errorf("Place(%.40q, %d): %d, %d, %d; want %v, %d", s, at, line, column, e, want, wantErr)
	}
}

func checkAt(t *testing.T, s string, place [2]int, want int, wantErr api.Errno) {
	t.Helper()
	if at, e := spans.At([]byte(s), place[0], place[1]); at != want || e != wantErr {
		t.Errorf("At(%.40q, %v): %d, %d; want %d, %d", s, place, at, e, want, wantErr)
	}
}

// P3.5, P3.9: each start of each short text has a place, which leads back; no other index, and no other place, leads anywhere.
func TestPlaces(t *testing.T) {
	edges := []int{math.MinInt, math.MinInt + 1, -1, 0, math.MaxInt - 1, math.MaxInt}
	allTexts(5, func(s string) {
		places, starts := placesOf(s), map[[2]int]int{}
		for at := -1; at <= len(s)+1; at++ {
			place, ok := places[at]
			switch {
			case ok:
				starts[place] = at
				checkPlace(t, s, at, place, api.OK)
			case at < 0 || at > len(s):
				checkPlace(t, s, at, place, api.ErrRange)
			default:
				checkPlace(t, s, at, place, api.ErrForm)
			}
		}
		for line := range 8 {
			for column := range 8 {
				place := [2]int{line, column}
				if at, ok := starts[place]; ok {
					checkAt(t, s, place, at, api.OK)
				} else {
					checkAt(t, s, place, 0, api.ErrNone)
				}
			}
		}
	})
	for _, x := range edges {
		if x != 0 {
			checkPlace(t, "ab\nc", x, [2]int{}, api.ErrRange)
		}
		for _, place := range [][2]int{{x, 1}, {1, x}, {x, x}, {3, x}, {x, 9}} {
			checkAt(t, "ab\nc", place, 0, api.ErrNone)
		}
	}
}

// P3.5, P3.9: lines lie between the bytes 10, and make the text with them.
func TestLines(t *testing.T) {
	allTexts(5, func(s string) {
		l, e := spans.Lines([]byte(s))
		var parts []string
		for i, line := range l {
			if spans.Check(len(s), line) != api.OK || i == 0 && line.From != 0 || i > 0 && line.From != l[i-1].To+1 || i == len(l)-1 && line.To != len(s) {
				t.Fatalf("Lines(%q): %v", s, l)
			}
			parts = append(parts, s[line.From:line.To])
		}
		if !slices.Equal(parts, strings.Split(s, "\n")) || strings.Join(parts, "\n") != s || e != api.OK {
			t.Errorf("Lines(%q): %v, %d", s, l, e)
		}
	})
	for s, want := range map[string][]api.SpSpan{"": {sp(0, 0)}, "\n": {sp(0, 0), sp(1, 1)}, "a\n": {sp(0, 1), sp(2, 2)}, "\r\n€": {sp(0, 1), sp(2, 5)}} {
		if l, e := spans.Lines([]byte(s)); !slices.Equal(l, want) || e != api.OK {
			t.Errorf("Lines(%q): %v, %d", s, l, e)
		}
	}
	if l, e := spans.Lines(nil); !slices.Equal(l, []api.SpSpan{sp(0, 0)}) || e != api.OK {
		t.Errorf("Lines of nil: %v, %d", l, e)
	}
	if l, e := spans.Lines(bytes.Repeat([]byte("\n"), 8000)); len(l) != 8001 || l[8000] != sp(8000, 8000) || e != api.OK {
		t.Errorf("Lines of 8000 bytes 10: %d, %d", len(l), e)
	}
}

// P3.5: each span of each short text is cut, unless a rune would be.
func TestCut(t *testing.T) {
	allTexts(3, func(s string) {
		starts := placesOf(s)
		for from := -1; from <= len(s)+1; from++ {
			for to := -1; to <= len(s)+1; to++ {
				_, first := starts[from]
				_, last := starts[to]
				want, wantErr := "", spans.Check(len(s), sp(from, to))
				if wantErr == api.OK && !(first && last) {
					wantErr = api.ErrForm
				} else if wantErr == api.OK {
					want = s[from:to]
				}
				if got, e := spans.Cut([]byte(s), sp(from, to)); got != want || e != wantErr {
					t.Errorf("Cut(%q, %d-%d): %q, %d; want %q, %d", s, from, to, got, e, want, wantErr)
				}
			}
		}
	})
	for _, x := range []struct {
		s    api.SpSpan
		want api.Errno
	}{
		{sp(0, math.MaxInt), api.ErrRange}, {sp(math.MaxInt, math.MaxInt), api.ErrRange}, {sp(0, most), api.ErrRange}, {sp(0, most+1), api.ErrRange}, {sp(1, 3), api.ErrRange}, {sp(2, 1), api.ErrForm},
		{sp(math.MinInt, 0), api.ErrForm}, {sp(math.MinInt, math.MaxInt), api.ErrForm}, {sp(math.MaxInt, 0), api.ErrForm}, {sp(1, 1), api.ErrForm}, {sp(1, 2), api.ErrForm}, {sp(0, 1), api.ErrForm},
	} {
		if got, e := spans.Cut([]byte("é"), x.s); got != "" || e != x.want {
			t.Errorf("Cut(é, %v): %q, %d; want %d", x.s, got, e, x.want)
		}
	}
}

// P3.5: the error of runes.Check goes before all others.
func TestBadTexts(t *testing.T) {
	for _, x := range []struct {
		s string
		e api.Errno
	}{
		{"\xff", api.ErrForm}, {"a\n\x80", api.ErrForm}, {"\xed\xa0\x80", api.ErrForm}, {"\xc3", runes.ErrMore}, {"ab\n\xf0\x9f", runes.ErrMore}, {"\xc3\n", api.ErrForm},
		{strings.Repeat("a", 8001), api.ErrLong}, {"\xff" + strings.Repeat("a", 8000), api.ErrLong},
	} {
		if l, e := spans.Lines([]byte(x.s)); len(l) > 0 || e != x.e {
			t.Errorf("Lines(%.40q): %v, %d", x.s, l, e)
		}
		for _, at := range []int{0, 1, -1, 9000} {
			checkPlace(t, x.s, at, [2]int{}, x.e)
			checkAt(t, x.s, [2]int{1, at}, 0, x.e)
			checkAt(t, x.s, [2]int{at, 1}, 0, x.e)
			for _, s := range []api.SpSpan{sp(0, at), sp(at, 0), sp(at, at)} {
				if got, e := spans.Cut([]byte(x.s), s); got != "" || e != x.e {
					t.Errorf("Cut(%.40q, %v): %q, %d", x.s, s, got, e)
				}
			}
		}
	}
}

// P3.5: texts of the greatest length.
func TestLongTexts(t *testing.T) {
	smiles := strings.Repeat("😀", 1999) + "abc\n"
	checkPlace(t, smiles, 7996, [2]int{1, 2000}, api.OK)
	checkPlace(t, smiles, 7999, [2]int{1, 2003}, api.OK)
	checkPlace(t, smiles, 8000, [2]int{2, 1}, api.OK)
	checkPlace(t, smiles, 7995, [2]int{}, api.ErrForm)
	checkPlace(t, smiles, 8001, [2]int{}, api.ErrRange)
	checkAt(t, smiles, [2]int{1, 2003}, 7999, api.OK)
	checkAt(t, smiles, [2]int{1, 2004}, 0, api.ErrNone)
	checkAt(t, smiles, [2]int{2, 1}, 8000, api.OK)
	if got, e := spans.Cut([]byte(smiles), sp(0, 8000)); got != smiles || e != api.OK {
		t.Errorf("Cut of all: %d bytes, %d", len(got), e)
	}
}

// P3.5: the examples of the chapter.
func TestPlaceExamples(t *testing.T) {
	s := string([]byte{97, 98, 10, 99, 195, 169, 100})
	checkPlace(t, s, 5, [2]int{}, api.ErrForm)
	checkPlace(t, s, 6, [2]int{2, 3}, api.OK)
	checkPlace(t, s, 0, [2]int{1, 1}, api.OK)
	checkAt(t, s, [2]int{2, 3}, 6, api.OK)
	checkAt(t, s, [2]int{1, 4}, 0, api.ErrNone)
	if l, e := spans.Lines([]byte(s)); !slices.Equal(l, []api.SpSpan{sp(0, 2), sp(3, 7)}) || e != api.OK {
		t.Errorf("Lines: %v, %d", l, e)
	}
}

// R3: arguments stay as they are, and what is done to one result is not seen in another one.
func TestFreshMemory(t *testing.T) {
	b, l := []byte("a\nbé"), []api.SpSpan{sp(0, 9), sp(1, 3), sp(1, 2), sp(4, 8)}
	oldB, oldL := bytes.Clone(b), slices.Clone(l)
	text, _ := spans.Cut(b, sp(2, 5))
	for range 2 {
		lines, _ := spans.Lines(b)
		parents, _, _ := spans.Nest(l)
		cover, _ := spans.Cover(l)
		if !slices.Equal(lines, []api.SpSpan{sp(0, 1), sp(2, 5)}) || !slices.Equal(parents, []int{-1, 0, 1, 0}) || cover != sp(0, 9) {
			t.Errorf("results have changed: %v, %v, %v", lines, parents, cover)
		}
		clear(lines)
		clear(parents)
		if !bytes.Equal(b, oldB) || !slices.Equal(l, oldL) {
			t.Errorf("arguments have changed: %q, %v", b, l)
		}
	}
	clear(b)
	if text != "bé" {
		t.Errorf("a string that was cut has changed: %q", text)
	}
}
