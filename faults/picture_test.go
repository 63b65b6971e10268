package faults_test

import (
	"bytes"
	"fmt"
	"slices"
	"strings"
	"testing"
	"unicode/utf8"

	"mummer/api"
	"mummer/faults"
	"mummer/runes"
)

func checkPlace(t *testing.T, s string, at int, want spot, wantErr api.Errno) {
	t.Helper()
	if line, column, e := faults.Place([]byte(s), at); (spot{line, column}) != want || e != wantErr {
		t.Fatalf("Place(%.40q, %d): %d, %d, %d; want %v, %d", s, at, line, column, e, want, wantErr)
	}
}

// P8.3, P8.5: each byte of each short text has a place, and its end has one; the places of runes ascend, and after each byte 10 a line begins.
func TestPlaces(t *testing.T) {
	allTexts(5, func(s string) {
		for at, want := range placesOf(s) {
			checkPlace(t, s, at, want, api.OK)
		}
		for _, at := range append([]int{-1, len(s) + 1}, edges...) {
			checkPlace(t, s, at, spot{}, api.ErrRange)
		}
		line, column := 0, 0
		for at, r := range s {
			l, c, _ := faults.Place([]byte(s), at)
			if l < line || l == line && c <= column {
				t.Fatalf("Place(%q, %d): %d, %d; before it was %d, %d", s, at, l, c, line, column)
			}
			line, column = l, c
			if next, first, _ := faults.Place([]byte(s), at+1); r == '\n' && (next != l+1 || first != 1) {
				t.Fatalf("Place(%q, %d): %d, %d; after a byte 10 in line %d", s, at+1, next, first, l)
			}
		}
	})
	checkPlace(t, "", 0, spot{1, 1}, api.OK)
	if line, column, e := faults.Place(nil, 0); line != 1 || column != 1 || e != api.OK {
		t.Errorf("Place of nil: %d, %d, %d", line, column, e)
	}
}

// P8.3: texts of the greatest length.
func TestPlacesLong(t *testing.T) {
	for _, s := range []string{strings.Repeat("a", 8000), strings.Repeat("\n", 8000), strings.Repeat("😀", 2000), strings.Repeat("aé\n€b", 1000)} {
		want := placesOf(s)
		for _, at := range []int{0, 1, 2, 3, 4000, 4001, 4002, 4003, 7996, 7997, 7998, 7999, 8000} {
			checkPlace(t, s, at, want[at], api.OK)
		}
		checkPlace(t, s, 8001, spot{}, api.ErrRange)
	}
}

// badTexts returns texts that are no strings, with the error of runes.Check.
func badTexts() map[string]api.Errno {
	return map[string]api.Errno{
		"\xff": api.ErrForm, "a\n\x80": api.ErrForm, "\xed\xa0\x80": api.ErrForm, "\xc3\n": api.ErrForm, "\xc0\x80": api.ErrForm,
		"\xc3": runes.ErrMore, "ab\n\xf0\x9f": runes.ErrMore,
		strings.Repeat("a", 8001): api.ErrLong, "\xff" + strings.Repeat("a", 8000): api.ErrLong,
	}
}

// P8.3, P8.4: the error of runes.Check goes before all others.
func TestBadTexts(t *testing.T) {
	bad := at(5, 4)
	for s, want := range badTexts() {
		for _, at := range append([]int{-1, 0, 1, len(s), len(s) + 1}, edges...) {
			checkPlace(t, s, at, spot{}, want)
		}
		for _, f := range []api.FtFault{at(0, 0), bad, {}} {
			m, e := faults.Message([]byte(s), f)
			wantText(t, fmt.Sprintf("Message of %.20q", s), m, e, "", want)
		}
		for _, l := range [][]api.FtFault{nil, {at(0, 0)}, {bad}, make([]api.FtFault, 51)} {
			for _, i := range []int{-1, 0, 99} {
				p, e := faults.Picture([]byte(s), l, i)
				wantText(t, fmt.Sprintf("Picture of %.20q", s), p, e, "", want)
			}
		}
	}
}

// checkPicture holds the picture of a fault without a cause against the definition, and its properties.
func checkPicture(t *testing.T, s string, f api.FtFault) {
	t.Helper()
	call := fmt.Sprintf("%.40q, %v", s, f)
	m, e := faults.Message([]byte(s), f)
	wantText(t, "Message of "+call, m, e, messageOf(s, f), api.OK)
	p, e := faults.Picture([]byte(s), []api.FtFault{f}, 0)
	wantText(t, "Picture of "+call, p, e, pictureOf(s, f), api.OK)
	lines := strings.Split(p, "\n")
	if len(lines) != 4 || lines[0] != m || lines[3] != "" {
		t.Fatalf("Picture(%s): %q are no three lines", call, p)
	}
	second, third := []rune(lines[1]), []rune(lines[2])
	if !strings.Contains(s, string(second[2:])) || len(third) > len(second)+1 || len(third) > len(second) && strings.Count(lines[2], "^") != 1 {
		t.Fatalf("Picture(%s): %q", call, p)
	}
}

// P8.4, P8.7: each span of each short text.
func TestPictures(t *testing.T) {
	allTexts(4, func(s string) {
		for to := range len(s) + 1 {
			for from := range to + 1 {
				checkPicture(t, s, at(from, to))
			}
		}
	})
}

// P8.4: the greatest texts.
func TestPicturesLong(t *testing.T) {
	for _, s := range []string{strings.Repeat("a", 8000), strings.Repeat("\n", 8000), strings.Repeat("😀", 2000), strings.Repeat("aé\n€b", 1000)} {
		for _, f := range []api.FtFault{at(0, 8000), at(0, 0), at(8000, 8000), at(1, 7999), at(3999, 4002), at(7999, 8000)} {
			checkPicture(t, s, f)
		}
	}
}

// P8.4: each code, each pass, and names of all kinds.
func TestMessages(t *testing.T) {
	for _, f := range goods(0) {
		checkPicture(t, "ab\nc€ f", f)
		f.Span = sp(3, 3)
		checkPicture(t, "ab\nc€ f", f)
	}
}

// P8.4: a message is that of one fault of this text, whatever its cause is.
func TestMessageErrors(t *testing.T) {
	const s = "123456789"
	for _, a := range flaws() {
		f, want := good(), a.e
		a.put(&f, 0)
		if a.field == "Cause" {
			m, e := faults.Message([]byte(s), f)
			wantText(t, fmt.Sprint("Message of ", f), m, e, "1:3: expand: unbound x", api.OK)
			continue
		}
		for _, cause := range append([]int{-1, 0, 50}, edges...) {
			f.Cause = cause
			m, e := faults.Message([]byte(s), f)
			wantText(t, fmt.Sprint("Message of ", f), m, e, "", want)
		}
	}
	for n := range 5 {
		text := []byte(strings.Repeat("€", n))
		if m, e := faults.Message(text, at(0, 3*n)); e != api.OK {
			t.Errorf("Message of all %d bytes: %q, %d", 3*n, m, e)
		}
		m, e := faults.Message(text, at(0, 3*n+1))
		wantText(t, "Message of more than all", m, e, "", api.ErrRange)
	}
}

// P8.4: the error of Check for the list, with the bytes of the text, goes before ErrNone.
func TestPictureErrors(t *testing.T) {
	const s = "123456789"
	for _, a := range flaws() {
		for before := range 3 {
			l := slices.Repeat([]api.FtFault{good()}, before+2)
			a.put(&l[before], before)
			for _, i := range append([]int{-1, 0, before, before + 1, len(l)}, edges...) {
				p, e := faults.Picture([]byte(s), l, i)
				wantText(t, fmt.Sprint("Picture of ", i, l), p, e, "", a.e)
			}
		}
	}
	for _, i := range append([]int{-1, 0, 50, 51}, edges...) {
		p, e := faults.Picture([]byte(s), make([]api.FtFault, 51), i)
		wantText(t, "Picture of 51 faults", p, e, "", api.ErrLong)
		p, e = faults.Picture([]byte(s), nil, i)
		wantText(t, "Picture of no faults", p, e, "", api.ErrNone)
	}
	for _, i := range append([]int{-1, 2, 3}, edges...) {
		p, e := faults.Picture([]byte(s), []api.FtFault{good(), good()}, i)
		wantText(t, fmt.Sprint("Picture of ", i), p, e, "", api.ErrNone)
	}
}

// P8.4: the pictures of a chain, from the fault on to what it comes from; what is not in the chain is left out.
func TestPicturesOfChains(t *testing.T) {
	const s = "aé\n\n€\r\nb😀"
	var d dice
	check := func(l []api.FtFault, s string) {
		for i := range l {
			want := ""
			for _, k := range chainOf(l, i) {
				want += pictureOf(s, l[k])
			}
			p, e := faults.Picture([]byte(s), l, i)
			wantText(t, fmt.Sprint("Picture of ", i, l), p, e, want, api.OK)
		}
	}
	allLists(5, []api.Errno{2}, func(l []api.FtFault) {
		for i := range l {
			from := d.below(len(s) + 1)
			l[i] = api.FtFault{Code: api.Errno(1 + d.below(30)), Pass: 1 + d.below(8), Span: sp(from, from+d.below(len(s)-from+1)), Name: []string{"", "x", "é b"}[d.below(3)], Cause: l[i].Cause}
		}
		check(l, s)
	})
	check(manyFaults(50), s)
	check(manyFaults(50), strings.Repeat("😀", 2000))
}

// P8.8, R3: arguments stay as they are, and what is done to one result is not seen in another one.
func TestFreshMemory(t *testing.T) {
	b := []byte("abé\ncd")
	l := []api.FtFault{{Code: 10, Pass: 3, Span: sp(2, 4), Name: "x", Cause: -1}, {Code: 14, Pass: 3, Span: sp(5, 7), Cause: 0}, {Code: 6, Pass: 1, Span: sp(0, 1), Cause: 0}}
	oldB, oldL := bytes.Clone(b), slices.Clone(l)
	for range 2 {
		chain, _ := faults.Chain(l, 1)
		roots, _ := faults.Roots(l)
		order, _ := faults.Order(l)
		if !slices.Equal(chain, []int{1, 0}) || !slices.Equal(roots, []int{1, 2}) || !slices.Equal(order, []int{2, 0, 1}) {
			t.Errorf("results have changed: %v, %v, %v", chain, roots, order)
		}
		clear(chain)
		clear(roots)
		clear(order)
		faults.Check(7, l)
		faults.Has(l, 2, 10)
		faults.First(l, 6)
		faults.Place(b, 3)
		if !bytes.Equal(b, oldB) || !slices.Equal(l, oldL) {
			t.Errorf("arguments have changed: %q, %v", b, l)
		}
	}
	picture, _ := faults.Picture(b, l, 1)
	message, _ := faults.Message(b, l[0])
	if !bytes.Equal(b, oldB) || !slices.Equal(l, oldL) {
		t.Errorf("arguments have changed: %q, %v", b, l)
	}
	clear(b)
	if message != "1:3: expand: unbound x" || picture != "2:1: expand: match\n  cd\n  ^^\n1:3: expand: unbound x\n  abé\n    ^\n" {
		t.Errorf("texts have changed: %q, %q", message, picture)
	}
}

// P8.8: any bytes are accepted, and have the error of runes.Check, or a place and a picture everywhere.
func TestAnyBytes(t *testing.T) {
	var d dice
	for range 2000 {
		b := make([]byte, d.below(6))
		for i := range b {
			b[i] = []byte("a\n\xc3\xa9\xe2\x82\xac\xff")[d.below(8)]
		}
		if utf8.Valid(b) {
			checkPicture(t, string(b), at(d.below(len(b)+1), len(b)))
			continue
		}
		_, want := runes.Check(b)
		checkPlace(t, string(b), 0, spot{}, want)
		p, e := faults.Picture(b, manyFaults(1), 0)
		wantText(t, fmt.Sprintf("Picture of %q", b), p, e, "", want)
	}
}

// The examples of the chapter.
func TestExamples(t *testing.T) {
	b := []byte{97, 98, 195, 169, 10, 99, 100}
	f := api.FtFault{Code: 10, Pass: 3, Span: sp(2, 4), Name: "x", Cause: -1}
	g := api.FtFault{Code: 14, Pass: 3, Span: sp(5, 7), Cause: 0}
	l := []api.FtFault{f, g}
	for at, want := range map[int]spot{2: {1, 3}, 3: {1, 3}, 4: {1, 4}, 5: {2, 1}, 7: {2, 3}} {
		checkPlace(t, string(b), at, want, api.OK)
	}
	s, e := faults.Message(b, f)
	wantText(t, "Message", s, e, "1:3: expand: unbound x", api.OK)
	s, e = faults.Picture(b, l, 1)
	wantText(t, "Picture", s, e, "2:1: expand: match\n  cd\n  ^^\n1:3: expand: unbound x\n  abé\n    ^\n", api.OK)
	chain, e := faults.Chain(l, 1)
	wantInts(t, "Chain", chain, e, []int{1, 0}, api.OK)
	roots, e := faults.Roots(l)
	wantInts(t, "Roots", roots, e, []int{1}, api.OK)
	if has, e := faults.Has(l, 1, 10); !has || e != api.OK {
		t.Errorf("Has: %v, %d", has, e)
	}
	if k, e := faults.First(l, 14); k != 1 || e != api.OK {
		t.Errorf("First: %d, %d", k, e)
	}
	order, e := faults.Order(l)
	wantInts(t, "Order", order, e, []int{0, 1}, api.OK)
	s, e = faults.Word(16)
	wantText(t, "Word", s, e, "letrec", api.OK)
	s, e = faults.Word(240)
	wantText(t, "Word", s, e, "error 240", api.OK)
	s, e = faults.Pass(9)
	wantText(t, "Pass", s, e, "", api.ErrArg)
}
