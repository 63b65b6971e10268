package runes_test

import (
	"bytes"
	"math"
	"slices"
	"testing"
	"unicode/utf8"

	"mummer/api"
	"mummer/runes"
)

// wanted returns the bytes of r as the table of the chapter has them, nil if r is no rune.
func wanted(r int32) []byte {
	if r < 0 || r > 1114111 || r >= 55296 && r <= 57343 {
		return nil
	}
	w, z, y, x := byte(r%64), byte(r/64%64), byte(r/4096%64), byte(r/262144)
	switch {
	case r <= 127:
		return []byte{byte(r)}
	case r <= 2047:
		return []byte{192 + byte(r/64), 128 + w}
	case r <= 65535:
		return []byte{224 + byte(r/4096), 128 + z, 128 + w}
	}
	return []byte{240 + x, 128 + y, 128 + z, 128 + w}
}

// P2.1, P2.5: every rune has its bytes, and is read back from them.
func TestEveryRune(t *testing.T) {
	for r := int32(-300); r < 1114400; r++ {
		want := wanted(r)
		b, e := runes.Encode(r)
		if want == nil {
			if len(b) > 0 || e != api.ErrRange {
				t.Fatalf("Encode(%d): %v, %d; want ErrRange", r, b, e)
			}
			continue
		}
		if !bytes.Equal(b, want) || e != api.OK {
			t.Fatalf("Encode(%d): %v, %d; want %v", r, b, e, want)
		}
		if !utf8.Valid(b) || !bytes.Equal(b, []byte(string(r))) {
			t.Fatalf("Encode(%d) is not Go's form: %v", r, b)
		}
		if got, width, e := runes.Decode(b, 0); got != r || width != len(b) || e != api.OK {
			t.Fatalf("Decode of Encode(%d): %d, %d, %d", r, got, width, e)
		}
	}
	for _, r := range []int32{math.MinInt32, math.MinInt32 + 65, math.MaxInt32, math.MaxInt32 - 1, 1 << 21, 1<<21 + 65, 1 << 26} {
		if b, e := runes.Encode(r); len(b) > 0 || e != api.ErrRange {
			t.Errorf("Encode(%d): %v, %d", r, b, e)
		}
	}
}

// beginnings returns the proper beginnings of the bytes of all runes, and all of these bytes with their runes.
func beginnings() (more map[string]bool, whole map[string]int32) {
	more, whole = map[string]bool{}, map[string]int32{}
	for r := int32(0); r <= 1114111; r++ {
		b := wanted(r)
		if b == nil {
			continue
		}
		whole[string(b)] = r
		for n := 1; n < len(b); n++ {
			more[string(b[:n])] = true
		}
	}
	return more, whole
}

// P2.1, P2.5: Decode of strings that hold all first and second bytes, and later bytes at the bounds of what they may be.
func TestDecodeAll(t *testing.T) {
	more, whole := beginnings()
	check := func(s string) {
		var want int32
		width, wantErr := 0, api.ErrForm
		if more[s] {
			wantErr = runes.ErrMore
		}
		for n := 1; n <= len(s); n++ {
			if r, ok := whole[s[:n]]; ok {
				want, width, wantErr = r, n, api.OK
			}
		}
		for _, before := range []string{"", "\xf0\x9f"} {
			r, n, e := runes.Decode([]byte(before+s), len(before))
			if r != want || n != width || e != wantErr {
				t.Fatalf("Decode(%x) after %x: %d, %d, %d; want %d, %d, %d", s, before, r, n, e, want, width, wantErr)
			}
		}
	}
	later := []byte{'a', 127, 128, 143, 160, 191, 192}
	for a := range 256 {
		check(string([]byte{byte(a)}))
		for b := range 256 {
			check(string([]byte{byte(a), byte(b)}))
			for _, c := range later {
				check(string([]byte{byte(a), byte(b), c}))
				for _, d := range later {
					check(string([]byte{byte(a), byte(b), c, d}))
				}
			}
		}
	}
}

// P2.1: at must be the index of a byte, whatever the bytes are.
func TestDecodeRange(t *testing.T) {
	for _, x := range []struct {
		s    string
		at   int
		want api.Errno
	}{
		{"", 0, api.ErrRange}, {"", -1, api.ErrRange}, {"", 1, api.ErrRange}, {"a", 1, api.ErrRange}, {"a", 0, api.OK}, {"a", -1, api.ErrRange},
		{"\xff", 1, api.ErrRange}, {"\xc3", 1, api.ErrRange}, {"a", math.MaxInt, api.ErrRange}, {"a", math.MinInt, api.ErrRange}, {"\xc3\xa9", 1, api.ErrForm},
	} {
		r, n, e := runes.Decode([]byte(x.s), x.at)
		if e != x.want || e != api.OK && (r != 0 || n != 0) {
			t.Errorf("Decode(%x, %d): %d, %d, %d", x.s, x.at, r, n, e)
		}
	}
	if _, _, e := runes.Decode(nil, 0); e != api.ErrRange {
		t.Errorf("Decode of nil: %d", e)
	}
}

// P2.4: the class of every number, from a list of what each class has.
func TestClass(t *testing.T) {
	listed := map[int32]int{}
	for class, s := range map[int]string{api.RuSpace: " \t\n\r", api.RuOpen: "([", api.RuClose: ")]", api.RuQuote: "'", api.RuHash: "#", api.RuSemi: ";", api.RuDigit: "0123456789", api.RuSign: "+-", api.RuLetter: "!$%&*/:<=>?^_~.@"} {
		for _, r := range s {
			listed[r] = class
		}
	}
	for r := int32('a'); r <= 'z'; r++ {
		listed[r], listed[r-32] = api.RuLetter, api.RuLetter
	}
	for r := int32(-300); r < 1114400; r++ {
		want, wantErr := api.RuOther, api.OK
		if wanted(r) == nil {
			want, wantErr = 0, api.ErrRange
		} else if r >= 161 {
			want = api.RuLetter
		} else if c, ok := listed[r]; ok {
			want = c
		}
		if c, e := runes.Class(r); c != want || e != wantErr {
			t.Fatalf("Class(%d): %d, %d; want %d, %d", r, c, e, want, wantErr)
		}
	}
	for _, r := range []int32{math.MinInt32, math.MaxInt32, math.MinInt32 + 'a', 1<<24 + 'a'} {
		if c, e := runes.Class(r); c != 0 || e != api.ErrRange {
			t.Errorf("Class(%d): %d, %d", r, c, e)
		}
	}
}

// The examples of the chapter.
func TestExamples(t *testing.T) {
	if runes.ErrMore != 320 {
		t.Errorf("ErrMore is %d", runes.ErrMore)
	}
	for r, want := range map[int32][]byte{65: {65}, 233: {195, 169}, 8364: {226, 130, 172}, 128512: {240, 159, 152, 128}} {
		if b, e := runes.Encode(r); !bytes.Equal(b, want) || e != api.OK {
			t.Errorf("Encode(%d): %v, %d", r, b, e)
		}
	}
	for _, r := range []int32{55296, 1114112, -1} {
		if b, e := runes.Encode(r); len(b) > 0 || e != api.ErrRange {
			t.Errorf("Encode(%d): %v, %d", r, b, e)
		}
	}
	for _, x := range []struct {
		b     []byte
		r     int32
		width int
		e     api.Errno
	}{
		{[]byte{195, 169, 0}, 233, 2, api.OK}, {[]byte{195}, 0, 0, runes.ErrMore}, {[]byte{169}, 0, 0, api.ErrForm},
		{[]byte{192, 128}, 0, 0, api.ErrForm}, {[]byte{237, 160, 128}, 0, 0, api.ErrForm},
	} {
		if r, width, e := runes.Decode(x.b, 0); r != x.r || width != x.width || e != x.e {
			t.Errorf("Decode(%v): %d, %d, %d", x.b, r, width, e)
		}
	}
	if at, e := runes.Check([]byte{97, 195, 169, 255}); at != 3 || e != api.ErrForm {
		t.Errorf("Check: %d, %d", at, e)
	}
	b := []byte{97, 195, 169}
	if n, e := runes.Count(b); n != 2 || e != api.OK {
		t.Errorf("Count: %d, %d", n, e)
	}
	if l, e := runes.Starts(b); !slices.Equal(l, []int{0, 1, 3}) || e != api.OK {
		t.Errorf("Starts: %v, %d", l, e)
	}
	if on, e := runes.On(b, 2); on || e != api.OK {
		t.Errorf("On: %v, %d", on, e)
	}
	if at, e := runes.Back(b, 2); at != 1 || e != api.OK {
		t.Errorf("Back: %d, %d", at, e)
	}
	for r, want := range map[int32]int{'a': api.RuLetter, '[': api.RuOpen, 233: api.RuLetter, 34: api.RuOther, 127: api.RuOther} {
		if c, e := runes.Class(r); c != want || e != api.OK {
			t.Errorf("Class(%d): %d, %d", r, c, e)
		}
	}
}
