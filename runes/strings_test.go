package runes_test

import (
	"bytes"
	"math"
	"slices"
	"strings"
	"testing"

	"mummer/api"
	"mummer/runes"
)

// A view is what a string has, found by Decode alone.
type view struct {
	at     int
	e      api.Errno
	runes  []int32
	starts []int
}

func viewOf(b []byte) view {
	if len(b) > 8000 {
		return view{e: api.ErrLong}
	}
	v := view{}
	for v.at < len(b) {
		r, width, e := runes.Decode(b, v.at)
		if e != api.OK {
			return view{at: v.at, e: e}
		}
		v.runes = append(v.runes, r)
		v.starts = append(v.starts, v.at)
		v.at += width
	}
	v.starts = append(v.starts, v.at)
	return v
}

// checkView holds all functions of strings against what viewOf finds.
func checkView(t *testing.T, b []byte) {
	t.Helper()
	v := viewOf(b)
	if at, e := runes.Check(b); at != v.at || e != v.e {
		t.Fatalf("Check(%.40x): %d, %d; want %d, %d", b, at, e, v.at, v.e)
	}
	if n, e := runes.Count(b); n != len(v.runes) || e != v.e {
		t.Fatalf("Count(%.40x): %d, %d", b, n, e)
	}
	if l, e := runes.Runes(b); !slices.Equal(l, v.runes) || e != v.e {
		t.Fatalf("Runes(%.40x): %v, %d", b, l, e)
	}
	if l, e := runes.Starts(b); !slices.Equal(l, v.starts) || e != v.e {
		t.Fatalf("Starts(%.40x): %v, %d", b, l, e)
	}
	places := []int{math.MinInt, -1, 0, 1, len(b) - 1, len(b), len(b) + 1, math.MaxInt}
	for at := 2; at < len(b)-1 && len(b) < 100; at++ {
		places = append(places, at)
	}
	for _, at := range places {
		checkPlace(t, b, v, at)
	}
}

func checkPlace(t *testing.T, b []byte, v view, at int) {
	t.Helper()
	on, back, want := false, 0, v.e
	if want == api.OK && (at < 0 || at > len(b)) {
		want = api.ErrRange
	}
	for _, start := range v.starts {
		if want == api.OK && start <= at {
			on, back = start == at, start
		}
	}
	if got, e := runes.On(b, at); got != on || e != want {
		t.Fatalf("On(%.40x, %d): %v, %d; want %v, %d", b, at, got, e, on, want)
	}
	if got, e := runes.Back(b, at); got != back || e != want {
		t.Fatalf("Back(%.40x, %d): %d, %d; want %d, %d", b, at, got, e, back, want)
	}
}

// P2.2, P2.3: all short strings of bytes that begin, go on with, end and break runes.
func TestShortStrings(t *testing.T) {
	pieces := []string{"a", "\x80", "\xbf", "\xc3", "\xe2", "\xed", "\xa0", "\xf0", "\x9f", "\xff", "é", "€", "😀"}
	var grow func(s string, left int)
	grow = func(s string, left int) {
		checkView(t, []byte(s))
		for _, p := range pieces {
			if left > 0 {
				grow(s+p, left-1)
			}
		}
	}
	grow("", 4)
	checkView(t, nil)
}

// P2.2, P2.3: the limit of 8000 bytes goes before what the bytes are.
func TestLongStrings(t *testing.T) {
	for n := 7997; n <= 8003; n++ {
		for _, end := range []string{"", "é", "€", "😀", "\xff", "\xe2\x82"} {
			checkView(t, []byte(strings.Repeat("a", n-len(end))+end))
		}
	}
	checkView(t, []byte(strings.Repeat("😀", 2000)))
	checkView(t, []byte(strings.Repeat("😀", 2001)))
	checkView(t, []byte("\xff"+strings.Repeat("a", 8000)))
	checkView(t, []byte("\xff"+strings.Repeat("a", 7999)))
}

// P2.2: Bytes has the first number that is no rune, then the limit, then the bytes.
func TestBytes(t *testing.T) {
	zeros := make([]int32, 8001)
	smiles := slices.Repeat([]int32{128512}, 2001)
	for i, x := range []struct {
		l    []int32
		want string
		at   int
		e    api.Errno
	}{
		{nil, "", 0, api.OK}, {[]int32{}, "", 0, api.OK}, {[]int32{97, 233, 8364, 128512}, "aé€😀", 0, api.OK},
		{[]int32{-1}, "", 0, api.ErrRange}, {[]int32{97, 55296}, "", 1, api.ErrRange}, {[]int32{97, 57343, -1}, "", 1, api.ErrRange}, {[]int32{97, 98, 1114112, 99}, "", 2, api.ErrRange},
		{zeros[:8000], string(make([]byte, 8000)), 0, api.OK}, {zeros, "", 0, api.ErrLong}, {smiles[:2000], strings.Repeat("😀", 2000), 0, api.OK}, {smiles, "", 0, api.ErrLong},
		{append(slices.Clone(zeros), -1), "", 8001, api.ErrRange}, {append([]int32{-1}, zeros...), "", 0, api.ErrRange},
		{append(slices.Clone(smiles[:1999]), 8364, 97), strings.Repeat("😀", 1999) + "€a", 0, api.OK}, {append(slices.Clone(smiles[:1999]), 8364, 233), "", 0, api.ErrLong},
	} {
		b, at, e := runes.Bytes(x.l)
		if string(b) != x.want || at != x.at || e != x.e {
			t.Errorf("%d: Bytes: %.40x, %d, %d; want %.40x, %d, %d", i, b, at, e, x.want, x.at, x.e)
		}
	}
}

// P2.5: Runes and Bytes undo each other.
func TestThereAndBack(t *testing.T) {
	edges := []int32{0, 1, 127, 128, 2047, 2048, 55295, 57344, 65535, 65536, 1114110, 1114111}
	var grow func(l []int32)
	grow = func(l []int32) {
		b, _, e := runes.Bytes(l)
		if e != api.OK {
			t.Fatalf("Bytes(%v): %d", l, e)
		}
		if back, e := runes.Runes(b); !slices.Equal(back, l) || e != api.OK {
			t.Fatalf("Runes of Bytes(%v): %v, %d", l, back, e)
		}
		for _, r := range edges {
			if len(l) < 3 {
				grow(append(slices.Clone(l), r))
			}
		}
	}
	grow(nil)
	for _, s := range []string{"", "a", "aé€😀", "\x00\x7f\u0080", strings.Repeat("é", 4000)} {
		l, _ := runes.Runes([]byte(s))
		if b, _, e := runes.Bytes(l); string(b) != s || e != api.OK {
			t.Errorf("Bytes of Runes(%.20q): %.20q, %d", s, b, e)
		}
	}
}

// P2.6: bytes are ordered as runes are.
func TestOrder(t *testing.T) {
	var last []byte
	for r := int32(0); r <= 1114111; r++ {
		b, e := runes.Encode(r)
		if e != api.OK {
			continue
		}
		if last != nil && bytes.Compare(last, b) >= 0 {
			t.Fatalf("the bytes of %d are not above those before", r)
		}
		last = b
	}
}

// P2.6: a start is at most 3 bytes back, and a string cut there is two strings; cut elsewhere it is not.
func TestCuts(t *testing.T) {
	for _, s := range []string{"aé€😀b", "😀😀", "€é", "ab"} {
		b := []byte(s)
		for at := range len(b) + 1 {
			start, _ := runes.Back(b, at)
			if start > at || at-start > 3 {
				t.Errorf("Back(%q, %d): %d", s, at, start)
			}
			on, _ := runes.On(b, at)
			_, left := runes.Check(b[:at])
			_, right := runes.Check(b[at:])
			if on != (left == api.OK && right == api.OK) {
				t.Errorf("cut of %q at %d: On %v, parts %d and %d", s, at, on, left, right)
			}
		}
	}
}

// P2.7, R3: arguments stay as they are, and what is done to one result is not seen in another one.
func TestFreshMemory(t *testing.T) {
	b, l := []byte("aé€😀"), []int32{97, 233, 8364, 128512}
	for range 2 {
		one, _ := runes.Encode(233)
		list, _ := runes.Runes(b)
		text, _, _ := runes.Bytes(l)
		starts, _ := runes.Starts(b)
		if string(one) != "é" || !slices.Equal(list, l) || !bytes.Equal(text, b) || !slices.Equal(starts, []int{0, 1, 3, 6, 10}) {
			t.Errorf("results have changed: %x, %v, %x, %v", one, list, text, starts)
		}
		clear(one)
		clear(list)
		clear(text)
		clear(starts)
		if string(b) != "aé€😀" || !slices.Equal(l, []int32{97, 233, 8364, 128512}) {
			t.Errorf("arguments have changed: %x, %v", b, l)
		}
	}
}

// P2.7: any bytes and numbers are accepted.
func TestAnyArguments(t *testing.T) {
	var all []byte
	for c := range 256 {
		all = append(all, byte(c))
	}
	for i := range all {
		checkView(t, all[i:])
		checkView(t, slices.Repeat(all[i:i+1], 20))
	}
}
