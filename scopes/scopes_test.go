package scopes_test

import (
	"slices"
	"strings"
	"testing"

	"mummer/api"
	"mummer/scopes"
	"mummer/words"
)

// checkSet fails if Check and Ids do not have this error, or the scopes of s.
func checkSet(t *testing.T, s string, ids []int, want api.Errno) {
	t.Helper()
	if e := scopes.Check(s); e != want {
		t.Fatalf("Check(%.100q): %d; want %d", s, e, want)
	}
	l, e := scopes.Ids(s)
	if !slices.Equal(l, ids) || e != want {
		t.Fatalf("Ids(%.100q): %.100v, %d; want %.100v, %d", s, l, e, ids, want)
	}
}

// P9.1: all strings of a few bytes.
func TestCheckShort(t *testing.T) {
	bytes := []int{0, 1, 2, 128, 255}
	allLists(6, bytes, func(l []int) {
		s := ""
		var ids []int
		for i, c := range l {
			s += string([]byte{byte(c)})
			if i%2 == 1 {
				ids = append(ids, l[i-1]*256+c)
			}
		}
		ascend := slices.IsSorted(ids) && len(slices.Compact(slices.Clone(ids))) == len(ids)
		if len(l)%2 == 1 || !ascend {
			checkSet(t, s, nil, api.ErrForm)
		} else {
			checkSet(t, s, ids, api.OK)
		}
	})
}

// P9.1: each scope has its bytes.
func TestEachScope(t *testing.T) {
	for id := range 65536 {
		s, e := scopes.Of([]int{id})
		wantSet(t, "Of", s, e, span(id, id+1), api.OK)
		checkSet(t, s, []int{id}, api.OK)
	}
}

// P9.1: a set may have 10000 scopes and no more; what has no form goes first.
func TestCheckLimit(t *testing.T) {
	for _, first := range []int{0, 1, 30000, 55536} {
		s := span(first, first+10000)
		ids := make([]int, 10000)
		for i := range ids {
			ids[i] = first + i
		}
		checkSet(t, s, ids, api.OK)
		checkSet(t, s[2:], ids[1:], api.OK)
	}
	for _, f := range flaws() {
		checkSet(t, f.s, nil, f.e)
	}
}

// P9.1: Of takes scopes in each order, and as often as they stand there, and nothing else.
func TestOfShort(t *testing.T) {
	allLists(4, append([]int{-1, 65536}, some...), func(l []int) {
		before := slices.Clone(l)
		s, e := scopes.Of(l)
		if slices.Contains(l, -1) || slices.Contains(l, 65536) {
			wantSet(t, named("Of", l), s, e, "", api.ErrRange)
		} else {
			wantSet(t, named("Of", l), s, e, groupOf(l...).text(), api.OK)
		}
		if !slices.Equal(l, before) {
			t.Fatalf("Of has made %v of %v", l, before)
		}
	})
	for _, l := range [][]int{nil, {}} {
		s, e := scopes.Of(l)
		wantSet(t, "Of none", s, e, "", api.OK)
	}
}

// P9.1: numbers that are no scopes are in range nowhere, at each place of a list.
func TestOfRange(t *testing.T) {
	for _, n := range edges {
		for i := range 4 {
			s, e := scopes.Of(slices.Insert([]int{5, 258, 1}, i, n))
			wantSet(t, named("Of", n, i), s, e, "", api.ErrRange)
		}
	}
}

// P9.1: the limit of Of counts the different scopes, and goes after ErrRange.
func TestOfLimit(t *testing.T) {
	var l []int
	for id := 65535; id > 55535; id-- {
		l = append(l, id, id)
	}
	s, e := scopes.Of(l)
	wantSet(t, "Of 10000 scopes, each twice", s, e, span(55536, 65536), api.OK)
	s, e = scopes.Of(append(slices.Repeat([]int{7}, 30000), 3))
	wantSet(t, "Of 7, often", s, e, "\x00\x03\x00\x07", api.OK)
	for _, id := range []int{0, 55535, 30000} {
		more := append(slices.Clone(l), id)
		s, e := scopes.Of(more)
		wantSet(t, "Of 10001 scopes", s, e, "", api.ErrLong)
		for _, n := range edges {
			s, e := scopes.Of(append(slices.Clone(more), n))
			wantSet(t, named("Of 10001 scopes and", n), s, e, "", api.ErrRange)
		}
	}
}

// P9.1, P9.6, P9.8: Of of Ids is the set; Of does not write behind its list, and the scopes that Ids returned may be changed.
func TestOfIds(t *testing.T) {
	for _, g := range groups(some) {
		s := g.text()
		ids, e := scopes.Ids(s)
		if !slices.Equal(ids, g.ascending()) || e != api.OK {
			t.Fatalf("Ids(%q): %v, %d", s, ids, e)
		}
		again, _ := scopes.Ids(s)
		back, e := scopes.Of(ids)
		wantSet(t, named("Of", ids), back, e, s, api.OK)
		clear(ids)
		if third, _ := scopes.Ids(s); !slices.Equal(again, third) || back != g.text() {
			t.Fatalf("Ids of %q shares memory: %v, %v", s, again, third)
		}
	}
	l := []int{9, 5, 5, 1, 77, 78}
	if s, e := scopes.Of(l[:4]); s != "\x00\x01\x00\x05\x00\x09" || e != api.OK || !slices.Equal(l, []int{9, 5, 5, 1, 77, 78}) {
		t.Errorf("Of: %q, %d, and the list is %v", s, e, l)
	}
}

// P9.4, P9.8: Print is words.List of the scopes, and Parse of it is the set.
func TestPrint(t *testing.T) {
	for _, g := range groups([]int{0, 1, 2, 3, 9, 10, 11, 255, 256, 65534, 65535}) {
		want, _ := words.List(g.ascending())
		text, e := scopes.Print(g.text())
		wantSet(t, named("Print", g.text()), text, e, want, api.OK)
		s, e := scopes.Parse(text)
		wantSet(t, named("Parse", text), s, e, g.text(), api.OK)
	}
	for _, x := range []struct {
		s, text string
		e       api.Errno
	}{
		{span(0, 500), "0-499", api.OK}, {span(65036, 65536), "65036-65535", api.OK}, {span(0, 501), "", api.ErrLong}, {span(65035, 65536), "", api.ErrLong}, {span(0, 10000), "", api.ErrLong},
		{span(0, 499) + "\xff\xff", "0-498,65535", api.OK}, {span(0, 500) + "\xff\xff", "", api.ErrLong},
	} {
		text, e := scopes.Print(x.s)
		wantSet(t, named("Print", x.s), text, e, x.text, x.e)
		if e == api.OK {
			s, e := scopes.Parse(text)
			wantSet(t, named("Parse", text), s, e, x.s, api.OK)
		}
	}
	for _, f := range flaws() {
		text, e := scopes.Print(f.s)
		wantSet(t, named("Print", f.s), text, e, "", f.e)
	}
}

// P9.4, P9.8: Parse of all short texts has the error of words.ParseList, ErrRange, or the set whose Print is the text.
func TestParseShort(t *testing.T) {
	pieces := strings.Fields("0 1 2 9 10 258 65535 65536 1000000000 1000000001 , - x")
	texts := []string{""}
	for range 4 {
		for _, text := range texts {
			for _, p := range pieces {
				texts = append(texts, text+p)
			}
		}
		slices.Sort(texts)
		texts = slices.Compact(texts)
	}
	for _, text := range texts {
		checkParse(t, text)
	}
}

// checkParse fails if Parse of the text is not what the numbers of words.ParseList say.
func checkParse(t *testing.T, text string) {
	t.Helper()
	s, e := scopes.Parse(text)
	l, listErr := words.ParseList(text)
	if listErr != api.OK {
		wantSet(t, named("Parse", text), s, e, "", listErr)
		return
	}
	if slices.ContainsFunc(l, func(n int) bool { return n > 65535 }) {
		wantSet(t, named("Parse", text), s, e, "", api.ErrRange)
		return
	}
	wantSet(t, named("Parse", text), s, e, groupOf(l...).text(), api.OK)
	back, e := scopes.Print(s)
	wantSet(t, named("Print", s), back, e, text, api.OK)
}

// P9.4: the errors of Parse, in their order.
func TestParseErrors(t *testing.T) {
	for _, x := range []struct {
		text string
		want api.Errno
	}{
		{"", api.ErrForm}, {" ", api.ErrForm}, {"1, 2", api.ErrForm}, {"01", api.ErrForm}, {"-1", api.ErrForm}, {"3-3", api.ErrForm}, {"1,2", api.ErrForm}, {"2,1", api.ErrForm}, {"65537,65536", api.ErrForm}, {"65536,65537", api.ErrForm}, {"0-9999999999999999999,5", api.ErrForm},
		{"65536", api.ErrRange}, {"1,65536", api.ErrRange}, {"65535-65536", api.ErrRange}, {"65100-65599", api.ErrRange}, {"1000000000", api.ErrRange}, {"1000000001", api.ErrRange}, {"0-1000000001", api.ErrRange}, {"99999999999999999999", api.ErrRange},
		{"0-500", api.ErrLong}, {"0-10000", api.ErrLong}, {"65536-66036", api.ErrLong}, {"0-1000000000", api.ErrLong}, {"65100-65600", api.ErrLong},
	} {
		s, e := scopes.Parse(x.text)
		wantSet(t, named("Parse", x.text), s, e, "", x.want)
	}
}
