package faults_test

import (
	"fmt"
	"testing"

	"mummer/api"
	"mummer/faults"
)

// P8.3: each pass has its word; other numbers have none.
func TestPass(t *testing.T) {
	for pass := -3; pass <= 20; pass++ {
		want, wantErr := "", api.ErrArg
		if pass >= 1 && pass <= 8 {
			want, wantErr = passes[pass-1], api.OK
		}
		s, e := faults.Pass(pass)
		wantText(t, fmt.Sprint("Pass of ", pass), s, e, want, wantErr)
	}
	for _, pass := range edges {
		s, e := faults.Pass(pass)
		wantText(t, fmt.Sprint("Pass of ", pass), s, e, "", api.ErrArg)
	}
	for pass, want := range map[int]string{api.PsLex: "lex", api.PsRead: "read", api.PsExpand: "expand", api.PsSurface: "surface", api.PsSugar: "sugar", api.PsStep: "step", api.PsLift: "lift", api.PsModel: "model"} {
		s, e := faults.Pass(pass)
		wantText(t, fmt.Sprint("Pass of ", pass), s, e, want, api.OK)
	}
}

// P8.3: each code has its word; other numbers have none.
func TestWord(t *testing.T) {
	if len(codes) != 21 {
		t.Fatalf("there are %d words", len(codes))
	}
	for code := -3; code <= 1100; code++ {
		want, wantErr := "", api.ErrArg
		if code >= 1 && code <= 999 {
			want, wantErr = wordOf(code), api.OK
		}
		s, e := faults.Word(api.Errno(code))
		wantText(t, fmt.Sprint("Word of ", code), s, e, want, wantErr)
	}
	for _, code := range edges {
		s, e := faults.Word(api.Errno(code))
		wantText(t, fmt.Sprint("Word of ", code), s, e, "", api.ErrArg)
	}
	for code, want := range map[api.Errno]string{1: "nil", 3: "too long", 9: "state", 16: "letrec", 21: "divide", 22: "error 22", 62: "error 62", 100: "error 100", 240: "error 240", 999: "error 999"} {
		s, e := faults.Word(code)
		wantText(t, fmt.Sprint("Word of ", code), s, e, want, api.OK)
	}
}
