package printer_test

import (
	"math"
	"slices"
	"strings"
	"testing"

	"mummer/api"
	"mummer/printer"
	"mummer/reader"
)

// checkLines holds Lines against the definition, and its properties.
func checkLines(t *testing.T, d nest, width int) {
	t.Helper()
	want := d.lines(width)
	l, e := printer.Lines(d.flat(), width)
	if !slices.Equal(l, want) || e != api.OK {
		t.Fatalf("Lines(%.200q, %d): %.300q, %d; want %.300q", d.text(), width, strings.Join(l, "|"), e, strings.Join(want, "|"))
	}
	r, at, e := reader.One([]byte(strings.Join(l, "\n")))
	if e != api.OK || !slices.Equal(r.Tree, d.flat()) {
		t.Fatalf("One(%.300q): %.300v, %v, %d", strings.Join(l, "|"), r.Tree, at, e)
	}
	if width >= len(d.text()) && (len(l) != 1 || l[0] != d.text()) {
		t.Fatalf("Lines(%q, %d): %q; want one line", d.text(), width, l)
	}
	for _, line := range l {
		if len(line) > width && !oneAtom(line) {
			t.Fatalf("Lines(%.200q, %d): %q is too wide", d.text(), width, line)
		}
	}
}

// oneAtom reports whether the line has one atom, or a list without elements, and brackets alone, but for blanks at its beginning.
func oneAtom(line string) bool {
	line = strings.TrimLeft(strings.TrimLeft(line, " "), "(")
	line = strings.TrimRight(line, ")")
	return !strings.ContainsAny(line, " ()")
}

// P7.2, P7.5: all small data, in all widths in which something changes.
func TestLinesSmall(t *testing.T) {
	for _, d := range upTo(6, sy("ab"), in(-31)) {
		for width := 1; width <= len(d.text())+1; width++ {
			checkLines(t, d, width)
		}
	}
}

// P7.2, P7.5: greater data, also in the greatest widths.
func TestLinesGreat(t *testing.T) {
	var d dice
	for range 1000 {
		x := d.grown(1+d.below(40), 10)
		for _, width := range []int{1, 1 + d.below(30), 1 + d.below(200), 199, 200} {
			checkLines(t, x, width)
		}
	}
	for range 30 {
		checkLines(t, d.grown(200, 32), 1+d.below(200))
	}
	for n := range 33 {
		for width := 1; width <= 70; width++ {
			checkLines(t, deep(n), width)
			checkLines(t, listOf(leaf(sy("b")), deep(min(n, 31))), width)
		}
	}
}

// P7.2, P7.5: bytes are counted, not runes.
func TestLinesBytes(t *testing.T) {
	for width := 1; width <= 20; width++ {
		checkLines(t, listOf(leaf(sy("λ")), listOf(leaf(sy("é")), leaf(sy("éé")))), width)
	}
}

// P7.5: a text that has as many bytes as the width is one line, up to the greatest width.
func TestOneLine(t *testing.T) {
	for size := 3; size <= 200; size++ {
		d := long(size)
		if l, e := printer.Lines(d.flat(), size); !slices.Equal(l, []string{d.text()}) || e != api.OK {
			t.Errorf("Lines of %d bytes: %q, %d", size, l, e)
		}
		if l, e := printer.Lines(d.flat(), size-1); len(l) != len(d.kids) || e != api.OK {
			t.Errorf("Lines of %d bytes, one too many: %q, %d", size, l, e)
		}
	}
}

// P7.2: widths that are none; they go after the error of Print, and before the limit of the lines.
func TestWidths(t *testing.T) {
	for _, width := range []int{0, -1, -200, 201, 1000, math.MaxInt, math.MinInt} {
		for _, d := range []nest{leaf(in(1)), listOf(), long(8000)} {
			if l, e := printer.Lines(d.flat(), width); len(l) != 0 || e != api.ErrRange {
				t.Errorf("Lines, %d: %.100q, %d", width, l, e)
			}
		}
		if l, e := printer.Lines(long(8001).flat(), width); len(l) != 0 || e != api.ErrLong {
			t.Errorf("Lines of what is too long, %d: %.100q, %d", width, l, e)
		}
	}
	for _, width := range []int{1, 80, 200} {
		if l, e := printer.Lines(long(8001).flat(), width); len(l) != 0 || e != api.ErrLong {
			t.Errorf("Lines of what is too long, %d: %.100q, %d", width, l, e)
		}
		checkLines(t, leaf(in(1)), width)
	}
}

// P7.2: the lines, each with a byte 10, have 8000 bytes, or are too long.
func TestLinesLimit(t *testing.T) {
	for _, lists := range []int{0, 1, 5, 31} {
		seen := map[int]bool{}
		near := 8000 * 25 / (26 + lists) // each symbol has a byte 10 and the blanks before it
		for size := near - 60; size <= near+60; size++ {
			d := long(size)
			for range lists {
				d = listOf(d)
			}
			n := len(strings.Join(d.lines(100), "\n")) + 1
			seen[n] = true
			if n <= 8000 {
				checkLines(t, d, 100)
			} else if l, e := printer.Lines(d.flat(), 100); len(l) != 0 || e != api.ErrLong {
				t.Fatalf("Lines of %d bytes: %d lines, %d", n, len(l), e)
			}
		}
		if !seen[8000] || !seen[8001] {
			t.Errorf("no lines at the limit in %d lists", lists)
		}
	}
}
