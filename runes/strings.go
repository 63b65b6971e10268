package runes

import (
	"iter"

	"mummer/api"
)

// Check returns where b first has bytes that are not those of a rune, and Decode's error there; if all are, how many bytes there are.
func Check(b []byte) (at int, e api.Errno) {
	if len(b) > api.MaxSource {
		return 0, api.ErrLong
	}
	for at < len(b) {
		_, width, e := Decode(b, at)
		if e != api.OK {
			return at, e
		}
		at += width
	}
	return at, api.OK
}

// Count returns how many runes b has.
func Count(b []byte) (int, api.Errno) {
	if _, e := Check(b); e != api.OK {
		return 0, e
	}
	n := 0
	for range each(b) {
		n++
	}
	return n, api.OK
}

// Runes returns the runes of b.
func Runes(b []byte) ([]int32, api.Errno) {
	if _, e := Check(b); e != api.OK {
		return nil, e
	}
	var l []int32
	for _, r := range each(b) {
		l = append(l, r)
	}
	return l, api.OK
}

// Bytes returns the bytes of all runes of l; at is the index of what is no rune.
func Bytes(l []int32) (b []byte, at int, e api.Errno) {
	size := 0
	for i, r := range l {
		width := widthOf(r)
		if width == 0 {
			return nil, i, api.ErrRange
		}
		size += width
	}
	if size > api.MaxSource {
		return nil, 0, api.ErrLong
	}
	b = make([]byte, 0, size)
	for _, r := range l {
		bytes, _ := Encode(r)
		b = append(b, bytes...)
	}
	return b, 0, api.OK
}

// Starts returns the indices at which runes of b begin, and how many bytes b has.
func Starts(b []byte) ([]int, api.Errno) {
	if _, e := Check(b); e != api.OK {
		return nil, e
	}
	var l []int
	for at := range each(b) {
		l = append(l, at)
	}
	return append(l, len(b)), api.OK
}

// On reports whether at is a start of b.
func On(b []byte, at int) (bool, api.Errno) {
	start, e := Back(b, at)
	return e == api.OK && start == at, e
}

// Back returns the greatest start of b that is not above at.
func Back(b []byte, at int) (int, api.Errno) {
	if _, e := Check(b); e != api.OK {
		return 0, e
	}
	if at < 0 || at > len(b) {
		return 0, api.ErrRange
	}
	for at < len(b) && laterByte(b[at]) {
		at--
	}
	return at, api.OK
}

// laterByte reports whether c is a byte of a rune after its first one.
func laterByte(c byte) bool { return c >= 128 && c < 192 }

// each yields the runes of b, each with the index at which it begins, up to the first bytes that are not those of a rune.
func each(b []byte) iter.Seq2[int, int32] {
	return func(yield func(int, int32) bool) {
		for at := 0; at < len(b); {
			r, width, e := Decode(b, at)
			if e != api.OK || !yield(at, r) {
				return
			}
			at += width
		}
	}
}
