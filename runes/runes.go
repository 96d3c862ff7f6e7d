// Package runes is layer 1, UTF-8 decoding and encoding: see shared/doc/01-runes.md.
package runes

import "iter"

// The numbers at which runes end, leave a gap, or need one byte more.
const (
	lastRune       rune = 0x10ffff
	firstSurrogate rune = 0xd800
	lastSurrogate  rune = 0xdfff
	replacement    rune = 0xfffd

	twoBytes   rune = 0x80
	threeBytes rune = 0x800
	fourBytes  rune = 0x10000
)

// A byte that continues an encoding carries six bits above the mark 0x80.
const (
	lowTail  byte = 0x80
	highTail byte = 0xbf
	tailBits byte = 0x3f
)

// Next decodes the first rune of b; more tells that b ends before its encoding does.
func Next(b []byte) (r rune, n int, more bool) {
	if len(b) == 0 {
		return 0, 0, true
	}
	size, low, high := head(b[0])
	if size == 0 {
		return replacement, 1, false
	}
	if size == 1 {
		return rune(b[0]), 1, false
	}
	r = rune(b[0] & (byte(0x7f) >> size))
	for i := 1; i < size; i++ {
		if i == len(b) {
			return 0, 0, true
		}
		if b[i] < low || b[i] > high {
			return replacement, 1, false
		}
		r = r<<6 | rune(b[i]&tailBits)
		low, high = lowTail, highTail
	}
	return r, size, false
}

// head tells how long an encoding is that begins with b, and between which
// bounds its second byte lies; size 0 means that no encoding begins so. The
// bounds already leave out overlong forms, surrogates and what lies beyond the
// last rune, so that an incomplete string is known without its other bytes.
func head(b byte) (size int, low, high byte) {
	switch {
	case b < 0x80:
		return 1, 0, 0
	case b < 0xc2:
		return 0, 0, 0
	case b < 0xe0:
		return 2, lowTail, highTail
	case b == 0xe0:
		return 3, 0xa0, highTail
	case b == 0xed:
		return 3, lowTail, 0x9f
	case b < 0xf0:
		return 3, lowTail, highTail
	case b == 0xf0:
		return 4, 0x90, highTail
	case b < 0xf4:
		return 4, lowTail, highTail
	case b == 0xf4:
		return 4, lowTail, 0x8f
	}
	return 0, 0, 0
}

// Bytes returns the encoding of r, or that of the replacement rune if r is no rune.
func Bytes(r rune) []byte {
	if !isRune(r) {
		r = replacement
	}
	switch {
	case r < twoBytes:
		return []byte{byte(r)}
	case r < threeBytes:
		return []byte{0xc0 | byte(r>>6), tail(r)}
	case r < fourBytes:
		return []byte{0xe0 | byte(r>>12), tail(r >> 6), tail(r)}
	}
	return []byte{0xf0 | byte(r>>18), tail(r >> 12), tail(r >> 6), tail(r)}
}

func isRune(r rune) bool {
	return r >= 0 && r <= lastRune && (r < firstSurrogate || r > lastSurrogate)
}

func tail(r rune) byte {
	return lowTail | byte(r)&tailBits
}

// Text decodes b and returns the encodings of its runes, one after the other.
func Text(b []byte) string {
	text := make([]byte, 0, len(b))
	for _, r := range All(string(b)) {
		text = append(text, Bytes(r)...)
	}
	return string(text)
}

// All enumerates the runes of s with their byte offsets.
func All(s string) iter.Seq2[int, rune] {
	return func(yield func(int, rune) bool) {
	decoding:
		for at := 0; at < len(s); {
			// Next sees one byte more at a time, so that a long rest of s is
			// not copied for each rune; it never wants more than four.
			for end := at + 1; end <= len(s); end++ {
				r, n, more := Next([]byte(s[at:end]))
				if more {
					continue
				}
				if !yield(at, r) {
					return
				}
				at += n
				continue decoding
			}
			// Nothing follows that could complete the rest.
			if !yield(at, replacement) {
				return
			}
			at++
		}
	}
}

// Count returns the number of runes that All enumerates.
func Count(s string) int {
	n := 0
	for range All(s) {
		n++
	}
	return n
}

// Valid reports whether s is valid UTF-8.
func Valid(s string) bool {
	return Text([]byte(s)) == s
}

// Cut splits b ahead of an incomplete encoding at its end.
func Cut(b []byte) (whole, rest []byte) {
	// An incomplete encoding has at most three bytes.
	for at := max(0, len(b)-3); at < len(b); at++ {
		if _, _, more := Next(b[at:]); more {
			return clone(b[:at]), clone(b[at:])
		}
	}
	return clone(b), nil
}

func clone(b []byte) []byte {
	return append([]byte(nil), b...)
}
