package keyin

import (
	"placard/api"
	"placard/runes"
)

// The bytes that are keys of their own, or begin one.
const (
	backspace      byte = 8
	tab            byte = 9
	lineFeed       byte = 10
	carriageReturn byte = 13
	escape         byte = 27
	firstText      byte = 32
	erased         byte = 127
)

// What a sequence can begin with; escapeAlone is also the key Escape.
const (
	escapeAlone  = "\x1b"
	bracketIntro = "\x1b["
	letterIntro  = "\x1bO"
)

// first decodes what s begins with: it returns how many bytes that are, and the
// key that they give, without a Code if they are to be discarded; 0: they may
// go on.
func first(s string) (k api.Key, n int) {
	switch {
	case s == "" || s == escapeAlone:
		return api.Key{}, 0
	case s[0] != escape:
		return firstPlain(s)
	case s[1] == escape:
		return api.Key{Code: api.Escape}, 1
	case s[1] == bracketIntro[1]:
		return firstBracketed(s)
	case s[1] == letterIntro[1]:
		return firstLettered(s)
	}
	k, n = firstPlain(s[1:])
	if n == 0 {
		return api.Key{}, 0
	}
	k.Alt = true
	return k, 1 + n
}

// firstPlain is first for what does not begin with ESC.
func firstPlain(s string) (k api.Key, n int) {
	if s[0] < firstText || s[0] == erased {
		return control(s[0]), 1
	}
	r, n, more := runes.Next([]byte(s))
	if more {
		return api.Key{}, 0
	}
	return api.Key{Code: api.Text, S: string(runes.Bytes(r))}, n
}

// control returns the key of a byte that is no text.
func control(b byte) api.Key {
	switch b {
	case carriageReturn, lineFeed:
		return api.Key{Code: api.Enter}
	case tab:
		return api.Key{Code: api.Tab}
	case backspace, erased:
		return api.Key{Code: api.Backspace}
	}
	letter := b + '@'
	if letter >= 'A' && letter <= 'Z' {
		letter += 'a' - 'A'
	}
	return api.Key{Code: api.Ctrl, S: string([]byte{letter})}
}

// firstLettered is first for what begins with ESC and O.
func firstLettered(s string) (k api.Key, n int) {
	n = len(letterIntro)
	switch {
	case n == len(s):
		return api.Key{}, 0
	case isFinal(s[n]):
		return letterKey(s[n]), n + 1
	}
	return api.Key{}, n
}

// firstBracketed is first for what begins with ESC and a bracket.
func firstBracketed(s string) (k api.Key, n int) {
	n = behind(s, len(bracketIntro), '0', '?')
	n = behind(s, n, ' ', '/')
	switch {
	case n == len(s) && n < api.MaxSeq:
		return api.Key{}, 0
	case n < len(s) && isFinal(s[n]):
		return sequenceKey(s[len(bracketIntro):n], s[n]), n + 1
	}
	return api.Key{}, n
}

// behind returns where, from a place on, the bytes of s from low to high end.
func behind(s string, at int, low, high byte) int {
	for at < len(s) && s[at] >= low && s[at] <= high {
		at++
	}
	return at
}

func isFinal(b byte) bool {
	return b >= '@' && b <= '~'
}
