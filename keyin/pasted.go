package keyin

import (
	"placard/api"
	"placard/runes"
)

// What stands around a paste.
const (
	pasteBegin = "\x1b[200~"
	pasteEnd   = "\x1b[201~"
)

// The bytes of the end that come ahead of its last one are taken for pasted
// ones at first, so that there must be room for them behind the longest text.
const (
	almostEnd  = len(pasteEnd) - 1
	mostPasted = api.MaxPaste + almostEnd
)

// pasted holds the first bytes of a paste: beyond mostPasted none of them can
// be part of the key any more.
type pasted struct {
	bytes   []byte
	matched int // how many bytes of pasteEnd the last bytes are
}

// ends takes a byte and reports whether it completes the end of the paste.
func (p *pasted) ends(b byte) bool {
	switch b {
	case pasteEnd[p.matched]:
		p.matched++
	case pasteEnd[0]:
		// No other byte of the end is like its first one, so that nothing but
		// this byte can be the beginning of another try.
		p.matched = 1
	default:
		p.matched = 0
	}
	if p.matched == len(pasteEnd) {
		return true
	}
	if len(p.bytes) < mostPasted {
		p.bytes = append(p.bytes, b)
	}
	return false
}

// text returns what was pasted; it is for a paste that has come to its end.
func (p *pasted) text() string {
	// This leaves out the end where all bytes were kept, and otherwise what is
	// more than the key may have.
	return runes.Text(p.bytes[:len(p.bytes)-almostEnd])
}

func (p *pasted) count() int {
	return len(p.bytes)
}

func (p *pasted) fork() *pasted {
	return &pasted{append([]byte(nil), p.bytes...), p.matched}
}
