package term

import (
	"placard/api"
	"placard/runes"
	"placard/width"
)

// The bytes that do something by themselves.
const (
	bell           byte = 7
	backspace      byte = 8
	tab            byte = 9
	lineFeed       byte = 10
	carriageReturn byte = 13
	escape         byte = 27
	erased         byte = 127
)

// The bytes of ASCII that are no controls lie between these.
const (
	firstText byte = 32
	lastText  byte = 126
)

// tabStop is how far apart the columns are at which tabs end.
const tabStop = 8

// Write processes the bytes of all parts.
func (t *Term) Write(parts ...[]byte) {
	if !t.made() {
		return
	}
	for _, part := range parts {
		for _, b := range part {
			// One byte comes at a time, so that nothing can hang on how they
			// were divided.
			t.add(b)
			for t.step() {
			}
		}
	}
}

// step processes what the unprocessed bytes begin with, and reports whether
// that was there as a whole.
func (t *Term) step() bool {
	b := t.waiting()
	n := 0
	switch {
	case len(b) == 0:
		return false
	case b[0] == escape:
		n = t.takeEscape(b)
	case b[0] < firstText || b[0] == erased:
		n = t.takeControl(b[0])
	default:
		n = t.takeRune(b)
	}
	t.drop(n)
	return n > 0
}

// takeControl processes a byte that does something by itself, or nothing.
func (t *Term) takeControl(b byte) int {
	t.joins = false
	row, col := t.Cursor()
	switch b {
	case bell:
		t.bells++
	case backspace:
		t.moveTo(row, col-1)
	case tab:
		t.moveTo(row, (col/tabStop+1)*tabStop)
	case lineFeed:
		t.feed()
	case carriageReturn:
		t.moveTo(row, 0)
	}
	return 1
}

// takeRune processes the rune that b begins with, and returns how many bytes it
// has; 0: its other bytes have not come yet.
func (t *Term) takeRune(b []byte) int {
	r, n, more := runes.Next(b)
	switch {
	case more:
		return 0
	case width.Of(r) > 0:
		t.joins = t.put(r)
	case width.Mark(r):
		t.join(r)
	default:
		t.joins = false
	}
	return n
}

// put prints a rune that takes columns, and reports whether there is room for
// it at all.
func (t *Term) put(r rune) bool {
	w, _ := t.Size()
	columns := width.Of(r)
	if columns > w {
		return false
	}
	if t.pending || t.cursor.col+columns > w {
		t.cursor.col = 0
		t.feed()
	}
	t.screen.Put(t.cursor.row, t.cursor.col, string(runes.Bytes(r)), columns, t.style)
	t.last = t.cursor
	t.cursor.col += columns
	if t.cursor.col == w {
		t.cursor.col, t.pending = w-1, true
	}
	return true
}

// join appends a mark to the last cell.
func (t *Term) join(mark rune) {
	if t.joins {
		t.screen.Join(t.last.row, t.last.col, string(runes.Bytes(mark)))
	}
}

// feed moves the cursor down, or the screen up.
func (t *Term) feed() {
	t.pending = false
	if _, h := t.Size(); t.cursor.row < h-1 {
		t.cursor.row++
		return
	}
	t.scrolled += t.screen.Scroll(1)
}

// moveTo moves the cursor to a position, or as near to it as the edges let it.
func (t *Term) moveTo(row, col int) {
	w, h := t.Size()
	t.cursor = place{within(row, h), within(col, w)}
	t.pending = false
}

// within returns the number from 0 to below n that is nearest to i.
func within(i, n int) int {
	return min(max(i, 0), n-1)
}

// takeEscape processes what begins with ESC, and returns how many bytes that
// are; 0: it may go on.
func (t *Term) takeEscape(b []byte) int {
	n, complete := cutEscape(b)
	if n == 0 {
		return 0
	}
	t.joins = false
	if complete {
		t.execute(b[2:n-1], b[n-1])
	}
	return n
}

// cutEscape returns how many bytes of b, which begins with ESC, are to be
// processed, and whether they are a complete control sequence; 0: it may go on.
func cutEscape(b []byte) (n int, complete bool) {
	switch {
	case len(b) == 1:
		return 0, false
	case b[1] == '[':
		return cutSequence(b)
	case b[1] >= firstText && b[1] <= lastText:
		return 2, false
	}
	return 1, false
}

// cutSequence is cutEscape for what begins with ESC and a bracket.
func cutSequence(b []byte) (n int, complete bool) {
	n = 2
	for n < len(b) && b[n] >= '0' && b[n] <= '?' {
		n++
	}
	for n < len(b) && b[n] >= ' ' && b[n] <= '/' {
		n++
	}
	switch {
	case n == len(b) && n < api.MaxSeq:
		return 0, false
	case n < len(b) && b[n] >= '@' && b[n] <= '~':
		return n + 1, true
	}
	return n, false
}
