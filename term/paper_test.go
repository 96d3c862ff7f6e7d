package term

import (
	"bytes"
	"regexp"
	"slices"
	"strconv"
	"strings"
	"testing"
	"unicode/utf8"

	"placard/api"
	"placard/width"
)

var space = api.Cell{S: " ", W: 1}

// paper is a terminal as the chapter defines it, read a second time: all bytes
// that have come are cut at once, by patterns, and its rows know nothing of
// package grid.
type paper struct {
	w, h     int
	rows     [][]api.Cell
	row, col int
	style    api.Style
	pending  bool
	hidden   bool
	marked   bool
	scrolled int
	bells    int
	rest     []byte
	last     *[2]int
}

func newPaper(w, h int) *paper {
	p := &paper{w: w, h: h}
	for range h {
		p.rows = append(p.rows, slices.Repeat([]api.Cell{space}, w))
	}
	return p
}

func (p *paper) fork() *paper {
	other := *p
	other.rows = nil
	for _, cells := range p.rows {
		other.rows = append(other.rows, slices.Clone(cells))
	}
	other.rest = slices.Clone(p.rest)
	if p.last != nil {
		last := *p.last
		other.last = &last
	}
	return &other
}

func (p *paper) write(b []byte) {
	p.rest = append(p.rest, b...)
	for n := p.first(); n > 0; n = p.first() {
		p.rest = p.rest[n:]
	}
}

var (
	whole = regexp.MustCompile(`^\x1b\[([0-?]*)([ -/]*)([@-~])`)
	begun = regexp.MustCompile(`^\x1b\[[0-?]*[ -/]*`)
	other = regexp.MustCompile(`^\x1b[ -~]`)
	plain = regexp.MustCompile(`^(\??)([0-9;]*)$`)
)

// first processes what the rest begins with, and tells how many bytes it has.
func (p *paper) first() int {
	b := p.rest
	head := b[:min(len(b), 32)]
	if len(b) == 0 {
		return 0
	}
	if m := whole.FindSubmatch(head); m != nil {
		p.last = nil
		if len(m[2]) == 0 {
			p.sequence(string(m[1]), string(m[3]))
		}
		return len(m[0])
	}
	if m := begun.Find(head); m != nil {
		if len(m) == len(b) && len(m) < 32 {
			return 0
		}
		p.last = nil
		return len(m)
	}
	if other.Match(head) {
		p.last = nil
		return 2
	}
	if b[0] == 0x1b {
		if len(b) > 1 {
			p.last = nil
			return 1
		}
		return 0
	}
	if !utf8.FullRune(b) {
		return 0
	}
	r, n := utf8.DecodeRune(b)
	p.rune(r)
	return n
}

func (p *paper) rune(r rune) {
	switch {
	case width.Mark(r):
		p.mark(string(r))
		return
	case width.Of(r) > 0:
		p.print(string(r), width.Of(r))
		return
	}
	p.last = nil
	switch r {
	case '\a':
		p.bells++
	case '\b':
		p.at(p.row, p.col-1)
	case '\t':
		to := p.col + 1
		for to%8 != 0 {
			to++
		}
		p.at(p.row, to)
	case '\n':
		p.down()
	case '\r':
		p.at(p.row, 0)
	}
}

func (p *paper) mark(s string) {
	if p.last == nil {
		return
	}
	c := &p.rows[p.last[0]][p.last[1]]
	if len(c.S+s) <= 64 {
		c.S += s
	}
}

func (p *paper) print(s string, n int) {
	p.last = nil
	if p.w < n {
		return
	}
	if p.pending || p.w-p.col < n {
		p.col = 0
		p.down()
	}
	for i := range n {
		p.blank(p.row, p.col+i)
		p.rows[p.row][p.col+i] = api.Cell{Y: p.style}
	}
	p.rows[p.row][p.col].S, p.rows[p.row][p.col].W = s, n
	p.last = &[2]int{p.row, p.col}
	if p.col+n < p.w {
		p.col += n
	} else {
		p.col, p.pending = p.w-1, true
	}
}

func (p *paper) blank(row, col int) {
	cells := p.rows[row]
	switch cells[col].W {
	case 0:
		cells[col-1] = space
	case 2:
		cells[col+1] = space
	}
	cells[col] = space
}

func (p *paper) down() {
	p.pending = false
	if p.row+1 < p.h {
		p.row++
		return
	}
	p.rows = append(p.rows[1:], slices.Repeat([]api.Cell{space}, p.w))
	p.scrolled++
}

// at moves the cursor, a step at a time as long as there is an edge to cross.
func (p *paper) at(row, col int) {
	for row < 0 {
		row++
	}
	for row >= p.h {
		row--
	}
	for col < 0 {
		col++
	}
	for col >= p.w {
		col--
	}
	p.row, p.col, p.pending = row, col, false
}

func (p *paper) sequence(parameters, final string) {
	m := plain.FindStringSubmatch(parameters)
	if m == nil {
		return
	}
	var l []int
	for _, s := range strings.Split(m[2], ";") {
		n, err := strconv.Atoi("0" + s)
		if err != nil || n > 9999 {
			n = 9999
		}
		l = append(l, n)
	}
	n, some, second := l[0], l[0], 1
	if n == 0 {
		some = 1
	}
	if len(l) > 1 && l[1] != 0 {
		second = l[1]
	}
	switch m[1] + final {
	case "A":
		p.at(p.row-some, p.col)
	case "B":
		p.at(p.row+some, p.col)
	case "C":
		p.at(p.row, p.col+some)
	case "D":
		p.at(p.row, p.col-some)
	case "G":
		p.at(p.row, n-1)
	case "H":
		p.at(some-1, second-1)
	case "J", "K":
		p.erase(n, final == "K")
	case "m":
		for _, n := range l {
			p.restyle(n)
		}
	case "?h", "?l":
		for _, n := range l {
			p.mode(n, final == "h")
		}
	}
}

func (p *paper) erase(n int, line bool) {
	at := p.row*p.w + p.col
	for i := range p.w * p.h {
		if line && i/p.w != p.row {
			continue
		}
		if n == 0 && i >= at || n == 1 && i <= at || n == 2 {
			p.blank(i/p.w, i%p.w)
		}
	}
}

func (p *paper) restyle(n int) {
	tens, ones := n/10, n%10
	switch {
	case n == 0:
		p.style = api.Style{}
	case n == 1, n == 22:
		p.style.Bold = n < 20
	case n == 4, n == 24:
		p.style.Under = n < 20
	case n == 7, n == 27:
		p.style.Inverse = n < 20
	case tens == 3 && ones != 8:
		p.style.Fg = (ones + 1) % 10
	case tens == 4 && ones != 8:
		p.style.Bg = (ones + 1) % 10
	}
}

func (p *paper) mode(n int, on bool) {
	switch n {
	case 25:
		p.hidden = !on
	case 2004:
		p.marked = on
	}
}

func (p *paper) resize(w, h int) api.Errno {
	if w < 1 || w > 500 || h < 1 || h > 500 {
		return api.ErrTerm
	}
	for row, cells := range p.rows {
		for len(cells) < w {
			cells = append(cells, space)
		}
		if w < len(cells) && cells[w].W == 0 {
			cells[w-1] = space
		}
		p.rows[row] = cells[:w:w]
	}
	for len(p.rows) < h {
		p.rows = append(p.rows, slices.Repeat([]api.Cell{space}, w))
	}
	for len(p.rows) > h && len(p.rows)-1 > p.row {
		p.rows = p.rows[:len(p.rows)-1]
	}
	for len(p.rows) > h {
		p.rows = p.rows[1:]
		p.scrolled++
		p.row--
	}
	p.w, p.h = w, h
	p.col = min(p.col, w-1)
	p.pending, p.last = false, nil
	return api.OK
}

// agree holds all that a terminal tells against a paper.
func agree(t *testing.T, what string, x *Term, p *paper) {
	t.Helper()
	if w, h := x.Size(); w != p.w || h != p.h {
		t.Fatalf("%s: %d columns and %d rows, not %d and %d", what, w, h, p.w, p.h)
	}
	for row, want := range p.rows {
		if got := x.Row(row); !slices.Equal(got, want) {
			t.Fatalf("%s: row %d is %v, not %v", what, row, got, want)
		}
	}
	if row, col := x.Cursor(); row != p.row || col != p.col {
		t.Fatalf("%s: the cursor is at %d, %d, not at %d, %d", what, row, col, p.row, p.col)
	}
	if x.Pending() != p.pending || x.Seen() == p.hidden || x.Marked() != p.marked {
		t.Fatalf("%s: pending %v, seen %v, marked %v, not %v, %v, %v", what, x.Pending(), x.Seen(), x.Marked(), p.pending, !p.hidden, p.marked)
	}
	if x.Style() != p.style {
		t.Fatalf("%s: the style is %v, not %v", what, x.Style(), p.style)
	}
	if x.Bells() != p.bells || x.Scrolled() != p.scrolled || x.Waits() != len(p.rest) {
		t.Fatalf("%s: %d bells, %d scrolled, %d wait, not %d, %d, %d", what, x.Bells(), x.Scrolled(), x.Waits(), p.bells, p.scrolled, len(p.rest))
	}
}

// agreeOnLast finds out by a mark where the last cell is; it is for copies.
func agreeOnLast(t *testing.T, what string, x *Term, p *paper) {
	t.Helper()
	if !bytes.Equal(p.rest, nil) {
		return
	}
	x.Write([]byte("\u0308"))
	p.write([]byte("\u0308"))
	agree(t, what+", and a mark", x, p)
}

// tokens are what the walks write: every sort of byte and of sequence that the
// chapter tells apart, whole and broken.
var tokens = []string{
	"a", "b", " ", "\u6f22", "\u5b57", "\u0301", "\u200b", strings.Repeat("\u0302", 20), "\ufffd",
	"\a", "\b", "\t", "\n", "\r", "\x00", "\x1f", "\x7f", "\u0085", "\u009b", "\xff", "\xc2", "\xe6", "\xe6\xbc", "\xa2", "\xf0\x9f", "\x98\x80",
	"\x1b", "[", "\x1b[", "?", "1", ";", "2", "A", "H", "h", "~", "\x1b7", "\x1b ", "\x1b[ ", "\x1b[>", "!",
	"\x1b[A", "\x1b[2B", "\x1b[C", "\x1b[3D", "\x1b[2G", "\x1b[H", "\x1b[2;2H", "\x1b[;3H", "\x1b[9999;9999H",
	"\x1b[J", "\x1b[1J", "\x1b[2J", "\x1b[3J", "\x1b[K", "\x1b[1K", "\x1b[2K", "\x1b[4K",
	"\x1b[m", "\x1b[1;31m", "\x1b[4;7;44m", "\x1b[22;39m", "\x1b[24;27;49m", "\x1b[?1m",
	"\x1b[?25l", "\x1b[?25h", "\x1b[?2004h", "\x1b[?2004;25l", "\x1b[25l", "\x1b[1 H", "\x1b[1:2H", "\x1b[??25l",
	"\x1b[" + strings.Repeat("1", 29), "\x1b[" + strings.Repeat(";", 28),
}
