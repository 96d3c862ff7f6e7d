package region

import (
	"fmt"
	"slices"
	"strings"
	"testing"

	"placard/api"
	"placard/frame"
	"placard/term"
	"placard/width"
)

// The chapter, read a second time: what a terminal must be at is told by lists
// of rows, without a sequence, a cluster or a difference of frames.

var space = api.Cell{S: " ", W: 1}

// sheet is all that can be told of a terminal.
type sheet struct {
	w, h     int
	rows     [][]api.Cell
	row, col int
	style    api.Style
	pending  bool
	seen     bool
	marked   bool
	bells    int
	scrolled int
	waits    int
}

func read(x *term.Term) sheet {
	s := sheet{style: x.Style(), pending: x.Pending(), seen: x.Seen(), marked: x.Marked(), bells: x.Bells(), scrolled: x.Scrolled(), waits: x.Waits()}
	s.w, s.h = x.Size()
	s.row, s.col = x.Cursor()
	for row := range s.h {
		s.rows = append(s.rows, x.Row(row))
	}
	return s
}

// against tells in what a sheet differs from what it must be.
func (s sheet) against(want sheet) string {
	if n := s.unlike(want); n >= 0 {
		return fmt.Sprintf("row %d is %v, not %v", n, s.rows[n], want.rows[n])
	}
	s.rows, want.rows = nil, nil
	if one, other := fmt.Sprintf("%+v", s), fmt.Sprintf("%+v", want); one != other {
		return "it is " + one + ", not " + other
	}
	return ""
}

// unlike is the first row that differs, of two sheets of one height, or -1.
func (s sheet) unlike(want sheet) int {
	if len(s.rows) != len(want.rows) {
		return -1
	}
	for n, cells := range s.rows {
		if !slices.Equal(cells, want.rows[n]) {
			return n
		}
	}
	return -1
}

// laidOut is what a sheet becomes where texts and a band of so many rows are
// laid out from a row on.
func (s sheet) laidOut(from int, texts []string, rows int) sheet {
	all := slices.Clone(s.rows[:from])
	for _, text := range texts {
		all = append(all, textRow(text, s.w))
	}
	s.row, s.col = len(all), 0
	for range rows {
		all = append(all, blankRow(s.w))
	}
	for len(all) < s.h {
		all = append(all, blankRow(s.w))
	}
	for len(all) > s.h {
		all = all[1:]
		s.row--
		s.scrolled++
	}
	s.rows = all
	s.style, s.pending, s.seen = api.Style{}, false, true
	return s
}

func blankRow(w int) []api.Cell {
	return slices.Repeat([]api.Cell{space}, w)
}

// textRow is a text that is laid out.
func textRow(text string, w int) []api.Cell {
	cells := textCells(text, w)
	return append(cells, blankRow(w-len(cells))...)
}

func textCells(text string, w int) []api.Cell {
	var cells []api.Cell
	last := -1
	for _, r := range text {
		if r == '\t' || r == '\n' || r == '\r' {
			r = ' '
		}
		columns := width.Of(r)
		switch {
		case width.Control(r):
		case columns > 0 && len(cells)+columns > w:
			return cells
		case columns > 0:
			last = len(cells)
			cells = append(cells, api.Cell{S: string(r), W: columns})
			if columns == 2 {
				cells = append(cells, api.Cell{})
			}
		case last >= 0 && len(cells[last].S+string(r)) <= 64:
			cells[last].S += string(r)
		}
	}
	return cells
}

// textBytes is how many bytes a text has as it is laid out.
func textBytes(text string, w int) int {
	n := 0
	for _, c := range textCells(text, w) {
		n += len(c.S)
	}
	return n
}

// stage of a stand: what has been called so far.
const (
	isNew = iota
	isOpen
	isOver
)

// stand is a region on its terminal, and what both must be at.
type stand struct {
	r         *Region
	x         *term.Term
	requested int
	stage     int
	first     int // the band's first row
	shown     api.Frame
}

// newStand is a new region on a terminal of blanks.
func newStand(t *testing.T, w, h, rows int) *stand {
	t.Helper()
	x, e := term.New(w, h)
	if e != api.OK {
		t.Fatalf("term.New(%d, %d): %d", w, h, e)
	}
	r, e := New(w, h, rows)
	if e != api.OK || r == nil {
		t.Fatalf("New(%d, %d, %d) = %v, %d", w, h, rows, r, e)
	}
	return &stand{r: r, x: x, requested: rows}
}

func (s *stand) rows() int {
	_, h := s.x.Size()
	return min(s.requested, h)
}

// holdTold holds what the region tells of itself.
func (s *stand) holdTold(t *testing.T, what string) {
	t.Helper()
	wide, _ := s.x.Size()
	if w, rows := s.r.Size(); w != wide || rows != s.rows() {
		t.Fatalf("%s: Size = %d, %d, not %d, %d", what, w, rows, wide, s.rows())
	}
	if s.r.Open() != (s.stage == isOpen) {
		t.Fatalf("%s: Open = %v", what, s.r.Open())
	}
	f := s.r.Shown()
	if s.stage == isOpen && !frame.Same(f, s.shown) {
		t.Fatalf("%s: Shown = %v, not %v", what, f, s.shown)
	}
	if s.stage != isOpen && (len(f.Rows) != 0 || f.Row != 0 || f.Col != 0 || f.Seen) {
		t.Fatalf("%s: Shown = %v", what, f)
	}
}

// holdBytes sends bytes one by one, and holds the terminal against P11.7 behind
// each of them, and against want behind all of them. Where they are tight, they
// touch nothing behind the band and scroll nothing.
func (s *stand) holdBytes(t *testing.T, what, bytes string, want sheet, tight bool) {
	t.Helper()
	before := read(s.x)
	behind := before.h
	if tight {
		behind = s.first + s.rows()
		want.scrolled = before.scrolled
	}
	for i := range len(bytes) {
		s.x.Write([]byte{bytes[i]})
		gone := s.x.Scrolled() - before.scrolled
		if gone > want.scrolled-before.scrolled {
			t.Fatalf("%s: %q scrolls %d rows off", what, bytes[:i+1], gone)
		}
		for row, cells := range before.rows {
			if row >= gone && (row < s.first || row >= behind) && !slices.Equal(s.x.Row(row-gone), cells) {
				t.Fatalf("%s: %q changes row %d", what, bytes[:i+1], row)
			}
		}
	}
	if why := read(s.x).against(want); why != "" {
		t.Fatalf("%s: %q: %s", what, bytes, why)
	}
	s.holdTold(t, what)
}

// holdBound holds bytes against P11.8.
func (s *stand) holdBound(t *testing.T, what, bytes string, lines []string) {
	t.Helper()
	w, _ := s.x.Size()
	most := 60 + s.rows()
	for _, line := range lines {
		most += textBytes(line, w) + 2
	}
	if len(bytes) > most {
		t.Fatalf("%s: %q has %d bytes, and may have %d", what, bytes, len(bytes), most)
	}
}

// blankFrame is what a band shows that was laid out.
func (s *stand) blankFrame() api.Frame {
	w, _ := s.x.Size()
	f := api.Frame{Seen: true}
	for range s.rows() {
		f.Rows = append(f.Rows, blankRow(w))
	}
	return f
}

// open says what holds of a band behind a call that lays it out.
func (s *stand) open(first int) {
	s.stage, s.shown, s.first = isOpen, s.blankFrame(), first
}

// start holds Start against P11.2.
func (s *stand) start(t *testing.T) {
	t.Helper()
	bytes, e := s.r.Start()
	if e != api.OK {
		t.Fatalf("Start: %d", e)
	}
	before := read(s.x)
	s.open(before.row)
	want := before.laidOut(before.row, nil, s.rows())
	want.marked = true
	s.holdBound(t, "Start", bytes, nil)
	s.holdBytes(t, "Start", bytes, want, false)
	s.first = want.row
}

// draw holds Draw against P11.3.
func (s *stand) draw(t *testing.T, f api.Frame) {
	t.Helper()
	bytes, e := s.r.Draw(f)
	if e != api.OK {
		t.Fatalf("Draw: %d", e)
	}
	s.shown = f
	want := read(s.x)
	want.rows = slices.Clone(want.rows)
	copy(want.rows[s.first:], f.Rows)
	want.row, want.col, want.seen, want.pending = s.first+f.Row, f.Col, f.Seen, false
	s.holdBytes(t, "Draw", bytes, want, true)
}

// resize holds Resize against P11.4.
func (s *stand) resize(t *testing.T, w, h int) {
	t.Helper()
	gone := s.x.Scrolled()
	s.x.Resize(w, h)
	gone = s.x.Scrolled() - gone
	bytes, e := s.r.Resize(w, h)
	if e != api.OK {
		t.Fatalf("Resize(%d, %d): %d", w, h, e)
	}
	before := read(s.x)
	s.open(max(s.first-gone, 0))
	want := before.laidOut(s.first, nil, s.rows())
	s.holdBound(t, "Resize", bytes, nil)
	s.holdBytes(t, "Resize", bytes, want, false)
	s.first = want.row
}

// above holds Above against P11.5.
func (s *stand) above(t *testing.T, lines ...string) {
	t.Helper()
	bytes, e := s.r.Above(lines...)
	if e != api.OK {
		t.Fatalf("Above(%q): %d", lines, e)
	}
	before := read(s.x)
	s.open(s.first)
	want := before.laidOut(s.first, lines, s.rows())
	what := "Above(" + strings.Join(lines, "|") + ")"
	s.holdBound(t, what, bytes, lines)
	s.holdBytes(t, what, bytes, want, false)
	s.first = want.row
}

// end holds End against P11.6.
func (s *stand) end(t *testing.T, lines ...string) {
	t.Helper()
	bytes, e := s.r.End(lines...)
	if e != api.OK {
		t.Fatalf("End(%q): %d", lines, e)
	}
	s.stage = isOver
	want := read(s.x).laidOut(s.first, lines, 0)
	want.marked = false
	what := "End(" + strings.Join(lines, "|") + ")"
	s.holdBound(t, what, bytes, lines)
	s.holdBytes(t, what, bytes, want, true)
}
