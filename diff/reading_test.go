package diff

import (
	"fmt"
	"slices"
	"strings"

	"placard/api"
	"placard/term"
)

// The chapter's definitions, read a second time: columns that change are a set
// that grows over wide cells until it stays; spans are what is between two
// columns that do not change; and what a band shows is asked of the reference
// terminal, place by place.

// readChanging returns the columns of a row that change.
func readChanging(a, b []api.Cell) map[int]bool {
	set := map[int]bool{}
	for col := range a {
		if a[col].S != b[col].S || a[col].W != b[col].W || a[col].Y != b[col].Y {
			set[col] = true
		}
	}
	for grown := true; grown; {
		grown = false
		for _, cells := range [][]api.Cell{a, b} {
			for col, c := range cells {
				if c.W == 2 && set[col] != set[col+1] {
					set[col], set[col+1], grown = true, true, true
				}
			}
		}
	}
	return set
}

func readSpans(a, b api.Frame) []Span {
	var spans []Span
	for row := range a.Rows {
		set := readChanging(a.Rows[row], b.Rows[row])
		for from := range a.Rows[row] {
			if !set[from] || set[from-1] {
				continue
			}
			to := from
			for set[to] {
				to++
			}
			spans = append(spans, Span{row, from, to})
		}
	}
	return spans
}

func readChanged(a, b api.Frame) int {
	n := 0
	for row := range a.Rows {
		n += len(readChanging(a.Rows[row], b.Rows[row]))
	}
	return n
}

// band is rows of a terminal, from its row top on.
type band struct {
	x            *term.Term
	top, w, rows int
}

// newBand returns a band of blanks, between rows that are not, on a terminal
// whose cursor stands in the first row and column of the band.
func newBand(w, above, rows, below int, seen bool) band {
	x, e := term.New(w, above+rows+below)
	if e != api.OK {
		panic("no terminal")
	}
	d := band{x, above, w, rows}
	// A scrolled row, a bell and bracketed paste, so that none of them is as a
	// new terminal has it.
	d.x.Write([]byte(strings.Repeat("\n", above+rows+below) + "\a\x1b[?2004h"))
	for row := range above + rows + below {
		if row < above || row >= above+rows {
			d.at(row, 0)
			d.x.Write([]byte("\x1b[4;32m" + strings.Repeat("#", w) + "\x1b[m"))
		}
	}
	d.at(above, 0)
	d.see(seen)
	return d
}

// fork returns the same band on another terminal.
func (d band) fork() band {
	d.x = d.x.Fork()
	return d
}

// at moves the cursor by a sequence that the package has no use for.
func (d band) at(row, col int) {
	d.x.Write([]byte(fmt.Sprintf("\x1b[%d;%dH", row+1, col+1)))
}

func (d band) see(on bool) {
	d.x.Write([]byte(map[bool]string{true: "\x1b[?25h", false: "\x1b[?25l"}[on]))
}

// paint makes the band show a frame, place by place.
func (d band) paint(f api.Frame) {
	for row, cells := range f.Rows {
		for col, c := range cells {
			if c.W > 0 {
				d.at(d.top+row, col)
				d.x.Write([]byte(readStyle(c.Y) + c.S))
			}
		}
	}
	d.x.Write([]byte("\x1b[m"))
	d.at(d.top+f.Row, f.Col)
	d.see(f.Seen)
}

// readStyle returns the bytes that turn any style into y.
func readStyle(y api.Style) string {
	s := "\x1b[0"
	for _, on := range []struct {
		on bool
		n  int
	}{{y.Bold, 1}, {y.Under, 4}, {y.Inverse, 7}, {y.Fg > 0, 29 + y.Fg}, {y.Bg > 0, 39 + y.Bg}} {
		if on.on {
			s += fmt.Sprintf(";%d", on.n)
		}
	}
	return s + "m"
}

// shows tells why the band does not show a frame; empty: it does.
func (d band) shows(f api.Frame) string {
	for row, cells := range f.Rows {
		for col, c := range cells {
			if got, ok := d.x.Cell(d.top+row, col); !ok || got != c {
				return fmt.Sprintf("at %d, %d stands %v, not %v", row, col, got, c)
			}
		}
	}
	row, col := d.x.Cursor()
	switch {
	case row-d.top != f.Row || col != f.Col:
		return fmt.Sprintf("the cursor stands at %d, %d, not at %d, %d", row-d.top, col, f.Row, f.Col)
	case d.x.Pending():
		return "a wrap is pending"
	case d.x.Seen() != f.Seen:
		return fmt.Sprintf("the cursor is seen: %v", d.x.Seen())
	case d.x.Style() != api.Style{}:
		return fmt.Sprintf("the style is %v", d.x.Style())
	case d.x.Waits() != 0:
		return fmt.Sprintf("%d bytes wait", d.x.Waits())
	}
	return ""
}

// around is what bytes for the band may not change: the rows that are not its
// own, and what the terminal counts or has turned on.
type around struct {
	rows            [][]api.Cell
	scrolled, bells int
	marked          bool
}

func (d band) around() around {
	var rows [][]api.Cell
	_, h := d.x.Size()
	for row := range h {
		if row < d.top || row >= d.top+d.rows {
			rows = append(rows, d.x.Row(row))
		}
	}
	return around{rows, d.x.Scrolled(), d.x.Bells(), d.x.Marked()}
}

func (a around) same(b around) bool {
	return a.scrolled == b.scrolled && a.bells == b.bells && a.marked == b.marked &&
		slices.EqualFunc(a.rows, b.rows, slices.Equal)
}

// write sends bytes one by one, and tells why some prefix of them may not be;
// empty: each may.
func (d band) write(bytes string) string {
	before := d.around()
	for i := range len(bytes) {
		d.x.Write([]byte{bytes[i]})
		if now := d.around(); !now.same(before) {
			return fmt.Sprintf("after %q the surroundings are %v", bytes[:i+1], now)
		}
	}
	return ""
}

// state is all that can be told of a terminal.
func (d band) state() string {
	_, h := d.x.Size()
	row, col := d.x.Cursor()
	s := fmt.Sprint(row, col, d.x.Pending(), d.x.Seen(), d.x.Style(), d.x.Marked(), d.x.Bells(), d.x.Scrolled(), d.x.Waits())
	for row := range h {
		s += fmt.Sprint(d.x.Row(row))
	}
	return s
}

// copied returns a frame that shares nothing with f.
func copied(f api.Frame) api.Frame {
	rows := make([][]api.Cell, len(f.Rows))
	for row, cells := range f.Rows {
		rows[row] = slices.Clone(cells)
	}
	f.Rows = rows
	return f
}
