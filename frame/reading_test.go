package frame

import (
	"slices"
	"unicode/utf8"

	"placard/api"
	"placard/width"
)

// The chapter's definitions, read a second time: a frame is what was put where,
// a wide thing once and blanks not at all; texts are rows of pieces whose
// clusters are known; and a frame's validity is told cell by cell, each by the
// one before it.

// piece is a part of a text, and the cluster that it becomes, if it does.
type piece struct {
	raw, s string
	w      int
}

// thing is what stands in a row from its column on.
type thing struct {
	s string
	w int
	y api.Style
}

type sheet struct {
	w        int
	rows     []map[int]thing
	row, col int
	seen     bool
}

func newSheet(w, rows int) *sheet {
	s := &sheet{w: w}
	for range rows {
		s.rows = append(s.rows, map[int]thing{})
	}
	return s
}

func (s *sheet) has(row, col int) bool {
	return 0 <= row && row < len(s.rows) && 0 <= col && col < s.w
}

// clear removes whatever covers a position.
func (s *sheet) clear(row, col int) {
	delete(s.rows[row], col)
	if s.rows[row][col-1].w == 2 {
		delete(s.rows[row], col-1)
	}
}

func readStyle(y api.Style) bool {
	return 0 <= y.Fg && y.Fg <= 8 && 0 <= y.Bg && y.Bg <= 8
}

func (s *sheet) text(row, col int, pieces []piece, y api.Style) (int, api.Errno) {
	if !s.has(row, 0) || col != s.w && !s.has(row, col) {
		return 0, api.ErrRange
	}
	if !readStyle(y) {
		return 0, api.ErrArg
	}
	for _, p := range pieces {
		if p.w == 0 {
			continue
		}
		if col+p.w > s.w {
			return col, api.OK
		}
		for i := range p.w {
			s.clear(row, col+i)
		}
		s.rows[row][col] = thing{p.s, p.w, y}
		col += p.w
	}
	return col, api.OK
}

func (s *sheet) fill(row, from, to int, y api.Style) api.Errno {
	if !s.has(row, 0) {
		return api.ErrRange
	}
	if !readStyle(y) {
		return api.ErrArg
	}
	for col := range s.w {
		if from <= col && col < to {
			s.clear(row, col)
			s.rows[row][col] = thing{" ", 1, y}
		}
	}
	return api.OK
}

func (s *sheet) cursor(row, col int, seen bool) api.Errno {
	if !s.has(row, col) {
		return api.ErrRange
	}
	s.row, s.col, s.seen = row, col, seen
	return api.OK
}

func (s *sheet) frame() api.Frame {
	f := api.Frame{Row: s.row, Col: s.col, Seen: s.seen}
	for _, things := range s.rows {
		cells := slices.Repeat([]api.Cell{space}, s.w)
		for col, x := range things {
			cells[col] = api.Cell{S: x.s, W: x.w, Y: x.y}
			if x.w == 2 {
				cells[col+1] = api.Cell{Y: x.y}
			}
		}
		f.Rows = append(f.Rows, cells)
	}
	return f
}

// readCluster returns the columns of a cluster, or 0 if s is none.
func readCluster(s string) int {
	if !utf8.ValidString(s) || len(s) > 64 {
		return 0
	}
	columns := 0
	for at, r := range s {
		switch {
		case at == 0:
			columns = width.Of(r)
		case width.Of(r) != 0 || width.Control(r):
			return 0
		}
	}
	return columns
}

// readCell reports whether a cell may stand behind another one; the first one
// of a row stands behind none, which is the zero cell.
func readCell(c, before api.Cell) bool {
	if !readStyle(c.Y) {
		return false
	}
	if before.W == 2 {
		return c.S == "" && c.W == 0 && c.Y == before.Y
	}
	return c.W > 0 && c.W == readCluster(c.S)
}

func readRow(cells []api.Cell) bool {
	var before api.Cell
	for _, c := range cells {
		if !readCell(c, before) {
			return false
		}
		before = c
	}
	return before.W != 2
}

func readValid(f api.Frame) bool {
	if len(f.Rows) < 1 || len(f.Rows) > 60 {
		return false
	}
	for _, cells := range f.Rows {
		if len(cells) < 1 || len(cells) > 500 || len(cells) != len(f.Rows[0]) || !readRow(cells) {
			return false
		}
	}
	return 0 <= f.Row && f.Row < len(f.Rows) && 0 <= f.Col && f.Col < len(f.Rows[0])
}

// readSame reports whether all that two frames have is equal.
func readSame(a, b api.Frame) bool {
	if a.Row != b.Row || a.Col != b.Col || a.Seen != b.Seen || len(a.Rows) != len(b.Rows) {
		return false
	}
	for row, cells := range a.Rows {
		if len(cells) != len(b.Rows[row]) {
			return false
		}
		for col, c := range cells {
			if c != b.Rows[row][col] {
				return false
			}
		}
	}
	return true
}

// readTexts returns what stands in each row.
func readTexts(f api.Frame) []string {
	var texts []string
	for _, cells := range f.Rows {
		var s []byte
		for _, c := range cells {
			s = append(s, c.S...)
		}
		texts = append(texts, string(s))
	}
	return texts
}
