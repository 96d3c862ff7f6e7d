package diff

import (
	"math"
	"slices"
	"strings"
	"testing"

	"placard/api"
	"placard/frame"
)

// Frames that the tests share, written as pictures: each letter is a cell, or a
// wide cell and its tail.

var (
	bold  = api.Style{Bold: true, Fg: 3}
	under = api.Style{Under: true, Inverse: true, Bg: 8}
)

// drawing says what the letters of a picture stand for.
var drawing = map[rune]api.Cell{
	'.': {S: " ", W: 1},
	'_': {S: " ", W: 1, Y: under},
	'a': {S: "a", W: 1},
	'b': {S: "b", W: 1, Y: bold},
	'e': {S: "e\u0301\u0302", W: 1, Y: bold},
	'W': {S: "漢", W: 2},
	'V': {S: "字", W: 2},
	'U': {S: "漢", W: 2, Y: under},
	'M': {S: "漢\u0301", W: 2, Y: bold},
}

func pictureRow(picture string) []api.Cell {
	var cells []api.Cell
	for _, r := range picture {
		c := drawing[r]
		cells = append(cells, c)
		if c.W == 2 {
			cells = append(cells, api.Cell{Y: c.Y})
		}
	}
	return cells
}

// picture is a frame of rows that are divided by bars.
func picture(s string, row, col int, seen bool) api.Frame {
	f := api.Frame{Row: row, Col: col, Seen: seen}
	for _, p := range strings.Split(s, "|") {
		f.Rows = append(f.Rows, pictureRow(p))
	}
	return f
}

// pictures are all rows of w columns that can be drawn by some letters.
func pictures(w int, letters string) []string {
	if w == 0 {
		return []string{""}
	}
	var all []string
	for _, r := range letters {
		if c := drawing[r]; c.W <= w {
			for _, rest := range pictures(w-c.W, letters) {
				all = append(all, string(r)+rest)
			}
		}
	}
	return all
}

// dice yields numbers that are the same in each run.
type dice uint64

func (d *dice) below(n int) int {
	*d = *d*6364136223846793005 + 1442695040888963407
	return int(uint64(*d) >> 33 % uint64(n))
}

func (d *dice) style() api.Style {
	n := d.below(6)
	if n < 2 {
		return api.Style{}
	}
	bits := d.below(8)
	y := api.Style{Bold: bits&1 != 0, Under: bits&2 != 0, Inverse: bits&4 != 0}
	if n > 3 {
		y.Fg, y.Bg = d.below(9), d.below(9)
	}
	return y
}

// cells returns some columns of cells, at most so many.
func (d *dice) cells(most int) []api.Cell {
	y := d.style()
	marks := strings.Repeat("\u0301", d.below(4)*d.below(2))
	if most < 2 || d.below(3) > 0 {
		if d.below(40) == 0 {
			marks = strings.Repeat("\u0301", 31)
		}
		return []api.Cell{{S: []string{" ", " ", "a", "b", "é", "\u00ff"}[d.below(6)] + marks, W: 1, Y: y}}
	}
	s := []string{"漢", "字", "\U0001F600", "한"}[d.below(4)]
	return []api.Cell{{S: s + marks, W: 2, Y: y}, {Y: y}}
}

// frame returns a frame in which anything may stand.
func (d *dice) frame(w, rows int) api.Frame {
	f := api.Frame{Row: d.below(rows), Col: d.below(w), Seen: d.below(2) == 0}
	for range rows {
		var cells []api.Cell
		for len(cells) < w {
			cells = append(cells, d.cells(w-len(cells))...)
		}
		f.Rows = append(f.Rows, cells)
	}
	return f
}

// near returns a frame that differs from f in a few cells, or nowhere.
func (d *dice) near(f api.Frame) api.Frame {
	f = copied(f)
	for range d.below(4) {
		cells := f.Rows[d.below(len(f.Rows))]
		col := d.below(len(cells))
		switch c := cells[col]; c.W {
		case 1:
			copy(cells[col:], d.cells(1))
		case 2:
			copy(cells[col:], d.wide())
		}
	}
	if d.below(2) == 0 {
		f.Row, f.Col = d.below(len(f.Rows)), d.below(len(f.Rows[0]))
	}
	f.Seen = d.below(2) == 0
	return f
}

// wide returns two columns of cells.
func (d *dice) wide() []api.Cell {
	cells := d.cells(2)
	if len(cells) == 1 {
		cells = append(cells, d.cells(1)...)
	}
	return cells
}

// valid is a frame of 4 columns and 3 rows, made anew.
func valid() api.Frame {
	return picture("aWb|UU|.e_.", 1, 2, true)
}

// notValid are frames that are not valid, by what is wrong with them.
func notValid() map[string]api.Frame {
	all := map[string]api.Frame{
		"nothing":        {},
		"no rows":        {Rows: [][]api.Cell{}, Seen: true},
		"empty rows":     {Rows: [][]api.Cell{{}, {}, {}}},
		"501 columns":    {Rows: [][]api.Cell{slices.Repeat(pictureRow("."), 501)}},
		"61 rows":        {Rows: slices.Repeat([][]api.Cell{pictureRow("....")}, 61)},
		"a lone tail":    {Rows: [][]api.Cell{{{}}}},
		"half of a wide": {Rows: [][]api.Cell{{drawing['W']}}},
	}
	for name, do := range map[string]func(*api.Frame){
		"an empty first row":     func(f *api.Frame) { f.Rows[0] = nil },
		"an empty last row":      func(f *api.Frame) { f.Rows[2] = nil },
		"a shorter row":          func(f *api.Frame) { f.Rows[1] = f.Rows[1][:2] },
		"a longer row":           func(f *api.Frame) { f.Rows[2] = append(f.Rows[2], drawing['.']) },
		"a zero cell":            func(f *api.Frame) { f.Rows[2][0] = api.Cell{} },
		"two clusters":           func(f *api.Frame) { f.Rows[0][0].S = "ab" },
		"a mark alone":           func(f *api.Frame) { f.Rows[0][0].S = "\u0301" },
		"a control":              func(f *api.Frame) { f.Rows[0][0].S = "\n" },
		"a bell behind a base":   func(f *api.Frame) { f.Rows[0][0].S = "a\a" },
		"a sequence":             func(f *api.Frame) { f.Rows[0][0].S = "\x1b[2J" },
		"a byte that is no rune": func(f *api.Frame) { f.Rows[0][0].S = "\xff" },
		"a cell too long":        func(f *api.Frame) { f.Rows[0][0].S = "a" + strings.Repeat("\u0301", 32) },
		"a wrong width":          func(f *api.Frame) { f.Rows[0][0].W = 2 },
		"a wide cell of 1":       func(f *api.Frame) { f.Rows[0][1].W = 1 },
		"a lost tail":            func(f *api.Frame) { f.Rows[1][1] = drawing['a'] },
		"a tail of no wide cell": func(f *api.Frame) { f.Rows[0][1] = drawing['a'] },
		"a tail of its own":      func(f *api.Frame) { f.Rows[1][1].Y = bold },
		"a wide cell at the end": func(f *api.Frame) { f.Rows[2][3] = drawing['W'] },
		"a color below":          func(f *api.Frame) { f.Rows[2][3].Y.Fg = -1 },
		"a color above":          func(f *api.Frame) { f.Rows[2][3].Y.Bg = 9 },
		"a cursor above":         func(f *api.Frame) { f.Row = -1 },
		"a cursor below":         func(f *api.Frame) { f.Row = 3 },
		"a cursor ahead":         func(f *api.Frame) { f.Col = -1 },
		"a cursor behind":        func(f *api.Frame) { f.Col = 4 },
		"a cursor far away":      func(f *api.Frame) { f.Row, f.Col = math.MaxInt, math.MinInt },
	} {
		f := valid()
		do(&f)
		all[name] = f
	}
	return all
}

func TestFramesAreValid(t *testing.T) {
	if frame.Check(valid()) != api.OK {
		t.Fatal("valid is not valid")
	}
	for name, f := range notValid() {
		if frame.Check(f) == api.OK {
			t.Errorf("%s: the frame is valid", name)
		}
	}
	d := dice(1)
	f := d.frame(40, 20)
	for range 200 {
		if frame.Check(f) != api.OK {
			t.Fatalf("a frame of dice is not valid: %v", f)
		}
		f = d.near(f)
	}
}
