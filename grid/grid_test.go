package grid

import (
	"iter"
	"math"
	"slices"
	"strings"
	"testing"

	"placard/api"
)

const wide = "漢"

var (
	space = api.Cell{S: " ", W: 1}
	bold  = api.Style{Bold: true, Fg: 3}
	under = api.Style{Under: true, Inverse: true, Bg: 8}
)

// thing is what stands in a row from its column on.
type thing struct {
	s string
	w int
	y api.Style
}

// sheet is a grid as the chapter defines it, read a second time: what was put
// where, a wide thing once and blanks not at all.
type sheet struct {
	w    int
	rows []map[int]thing
}

func newSheet(w, h int) *sheet {
	s := &sheet{w: w}
	for range h {
		s.rows = append(s.rows, map[int]thing{})
	}
	return s
}

func (s *sheet) has(row, col int) bool {
	return 0 <= row && row < len(s.rows) && 0 <= col && col < s.w
}

// start is the column of the thing that covers a position, if one does.
func (s *sheet) start(row, col int) (int, bool) {
	if _, ok := s.rows[row][col]; ok {
		return col, true
	}
	return col - 1, s.rows[row][col-1].w == 2
}

func (s *sheet) blank(row, col int) {
	if at, ok := s.start(row, col); ok {
		delete(s.rows[row], at)
	}
}

func (s *sheet) put(row, col int, text string, w int, y api.Style) api.Errno {
	if len(text) < 1 || len(text) > 64 || w < 1 || w > 2 {
		return api.ErrArg
	}
	if !s.has(row, col) || !s.has(row, col+w-1) {
		return api.ErrRange
	}
	s.blank(row, col)
	if w == 2 {
		s.blank(row, col+1)
	}
	s.rows[row][col] = thing{text, w, y}
	return api.OK
}

func (s *sheet) join(row, col int, text string) (bool, api.Errno) {
	if !s.has(row, col) {
		return false, api.ErrRange
	}
	at, ok := s.start(row, col)
	if !ok {
		at, s.rows[row][col] = col, thing{" ", 1, api.Style{}}
	}
	longer := s.rows[row][at]
	longer.s += text
	if len(longer.s) > 64 {
		return false, api.OK
	}
	s.rows[row][at] = longer
	return true, api.OK
}

func (s *sheet) erase(row, from, to int) api.Errno {
	if !s.has(row, 0) {
		return api.ErrRange
	}
	for col := range s.w {
		if from <= col && col < to {
			s.blank(row, col)
		}
	}
	return api.OK
}

func (s *sheet) scroll(n int) int {
	removed := 0
	for removed < n && removed < len(s.rows) {
		s.rows = append(s.rows[1:], map[int]thing{})
		removed++
	}
	return removed
}

func (s *sheet) resize(w, h, row int) (int, api.Errno) {
	if w < 1 || w > 500 || h < 1 || h > 500 {
		return 0, api.ErrGrid
	}
	if !s.has(row, 0) {
		return 0, api.ErrRange
	}
	s.w = w
	for _, things := range s.rows {
		for col, x := range things {
			if col+x.w > w {
				delete(things, col)
			}
		}
	}
	for len(s.rows) < h {
		s.rows = append(s.rows, map[int]thing{})
	}
	for len(s.rows) > h && len(s.rows) > row+1 {
		s.rows = s.rows[:len(s.rows)-1]
	}
	removed := 0
	for len(s.rows) > h {
		s.rows = s.rows[1:]
		removed++
	}
	return removed, api.OK
}

func (s *sheet) cells(row int) []api.Cell {
	cells := slices.Repeat([]api.Cell{space}, s.w)
	for col, x := range s.rows[row] {
		cells[col] = api.Cell{S: x.s, W: x.w, Y: x.y}
		if x.w == 2 {
			cells[col+1] = api.Cell{S: "", W: 0, Y: x.y}
		}
	}
	return cells
}

func (s *sheet) fork() *sheet {
	other := &sheet{w: s.w}
	for _, things := range s.rows {
		m := map[int]thing{}
		for col, x := range things {
			m[col] = x
		}
		other.rows = append(other.rows, m)
	}
	return other
}

// agree holds all that a grid tells against a sheet.
func agree(t *testing.T, what string, g *Grid, s *sheet) {
	t.Helper()
	if w, h := g.Size(); w != s.w || h != len(s.rows) {
		t.Fatalf("%s: %d columns and %d rows, not %d and %d", what, w, h, s.w, len(s.rows))
	}
	for row := range s.rows {
		want := s.cells(row)
		if got := g.Row(row); !slices.Equal(got, want) {
			t.Fatalf("%s: row %d is %v, not %v", what, row, got, want)
		}
		text := ""
		for col, c := range want {
			text += c.S
			if got, ok := g.Cell(row, col); got != c || !ok {
				t.Fatalf("%s: the cell at %d, %d is %v, %v, not %v", what, row, col, got, ok, c)
			}
		}
		for strings.HasSuffix(text, " ") {
			text = text[:len(text)-1]
		}
		if got := g.Text(row); got != text {
			t.Fatalf("%s: the text of row %d is %q, not %q", what, row, got, text)
		}
	}
}

func must(t *testing.T, w, h int) *Grid {
	t.Helper()
	g, e := New(w, h)
	if g == nil || e != api.OK {
		t.Fatalf("New(%d, %d) = %v, %d", w, h, g, e)
	}
	return g
}

// pictures are all rows of w columns: . a blank, a and b things of one column,
// W a wide one.
func pictures(w int) []string {
	if w == 0 {
		return []string{""}
	}
	var all []string
	for _, rest := range pictures(w - 1) {
		all = append(all, "."+rest, "a"+rest, "b"+rest)
	}
	if w >= 2 {
		for _, rest := range pictures(w - 2) {
			all = append(all, "W"+rest)
		}
	}
	return all
}

// drawn is a grid, and a sheet, on which each row is as its picture.
func drawn(t *testing.T, w int, pictures ...string) (*Grid, *sheet) {
	t.Helper()
	g, s := must(t, w, len(pictures)), newSheet(w, len(pictures))
	for row, p := range pictures {
		col := 0
		for _, r := range p {
			x := thing{string(r), 1, bold}
			if r == 'W' {
				x = thing{wide, 2, under}
			}
			if r != '.' {
				if e := g.Put(row, col, x.s, x.w, x.y); e != api.OK {
					t.Fatalf("%q: Put at %d: %d", p, col, e)
				}
				s.rows[row][col] = x
			}
			col += x.w
		}
	}
	agree(t, strings.Join(pictures, "|"), g, s)
	return g, s
}

// shown is what drawn is given, told of a grid.
func shown(g *Grid) string {
	var rows []string
	for _, cells := range g.Rows() {
		p := ""
		for _, c := range cells {
			switch {
			case c == space:
				p += "."
			case c.W == 2:
				p += "W"
			case c.W == 1:
				p += c.S
			}
		}
		rows = append(rows, p)
	}
	return strings.Join(rows, "|")
}

// P4.1

func TestNew(t *testing.T) {
	for _, x := range []struct{ w, h int }{{1, 1}, {1, 500}, {500, 1}, {500, 500}, {499, 2}, {80, 24}} {
		g := must(t, x.w, x.h)
		if w, h := g.Size(); w != x.w || h != x.h {
			t.Errorf("New(%d, %d) has %d columns and %d rows", x.w, x.h, w, h)
		}
		n := 0
		for row, cells := range g.Rows() {
			if row != n || len(cells) != x.w || slices.ContainsFunc(cells, func(c api.Cell) bool { return c != space }) {
				t.Fatalf("New(%d, %d): row %d is %v", x.w, x.h, row, cells)
			}
			n++
		}
		if n != x.h {
			t.Errorf("New(%d, %d) enumerates %d rows", x.w, x.h, n)
		}
	}
	for _, n := range []int{0, -1, 501, math.MinInt, math.MaxInt} {
		for _, x := range []struct{ w, h int }{{n, 1}, {1, n}, {n, 500}, {500, n}, {n, n}} {
			if g, e := New(x.w, x.h); g != nil || e != api.ErrGrid {
				t.Errorf("New(%d, %d) = %v, %d", x.w, x.h, g, e)
			}
		}
	}
}

// outside are positions that a grid of 4 columns and 2 rows has not.
var outside = []struct{ row, col int }{
	{-1, 0}, {2, 0}, {0, -1}, {0, 4}, {1, 4}, {-1, -1}, {2, 4}, {0, 500},
	{math.MinInt, 0}, {math.MaxInt, 0}, {0, math.MinInt}, {0, math.MaxInt}, {math.MaxInt, math.MaxInt},
}

func TestCell(t *testing.T) {
	g, _ := drawn(t, 4, "aW.", ".b.a")
	for _, x := range []struct {
		row, col int
		want     api.Cell
	}{
		{0, 0, api.Cell{S: "a", W: 1, Y: bold}},
		{0, 1, api.Cell{S: wide, W: 2, Y: under}},
		{0, 2, api.Cell{S: "", W: 0, Y: under}},
		{0, 3, api.Cell{S: " ", W: 1}},
		{1, 0, api.Cell{S: " ", W: 1}},
		{1, 3, api.Cell{S: "a", W: 1, Y: bold}},
	} {
		if got, ok := g.Cell(x.row, x.col); got != x.want || !ok {
			t.Errorf("Cell(%d, %d) = %v, %v", x.row, x.col, got, ok)
		}
	}
	for _, x := range outside {
		if got, ok := g.Cell(x.row, x.col); got != (api.Cell{}) || ok {
			t.Errorf("Cell(%d, %d) = %v, %v", x.row, x.col, got, ok)
		}
	}
}

func TestRow(t *testing.T) {
	g, s := drawn(t, 4, "aW.", ".b.a")
	want := []api.Cell{{S: "a", W: 1, Y: bold}, {S: wide, W: 2, Y: under}, {Y: under}, {S: " ", W: 1}}
	if got := g.Row(0); !slices.Equal(got, want) {
		t.Errorf("Row(0) = %v", got)
	}
	for _, row := range []int{-1, 2, 3, math.MinInt, math.MaxInt} {
		if got := g.Row(row); len(got) != 0 {
			t.Errorf("Row(%d) = %v", row, got)
		}
		if got := g.Text(row); got != "" {
			t.Errorf("Text(%d) = %q", row, got)
		}
	}
	one, other := g.Row(0), g.Row(0)
	one[0].S = "x"
	_ = append(one[:0], make([]api.Cell, 9)...)
	agree(t, "a row is changed by its receiver", g, s)
	if !slices.Equal(other, want) {
		t.Errorf("two results share memory: %v", other)
	}
	g.Put(0, 0, "y", 1, bold)
	if !slices.Equal(other, want) {
		t.Errorf("a result shares memory with the grid: %v", other)
	}
}

func TestText(t *testing.T) {
	type put struct {
		col int
		s   string
		w   int
		y   api.Style
	}
	for _, x := range []struct {
		name string
		puts []put
		want string
	}{
		{"nothing", nil, ""},
		{"at the beginning", []put{{0, "a", 1, bold}}, "a"},
		{"at the end", []put{{5, "a", 1, bold}}, "     a"},
		{"spaces between", []put{{1, "a", 1, bold}, {3, "b", 1, bold}}, " a b"},
		{"a tail adds nothing", []put{{0, wide, 2, bold}, {2, "b", 1, bold}}, wide + "b"},
		{"trailing spaces that are no blanks", []put{{1, "a", 1, bold}, {3, " ", 1, bold}, {4, " ", 2, under}}, " a"},
		{"spaces at the end of what stands in a cell", []put{{1, "a  ", 1, bold}}, " a"},
		{"spaces within it", []put{{1, "a b", 1, bold}}, " a b"},
		{"other white space", []put{{5, "\t", 1, bold}}, "     \t"},
		{"a wide space", []put{{4, "\u3000", 2, bold}}, "    \u3000"},
		{"a space that does not break", []put{{2, "\u00a0", 1, bold}}, "  \u00a0"},
		{"no UTF-8", []put{{1, "\xff\xa0", 1, bold}}, " \xff\xa0"},
		{"several clusters in one cell", []put{{0, "abc", 1, bold}, {1, wide + wide, 2, bold}}, "abc" + wide + wide},
	} {
		g := must(t, 6, 1)
		for _, p := range x.puts {
			if e := g.Put(0, p.col, p.s, p.w, p.y); e != api.OK {
				t.Fatalf("%s: %d", x.name, e)
			}
		}
		if got := g.Text(0); got != x.want {
			t.Errorf("%s: %q, not %q", x.name, got, x.want)
		}
	}
}

// numbered is a row with its number.
type numbered struct {
	row   int
	cells []api.Cell
}

func sameRows(a, b []numbered) bool {
	return slices.EqualFunc(a, b, func(a, b numbered) bool { return a.row == b.row && slices.Equal(a.cells, b.cells) })
}

// collect is what an iterator yields before it is stopped behind most rows.
func collect(rows iter.Seq2[int, []api.Cell], most int) []numbered {
	var all []numbered
	rows(func(row int, cells []api.Cell) bool {
		all = append(all, numbered{row, cells})
		return len(all) < most
	})
	return all
}

func TestRows(t *testing.T) {
	g, s := drawn(t, 4, "aW.", ".b.a", "....", "WW", "abab")
	var want []numbered
	for row := range s.rows {
		want = append(want, numbered{row, s.cells(row)})
	}
	rows := g.Rows()
	for most := 1; most <= 6; most++ {
		if got := collect(rows, most); !sameRows(got, want[:min(most, 5)]) {
			t.Errorf("stopped at %d: %v", most, got)
		}
	}
	var got []numbered
	for range rows {
		for row, cells := range rows {
			got = append(got, numbered{row, cells})
		}
	}
	if len(got) != 25 || !sameRows(got[:5], want) || !sameRows(got[20:], want) {
		t.Errorf("inside itself: %v", got)
	}
}

func TestRowsAreNew(t *testing.T) {
	g, s := drawn(t, 4, "aW.", ".b.a")
	rows := g.Rows()
	want := collect(g.Rows(), 9)
	for _, cells := range rows {
		clear(cells)
	}
	agree(t, "the rows are changed by their receiver", g, s)
	if got := collect(rows, 9); !sameRows(got, want) {
		t.Errorf("ranged over again: %v", got)
	}
	// What an iterator yields hangs on the calls before Rows.
	g.Put(1, 0, "x", 1, bold)
	g.Scroll(1)
	g.Resize(2, 7, 0)
	if got := collect(rows, 9); !sameRows(got, want) {
		t.Errorf("behind changes of the grid: %v", got)
	}
	g, _ = drawn(t, 4, "aW.", ".b.a")
	var got []numbered
	for row, cells := range g.Rows() {
		got = append(got, numbered{row, cells})
		g.Resize(1, 1, 0)
	}
	if !sameRows(got, want) {
		t.Errorf("while the grid is changed: %v", got)
	}
}

func TestSame(t *testing.T) {
	grids := []*Grid{must(t, 1, 1), must(t, 6, 1), must(t, 1, 6), must(t, 2, 3), must(t, 3, 2)}
	for _, p := range []string{"aW.|....", "aW.|...a", "bW.|....", ".aW|....", "a...|....", "....|aW."} {
		g, _ := drawn(t, 4, strings.Split(p, "|")...)
		grids = append(grids, g)
	}
	for _, x := range []struct {
		s string
		w int
		y api.Style
	}{
		{"c", 1, api.Style{}},
		{"d", 1, api.Style{}},
		{"c", 2, api.Style{}},
		{"c", 1, api.Style{Bold: true}},
		{"c", 1, api.Style{Under: true}},
		{"c", 1, api.Style{Inverse: true}},
		{"c", 1, api.Style{Fg: 1}},
		{"c", 1, api.Style{Bg: 1}},
		{"c", 1, api.Style{Fg: -1, Bg: 1000}},
		{" ", 1, api.Style{Fg: 2}},
		{" ", 2, api.Style{}},
	} {
		g := must(t, 4, 2)
		g.Put(0, 1, x.s, x.w, x.y)
		grids = append(grids, g)
	}
	for i, a := range grids {
		for j, b := range grids {
			if got := a.Same(b); got != (i == j) {
				t.Errorf("Same of %d and %d: %v", i, j, got)
			}
		}
		if !a.Same(a.Fork()) || !a.Fork().Same(a) {
			t.Errorf("%d is not the same as its copy", i)
		}
	}
	g := must(t, 3, 2)
	g.Put(1, 1, " ", 1, api.Style{})
	if !g.Same(must(t, 3, 2)) {
		t.Error("a space in the default style is no blank")
	}
}

// changes are calls that change a grid of 4 columns and 3 rows.
var changes = []struct {
	name string
	do   func(*Grid)
}{
	{"Put", func(g *Grid) { g.Put(0, 1, "x", 1, under) }},
	{"Put of a wide cell", func(g *Grid) { g.Put(2, 1, wide, 2, under) }},
	{"Join", func(g *Grid) { g.Join(1, 1, "x") }},
	{"Erase", func(g *Grid) { g.Erase(1, 0, 4) }},
	{"Scroll", func(g *Grid) { g.Scroll(1) }},
	{"Scroll of all", func(g *Grid) { g.Scroll(3) }},
	{"Resize to fewer", func(g *Grid) { g.Resize(2, 2, 2) }},
	{"Resize to more", func(g *Grid) { g.Resize(9, 9, 0) }},
}

func TestFork(t *testing.T) {
	for _, x := range changes {
		g, s := drawn(t, 4, "aW.", ".b.a", "WW")
		fork := g.Fork()
		agree(t, "the copy", fork, s)
		x.do(g)
		if g.Same(fork) {
			t.Errorf("%s changes nothing", x.name)
		}
		agree(t, "the copy behind "+x.name, fork, s)
		later := fork.Fork()
		x.do(fork)
		if !fork.Same(g) {
			t.Errorf("%s does another thing to the copy", x.name)
		}
		agree(t, "the original behind "+x.name, later, s)
	}
}

// What a row had before the rows moved must not be changed by what is done later.
func TestRowsDoNotShare(t *testing.T) {
	for _, x := range changes {
		g, _ := drawn(t, 4, "aW.", ".b.a", "WW")
		x.do(g)
		_, h := g.Size()
		for row := range h {
			fork := g.Fork()
			fork.Put(row, 0, "!", 1, bold)
			for other := range h {
				if other != row && !slices.Equal(fork.Row(other), g.Row(other)) {
					t.Errorf("behind %s, Put into row %d changes row %d", x.name, row, other)
				}
			}
		}
	}
}

// P4.2

func TestExample(t *testing.T) {
	g := must(t, 4, 1)
	g.Put(0, 1, wide, 2, bold)
	g.Put(0, 2, "x", 1, under)
	want := []api.Cell{space, space, {S: "x", W: 1, Y: under}, space}
	if got := g.Row(0); !slices.Equal(got, want) {
		t.Errorf("the row is %v", got)
	}
}

func TestPut(t *testing.T) {
	for _, x := range []struct {
		name, before string
		col, w       int
		after        string
	}{
		{"a narrow one on a blank", "....", 1, 1, ".x.."},
		{"a narrow one on a narrow one", "aaaa", 3, 1, "aaax"},
		{"a narrow one on a wide one", "aWa", 1, 1, "ax.a"},
		{"a narrow one on a tail", "aWa", 2, 1, "a.xa"},
		{"a narrow one beside wide ones", "WW", 0, 1, "x.W"},
		{"a wide one on blanks", "....", 0, 2, "W.."},
		{"a wide one at the end", "aaaa", 2, 2, "aaW"},
		{"a wide one on a wide one", "aWa", 1, 2, "aWa"},
		{"a wide one on a wide one's beginning", "aWa", 0, 2, "W.a"},
		{"a wide one on a wide one's end", "aWa", 2, 2, "a.W"},
		{"a wide one on two", "WW", 1, 2, ".W."},
	} {
		g, _ := drawn(t, 4, "abab", x.before, "WW")
		s := "x"
		if x.w == 2 {
			s = wide
		}
		if e := g.Put(1, x.col, s, x.w, under); e != api.OK || shown(g) != "abab|"+x.after+"|WW" {
			t.Errorf("%s: %d, %q", x.name, e, shown(g))
		}
		if c, ok := g.Cell(1, x.col); c != (api.Cell{S: s, W: x.w, Y: under}) || !ok {
			t.Errorf("%s: the cell is %v", x.name, c)
		}
		if c, _ := g.Cell(1, x.col+1); x.w == 2 && c != (api.Cell{S: "", W: 0, Y: under}) {
			t.Errorf("%s: the tail is %v", x.name, c)
		}
	}
}

func TestPutAnything(t *testing.T) {
	for _, s := range []string{
		"a", " ", "\x00", "\xff", "\x1b[2J", "a\u0301", wide + "a", strings.Repeat("a", 64), strings.Repeat("\xff", 63),
	} {
		for w := 1; w <= 2; w++ {
			for _, y := range []api.Style{{}, bold, under, {Fg: -7, Bg: math.MaxInt}} {
				g, x := must(t, 3, 2), newSheet(3, 2)
				x.rows[1][1] = thing{s, w, y}
				if e := g.Put(1, 1, s, w, y); e != api.OK {
					t.Errorf("Put of %q, %d, %v: %d", s, w, y, e)
				}
				agree(t, "Put", g, x)
			}
		}
	}
}

func TestPutRefuses(t *testing.T) {
	type refused struct {
		name     string
		row, col int
		s        string
		w        int
		e        api.Errno
	}
	all := []refused{
		{"nothing", 0, 0, "", 1, api.ErrArg},
		{"nothing, wide", 0, 0, "", 2, api.ErrArg},
		{"65 bytes", 0, 0, strings.Repeat("a", 65), 1, api.ErrArg},
		{"64 bytes and a mark", 0, 0, strings.Repeat("a", 64) + "\u0301", 2, api.ErrArg},
		{"very much", 0, 0, strings.Repeat("a", 100000), 1, api.ErrArg},
		{"no columns", 0, 0, "a", 0, api.ErrArg},
		{"3 columns", 0, 0, "a", 3, api.ErrArg},
		{"-1 columns", 0, 0, "a", -1, api.ErrArg},
		{"the least columns", 0, 0, "a", math.MinInt, api.ErrArg},
		{"the most columns", 0, 0, "a", math.MaxInt, api.ErrArg},
		{"a wide one in the last column", 0, 3, wide, 2, api.ErrRange},
		{"a wide one at the end of the last row", 1, 3, wide, 2, api.ErrRange},
		{"a wide one ahead of the first column", 0, -1, wide, 2, api.ErrRange},
	}
	for _, x := range outside {
		for w := 1; w <= 2; w++ {
			all = append(all, refused{"outside", x.row, x.col, "a", w, api.ErrRange})
		}
		all = append(all,
			refused{"outside, and nothing", x.row, x.col, "", 1, api.ErrArg},
			refused{"outside, and 3 columns", x.row, x.col, "a", 3, api.ErrArg},
			refused{"outside, and 65 bytes", x.row, x.col, strings.Repeat("a", 65), 2, api.ErrArg})
	}
	g, s := drawn(t, 4, "aW.", "WW")
	for _, x := range all {
		if e := g.Put(x.row, x.col, x.s, x.w, bold); e != x.e {
			t.Errorf("%s: Put at %d, %d answers %d, not %d", x.name, x.row, x.col, e, x.e)
		}
		agree(t, x.name, g, s)
	}
	g = must(t, 1, 3)
	if e := g.Put(1, 0, wide, 2, bold); e != api.ErrRange {
		t.Errorf("a wide one in a grid of one column: %d", e)
	}
}

func TestJoin(t *testing.T) {
	long := strings.Repeat("a", 60)
	for _, x := range []struct {
		name   string
		put    string
		w, col int
		s      string
		want   string
		ok     bool
	}{
		{"to a narrow one", "a", 1, 1, "\u0301", "a\u0301", true},
		{"to a wide one", wide, 2, 1, "\u0301", wide + "\u0301", true},
		{"to a tail", wide, 2, 2, "\u0301", wide + "\u0301", true},
		{"nothing", "a", 1, 1, "", "a", true},
		{"nothing to a tail", wide, 2, 2, "", wide, true},
		{"what is no UTF-8", "a", 1, 1, "\xff\x00", "a\xff\x00", true},
		{"up to the limit", long, 1, 1, "1234", long + "1234", true},
		{"up to the limit at a tail", long, 2, 2, "1234", long + "1234", true},
		{"beyond the limit", long, 1, 1, "12345", long, false},
		{"beyond the limit at a tail", long, 2, 2, "12345", long, false},
		{"far beyond it", long, 2, 1, strings.Repeat("b", 100000), long, false},
		{"the greatest", "a", 1, 1, strings.Repeat("b", 63), "a" + strings.Repeat("b", 63), true},
		{"nothing to the longest", long + "1234", 1, 1, "", long + "1234", true},
		{"a byte to the longest", long + "1234", 1, 1, "5", long + "1234", false},
	} {
		g, s := drawn(t, 4, "abab", "WW", "abab")
		if g.Put(1, 1, x.put, x.w, under) != api.OK {
			t.Fatal(x.name)
		}
		s.rows[1] = map[int]thing{1: {x.want, x.w, under}}
		if x.w == 1 {
			s.rows[1][2] = thing{wide, 2, under}
		}
		if ok, e := g.Join(1, x.col, x.s); ok != x.ok || e != api.OK {
			t.Errorf("%s: %v, %d", x.name, ok, e)
		}
		agree(t, x.name, g, s)
	}
	g, s := drawn(t, 4, "aW.", "WW")
	for _, x := range outside {
		for _, text := range []string{"", "x", strings.Repeat("x", 65)} {
			if ok, e := g.Join(x.row, x.col, text); ok || e != api.ErrRange {
				t.Errorf("Join at %d, %d: %v, %d", x.row, x.col, ok, e)
			}
		}
	}
	agree(t, "Join outside", g, s)
}

func TestJoinBlank(t *testing.T) {
	g := must(t, 3, 2)
	ok, e := g.Join(0, 1, "\u0301")
	want := []api.Cell{space, {S: " \u0301", W: 1}, space}
	if got := g.Row(0); !ok || e != api.OK || !slices.Equal(got, want) {
		t.Errorf("Join to a blank: %v, %d, %v", ok, e, got)
	}
	if c, _ := g.Cell(1, 1); c != space {
		t.Errorf("another blank becomes %v", c)
	}
	if c, _ := must(t, 1, 1).Cell(0, 0); c != space {
		t.Errorf("a later grid's blank is %v", c)
	}
}

// P4.3

func TestErase(t *testing.T) {
	for _, x := range []struct {
		name, before string
		from, to     int
		after        string
	}{
		{"some", "abab", 1, 3, "a..b"},
		{"one", "abab", 3, 4, "aba."},
		{"all", "aWb", 0, 4, "...."},
		{"all, and what is not there", "aWb", -7, 99, "...."},
		{"all, with the greatest numbers", "aWb", math.MinInt, math.MaxInt, "...."},
		{"from ahead of the row", "abab", -3, 1, ".bab"},
		{"to behind the row", "abab", 2, 9, "ab.."},
		{"none", "aWb", 1, 1, "aWb"},
		{"none of a wide one", "aWb", 2, 2, "aWb"},
		{"the wrong way", "aWb", 3, 1, "aWb"},
		{"all the wrong way", "aWb", math.MaxInt, math.MinInt, "aWb"},
		{"ahead of the row", "aWb", -5, 0, "aWb"},
		{"behind the row", "aWb", 4, 9, "aWb"},
		{"from a tail", "aWb", 2, 3, "a..b"},
		{"to a tail", "aWb", 1, 2, "a..b"},
		{"a wide one", "aWb", 1, 3, "a..b"},
		{"from a tail to a tail", "WW", 1, 3, "...."},
		{"between wide ones", "WW", 2, 4, "W.."},
	} {
		g, _ := drawn(t, 4, "abab", x.before, "WW")
		if e := g.Erase(1, x.from, x.to); e != api.OK || shown(g) != "abab|"+x.after+"|WW" {
			t.Errorf("%s: %d, %q", x.name, e, shown(g))
		}
	}
	g, s := drawn(t, 4, "aW.", "WW")
	for _, row := range []int{-1, 2, 500, math.MinInt, math.MaxInt} {
		if e := g.Erase(row, 0, 4); e != api.ErrRange {
			t.Errorf("Erase of row %d: %d", row, e)
		}
		if e := g.Erase(row, 3, 1); e != api.ErrRange {
			t.Errorf("Erase of nothing of row %d: %d", row, e)
		}
	}
	agree(t, "Erase of rows that are not there", g, s)
}

func TestScroll(t *testing.T) {
	for _, x := range []struct {
		n, removed int
		after      string
	}{
		{0, 0, "aW.|.b.a|WW|abab"},
		{1, 1, ".b.a|WW|abab|...."},
		{2, 2, "WW|abab|....|...."},
		{3, 3, "abab|....|....|...."},
		{4, 4, "....|....|....|...."},
		{5, 4, "....|....|....|...."},
		{math.MaxInt, 4, "....|....|....|...."},
		{-1, 0, "aW.|.b.a|WW|abab"},
		{math.MinInt, 0, "aW.|.b.a|WW|abab"},
	} {
		g, _ := drawn(t, 4, "aW.", ".b.a", "WW", "abab")
		if n := g.Scroll(x.n); n != x.removed || shown(g) != x.after {
			t.Errorf("Scroll(%d) = %d, %q", x.n, n, shown(g))
		}
	}
}

// P4.4

func TestResize(t *testing.T) {
	for _, x := range []struct {
		name         string
		w, h, row, n int
		after        string
	}{
		{"as it is", 4, 4, 0, 0, "aW.|.b.a|WW|abab"},
		{"as it is, at the last row", 4, 4, 3, 0, "aW.|.b.a|WW|abab"},
		{"more columns", 6, 4, 1, 0, "aW...|.b.a..|WW..|abab.."},
		{"a column less", 3, 4, 1, 0, "aW|.b.|W.|aba"},
		{"half the columns", 2, 4, 1, 0, "a.|.b|W|ab"},
		{"one column", 1, 4, 1, 0, "a|.|.|a"},
		{"more rows", 4, 6, 3, 0, "aW.|.b.a|WW|abab|....|...."},
		{"fewer rows below the first", 4, 2, 0, 0, "aW.|.b.a"},
		{"fewer rows, the last kept one", 4, 2, 1, 0, "aW.|.b.a"},
		{"fewer rows, from both ends", 4, 2, 2, 1, ".b.a|WW"},
		{"fewer rows above the last", 4, 2, 3, 2, "WW|abab"},
		{"one row, the first", 4, 1, 0, 0, "aW."},
		{"one row, in the middle", 4, 1, 2, 2, "WW"},
		{"one row, the last", 4, 1, 3, 3, "abab"},
		{"less of both", 3, 3, 3, 1, ".b.|W.|aba"},
		{"fewer columns, more rows", 3, 5, 0, 0, "aW|.b.|W.|aba|..."},
		{"more columns, fewer rows", 5, 3, 3, 1, ".b.a.|WW.|abab."},
	} {
		g, _ := drawn(t, 4, "aW.", ".b.a", "WW", "abab")
		if n, e := g.Resize(x.w, x.h, x.row); n != x.n || e != api.OK || shown(g) != x.after {
			t.Errorf("%s: Resize(%d, %d, %d) = %d, %d, %q", x.name, x.w, x.h, x.row, n, e, shown(g))
		}
	}
}

func TestResizeFar(t *testing.T) {
	g, _ := drawn(t, 4, "aW.", ".b.a")
	if n, e := g.Resize(500, 500, 1); n != 0 || e != api.OK {
		t.Errorf("to the greatest: %d, %d", n, e)
	}
	if w, h := g.Size(); w != 500 || h != 500 || g.Text(0) != "a"+wide || g.Text(1) != " b a" {
		t.Errorf("to the greatest: %d, %d, %q, %q", w, h, g.Text(0), g.Text(1))
	}
	if c, ok := g.Cell(499, 499); c != space || !ok {
		t.Errorf("the last cell is %v, %v", c, ok)
	}
	g.Put(499, 0, "z", 1, bold)
	if n, e := g.Resize(1, 1, 499); n != 499 || e != api.OK || shown(g) != "z" {
		t.Errorf("to the least: %d, %d, %q", n, e, shown(g))
	}
}

func TestResizeRefuses(t *testing.T) {
	g, s := drawn(t, 4, "aW.", "WW")
	for _, n := range []int{0, -1, 501, math.MinInt, math.MaxInt} {
		for _, row := range []int{0, 1, -1, 2, math.MaxInt} {
			for _, x := range []struct{ w, h int }{{n, 1}, {1, n}, {n, n}, {500, n}, {n, 500}} {
				if got, e := g.Resize(x.w, x.h, row); got != 0 || e != api.ErrGrid {
					t.Errorf("Resize(%d, %d, %d) = %d, %d", x.w, x.h, row, got, e)
				}
			}
		}
	}
	for _, row := range []int{-1, 2, 3, math.MinInt, math.MaxInt} {
		for _, h := range []int{1, 2, 9} {
			if n, e := g.Resize(3, h, row); n != 0 || e != api.ErrRange {
				t.Errorf("Resize(3, %d, %d) = %d, %d", h, row, n, e)
			}
		}
	}
	agree(t, "refused", g, s)
}

// wellFormed reports whether P4.5 holds for a row of w columns.
func wellFormed(cells []api.Cell, w int) bool {
	sum := 0
	for i, c := range cells {
		sum += c.W
		if c.W == 2 && (i+1 == len(cells) || cells[i+1] != api.Cell{S: "", W: 0, Y: c.Y}) {
			return false
		}
		if c.W == 0 && (i == 0 || cells[i-1].W != 2) {
			return false
		}
		if c.W < 0 || c.W > 2 || c.W > 0 && c.S == "" {
			return false
		}
	}
	return sum == w && len(cells) == w
}

// call is a change, and the same one as the chapter defines it; both answer
// numbers.
type call struct {
	grid  func(*Grid) [2]int
	sheet func(*sheet) [2]int
}

func bit(b bool) int {
	if b {
		return 1
	}
	return 0
}

func put(row, col int, s string, w int, y api.Style) call {
	return call{
		func(g *Grid) [2]int { return [2]int{int(g.Put(row, col, s, w, y))} },
		func(x *sheet) [2]int { return [2]int{int(x.put(row, col, s, w, y))} },
	}
}

func join(row, col int, s string) call {
	return call{
		func(g *Grid) [2]int { ok, e := g.Join(row, col, s); return [2]int{bit(ok), int(e)} },
		func(x *sheet) [2]int { ok, e := x.join(row, col, s); return [2]int{bit(ok), int(e)} },
	}
}

func erase(row, from, to int) call {
	return call{
		func(g *Grid) [2]int { return [2]int{int(g.Erase(row, from, to))} },
		func(x *sheet) [2]int { return [2]int{int(x.erase(row, from, to))} },
	}
}

func scroll(n int) call {
	return call{
		func(g *Grid) [2]int { return [2]int{g.Scroll(n)} },
		func(x *sheet) [2]int { return [2]int{x.scroll(n)} },
	}
}

func resize(w, h, row int) call {
	return call{
		func(g *Grid) [2]int { n, e := g.Resize(w, h, row); return [2]int{n, int(e)} },
		func(x *sheet) [2]int { n, e := x.resize(w, h, row); return [2]int{n, int(e)} },
	}
}

// callsFor are the calls that are tried on a grid of w columns and h rows, with
// the positions around it.
func callsFor(w, h int) []call {
	var all []call
	for row := -1; row <= h; row++ {
		for col := -1; col <= w; col++ {
			all = append(all,
				put(row, col, "x", 1, bold), put(row, col, "y", 2, api.Style{}), put(row, col, " ", 1, api.Style{}),
				join(row, col, "\u0301"), join(row, col, strings.Repeat("j", 40)))
			for to := -1; to <= w+1; to++ {
				all = append(all, erase(row, col, to))
			}
		}
	}
	for n := -1; n <= h+1; n++ {
		all = append(all, scroll(n))
	}
	for w2 := 0; w2 <= w+2; w2++ {
		for h2 := 0; h2 <= h+2; h2++ {
			for row := -1; row <= h; row++ {
				all = append(all, resize(w2, h2, row))
			}
		}
	}
	return all
}

// try does one call to both and holds them against each other, and against P4.5.
func try(t *testing.T, what string, c call, g *Grid, s *sheet) {
	t.Helper()
	if got, want := c.grid(g), c.sheet(s); got != want {
		t.Fatalf("%s: %v, not %v", what, got, want)
	}
	agree(t, what, g, s)
	w, _ := g.Size()
	for row, cells := range g.Rows() {
		if !wellFormed(cells, w) {
			t.Fatalf("%s: row %d is %v", what, row, cells)
		}
	}
}

// Each call, on each row that there can be.
func TestAsDefined(t *testing.T) {
	for w := 1; w <= 5; w++ {
		for _, p := range pictures(w) {
			if strings.Contains(p, "b") { // a and b differ for the tables' sake only
				continue
			}
			other := strings.Repeat("b", w)
			for _, rows := range [][]string{{p}, {other, p}, {p, other}} {
				g, s := drawn(t, w, rows...)
				for i, c := range callsFor(w, len(rows)) {
					try(t, strings.Join(rows, "|"), c, g.Fork(), s.fork())
					if i%97 == 0 {
						agree(t, "the one that was copied", g, s)
					}
				}
			}
		}
	}
}

// Long rows of calls: what one leaves, the next one finds.
func TestWalk(t *testing.T) {
	seed := uint32(1)
	next := func(n int) int {
		seed = seed*1664525 + 1013904223
		return int(seed>>8) % n
	}
	g, s := must(t, 7, 4), newSheet(7, 4)
	for range 30000 {
		w, h := g.Size()
		row, col := next(h+1), next(w+1)
		var c call
		switch k := next(40); {
		case k < 22:
			c = put(row, col, []string{"a", "b", wide}[next(3)], 1+next(2), []api.Style{{}, bold, under}[next(3)])
		case k < 28:
			c = join(row, col, strings.Repeat("m", next(30)))
		case k < 34:
			c = erase(row, col, next(w+2))
		case k < 37:
			c = scroll(next(3))
		default:
			c = resize(1+next(9), 1+next(6), row)
		}
		try(t, "on the way", c, g, s)
	}
}

// P4.5

func TestWellFormed(t *testing.T) {
	for _, w := range []int{1, 2, 3, 499, 500} {
		g := must(t, w, 2)
		for step := range 3 {
			for col := step; col < w; col += 2 + step {
				g.Put(0, col, wide, 2, bold)
				g.Put(0, col*7%w, "x", 1, under)
				g.Put(1, col*5%w, wide, 2, under)
				g.Join(1, col, "\u0301")
			}
			g.Erase(1, step, w/2)
			for row, cells := range g.Rows() {
				if !wellFormed(cells, w) {
					t.Fatalf("row %d of %d columns is %v", row, w, cells)
				}
			}
		}
		for n := w; n >= 1; n-- {
			g.Resize(n, 2, 0)
			for row, cells := range g.Rows() {
				if !wellFormed(cells, n) {
					t.Fatalf("row %d, cut to %d columns, is %v", row, n, cells)
				}
			}
		}
	}
}

// P4.6

func TestLocality(t *testing.T) {
	for w := 1; w <= 6; w++ {
		for _, p := range pictures(w) {
			g, _ := drawn(t, w, "b"+strings.Repeat(".", w-1), p, "b"+strings.Repeat(".", w-1))
			for width := 1; width <= 2; width++ {
				for col := -1; col <= w; col++ {
					after := g.Fork()
					e := after.Put(1, col, "x", width, under)
					for row, cells := range after.Rows() {
						for i, c := range cells {
							near := e == api.OK && row == 1 && col-1 <= i && i <= col+width
							if before, _ := g.Cell(row, i); c != before && !near {
								t.Fatalf("%q: Put at %d of width %d changes %d, %d", p, col, width, row, i)
							}
						}
					}
				}
			}
		}
	}
}

// What is no grid.

func TestInvalid(t *testing.T) {
	made, _ := drawn(t, 4, "aW.", "WW")
	copied := *made
	for _, x := range []struct {
		name string
		g    *Grid
	}{{"nil", nil}, {"composed", &Grid{}}, {"copied", &copied}} {
		g := x.g
		if w, h := g.Size(); w != 0 || h != 0 {
			t.Errorf("%s: Size: %d, %d", x.name, w, h)
		}
		if c, ok := g.Cell(0, 0); c != (api.Cell{}) || ok {
			t.Errorf("%s: Cell: %v, %v", x.name, c, ok)
		}
		if cells := g.Row(0); len(cells) != 0 {
			t.Errorf("%s: Row: %v", x.name, cells)
		}
		if text := g.Text(0); text != "" {
			t.Errorf("%s: Text: %q", x.name, text)
		}
		for _, s := range []string{"a", ""} {
			if e := g.Put(0, 0, s, 1, bold); e != api.ErrNil {
				t.Errorf("%s: Put: %d", x.name, e)
			}
			if ok, e := g.Join(0, 0, s); ok || e != api.ErrNil {
				t.Errorf("%s: Join: %v, %d", x.name, ok, e)
			}
		}
		for _, row := range []int{0, -1} {
			if e := g.Erase(row, 0, 1); e != api.ErrNil {
				t.Errorf("%s: Erase: %d", x.name, e)
			}
			if n, e := g.Resize(row, 1, row); n != 0 || e != api.ErrNil {
				t.Errorf("%s: Resize: %d, %d", x.name, n, e)
			}
		}
		if n := g.Scroll(1); n != 0 {
			t.Errorf("%s: Scroll: %d", x.name, n)
		}
		for row, cells := range g.Rows() {
			t.Errorf("%s: Rows: %d, %v", x.name, row, cells)
		}
		if g.Same(g) || g.Same(made) || made.Same(g) || g.Same(nil) {
			t.Errorf("%s: Same", x.name)
		}
		if f := g.Fork(); f != nil {
			t.Errorf("%s: Fork: %v", x.name, f)
		}
	}
	if shown(made) != "aW.|WW" {
		t.Errorf("the one that was copied is %q", shown(made))
	}
}
