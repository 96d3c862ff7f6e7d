package frame

import (
	"iter"
	"math"
	"slices"
	"strings"
	"testing"

	"placard/api"
)

const wide = "漢"

var (
	space = api.Cell{S: " ", W: 1}
	bold  = api.Style{Bold: true, Fg: 3}
	under = api.Style{Under: true, Inverse: true, Bg: 8}
)

func wideCell(y api.Style) []api.Cell {
	return []api.Cell{{S: wide, W: 2, Y: y}, {Y: y}}
}

// small is a frame of 4 columns and 3 rows, made anew.
func small() api.Frame {
	return api.Frame{
		Rows: [][]api.Cell{
			slices.Concat([]api.Cell{{S: "a", W: 1, Y: bold}}, wideCell(under), []api.Cell{space}),
			slices.Concat(wideCell(bold), wideCell(bold)),
			{space, {S: "e\u0301", W: 1}, {S: " ", W: 1, Y: under}, space},
		},
		Row: 1, Col: 2, Seen: true,
	}
}

func oneRow(cells ...api.Cell) api.Frame {
	return api.Frame{Rows: [][]api.Cell{cells}}
}

// check holds Check against the second reading.
func check(t *testing.T, what string, f api.Frame) {
	t.Helper()
	want := api.ErrFrame
	if readValid(f) {
		want = api.OK
	}
	if e := Check(f); e != want {
		t.Fatalf("%s: Check = %d, not %d", what, e, want)
	}
}

// P9.3: Check

func TestCheck(t *testing.T) {
	if e := Check(small()); e != api.OK {
		t.Errorf("Check = %d", e)
	}
	for _, x := range []struct {
		name string
		do   func(*api.Frame)
	}{
		{"no rows", func(f *api.Frame) { f.Rows = nil }},
		{"empty rows", func(f *api.Frame) { f.Rows = [][]api.Cell{{}, {}, {}} }},
		{"an empty first row", func(f *api.Frame) { f.Rows[0] = nil }},
		{"an empty last row", func(f *api.Frame) { f.Rows[2] = nil }},
		{"a shorter row", func(f *api.Frame) { f.Rows[1] = f.Rows[1][:2] }},
		{"a longer row", func(f *api.Frame) { f.Rows[2] = append(f.Rows[2], space) }},
		{"a first row that is longer", func(f *api.Frame) { f.Rows[0] = append(f.Rows[0], space) }},
		{"a cell without anything", func(f *api.Frame) { f.Rows[2][0] = api.Cell{} }},
		{"an empty S", func(f *api.Frame) { f.Rows[2][0].S = "" }},
		{"two clusters", func(f *api.Frame) { f.Rows[0][0].S = "ab" }},
		{"a mark alone", func(f *api.Frame) { f.Rows[0][0].S = "\u0301" }},
		{"a mark ahead of its base", func(f *api.Frame) { f.Rows[0][0].S = "\u0301a" }},
		{"a control", func(f *api.Frame) { f.Rows[0][0].S = "\t" }},
		{"a control behind a base", func(f *api.Frame) { f.Rows[0][0].S = "a\x07" }},
		{"a byte that is no rune", func(f *api.Frame) { f.Rows[0][0].S = "\xff" }},
		{"a mark that is broken off", func(f *api.Frame) { f.Rows[0][0].S = "a\xcc" }},
		{"a narrow cell of 2 columns", func(f *api.Frame) { f.Rows[0][0].W = 2 }},
		{"a narrow cell of no columns", func(f *api.Frame) { f.Rows[0][0].W = 0 }},
		{"a wide cell of 1 column", func(f *api.Frame) { f.Rows[0][1].W = 1 }},
		{"a wide cell of 3 columns", func(f *api.Frame) { f.Rows[0][1].W = 3 }},
		{"a cell of -1 columns", func(f *api.Frame) { f.Rows[0][0].W = -1 }},
		{"a cell of very many columns", func(f *api.Frame) { f.Rows[0][0].W = math.MaxInt }},
		{"a cell of very few columns", func(f *api.Frame) { f.Rows[0][0].W = math.MinInt }},
		{"a wide cell without its tail", func(f *api.Frame) { f.Rows[0][2] = space }},
		{"a wide cell in the last column", func(f *api.Frame) { f.Rows[0][3] = wideCell(under)[0] }},
		{"a wide cell on a tail", func(f *api.Frame) { f.Rows[1][1] = f.Rows[1][0] }},
		{"a tail without its wide cell", func(f *api.Frame) { f.Rows[0][1] = space }},
		{"a tail in the first column", func(f *api.Frame) { f.Rows[2][0] = api.Cell{} }},
		{"a second tail", func(f *api.Frame) { f.Rows[0][3] = f.Rows[0][2] }},
		{"a tail with an S", func(f *api.Frame) { f.Rows[0][2].S = " " }},
		{"a tail of 1 column", func(f *api.Frame) { f.Rows[0][2].W = 1 }},
		{"a tail of another style", func(f *api.Frame) { f.Rows[0][2].Y.Bold = true }},
		{"a tail of another color", func(f *api.Frame) { f.Rows[0][2].Y.Fg = 1 }},
		{"a color of a cell", func(f *api.Frame) { f.Rows[0][0].Y.Fg = 9 }},
		{"a color behind a cell", func(f *api.Frame) { f.Rows[2][3].Y.Bg = -1 }},
		{"a color of a wide cell and its tail", func(f *api.Frame) { f.Rows[1][2].Y.Bg, f.Rows[1][3].Y.Bg = 9, 9 }},
		{"a cursor ahead of the rows", func(f *api.Frame) { f.Row = -1 }},
		{"a cursor behind the rows", func(f *api.Frame) { f.Row = 3 }},
		{"a cursor ahead of the columns", func(f *api.Frame) { f.Col = -1 }},
		{"a cursor behind the columns", func(f *api.Frame) { f.Col = 4 }},
		{"an invisible cursor behind the columns", func(f *api.Frame) { f.Col, f.Seen = 4, false }},
	} {
		f := small()
		x.do(&f)
		if e := Check(f); e != api.ErrFrame {
			t.Errorf("%s: Check = %d", x.name, e)
		}
		check(t, x.name, f)
	}
	if e := Check(api.Frame{}); e != api.ErrFrame {
		t.Errorf("the zero frame: Check = %d", e)
	}
}

// A cursor may stand on a tail, and need not be visible.
func TestCheckCursor(t *testing.T) {
	for _, seen := range []bool{false, true} {
		for row := -2; row <= 4; row++ {
			for col := -2; col <= 5; col++ {
				f := small()
				f.Row, f.Col, f.Seen = row, col, seen
				want := api.ErrFrame
				if row >= 0 && row < 3 && col >= 0 && col < 4 {
					want = api.OK
				}
				if e := Check(f); e != want {
					t.Errorf("with the cursor at %d, %d: Check = %d", row, col, e)
				}
			}
		}
		for _, far := range []int{math.MinInt, math.MaxInt, 1 << 32, -1 << 32} {
			for _, f := range []api.Frame{{Row: far, Seen: seen}, {Col: far, Seen: seen}} {
				f.Rows = small().Rows
				if e := Check(f); e != api.ErrFrame {
					t.Errorf("with the cursor at %d, %d: Check = %d", f.Row, f.Col, e)
				}
			}
		}
	}
}

func blanks(w, rows int) api.Frame {
	var f api.Frame
	for range rows {
		f.Rows = append(f.Rows, slices.Repeat([]api.Cell{space}, w))
	}
	return f
}

func TestCheckSize(t *testing.T) {
	for _, w := range []int{0, 1, 2, 499, 500, 501, 1000} {
		for _, rows := range []int{0, 1, 2, 59, 60, 61, 120} {
			want := api.ErrFrame
			if w >= 1 && w <= 500 && rows >= 1 && rows <= 60 {
				want = api.OK
			}
			if e := Check(blanks(w, rows)); e != want {
				t.Errorf("%d columns and %d rows: Check = %d", w, rows, e)
			}
		}
	}
}

// What is wrong in one place of a great frame is wrong.
func TestCheckEverywhere(t *testing.T) {
	f := blanks(500, 60)
	for row := range f.Rows {
		for _, col := range []int{0, 1, row * 8, 498, 499} {
			f.Rows[row][col].Y.Fg = 9
			if e := Check(f); e != api.ErrFrame {
				t.Errorf("a color at %d, %d: Check = %d", row, col, e)
			}
			f.Rows[row][col] = space
		}
	}
	if e := Check(f); e != api.OK {
		t.Errorf("Check = %d", e)
	}
}

func TestCheckStyles(t *testing.T) {
	colors := []int{math.MinInt, -1 << 32, -2, -1, 0, 1, 2, 3, 4, 5, 6, 7, 8, 9, 10, 16, 255, 256, 1 << 32, math.MaxInt}
	for _, fg := range colors {
		for _, bg := range colors {
			for bits := range 8 {
				y := api.Style{Bold: bits&1 != 0, Under: bits&2 != 0, Inverse: bits&4 != 0, Fg: fg, Bg: bg}
				want := api.ErrFrame
				if fg >= 0 && fg <= 8 && bg >= 0 && bg <= 8 {
					want = api.OK
				}
				for _, cells := range [][]api.Cell{{space, {S: "a", W: 1, Y: y}}, {{S: " ", W: 1, Y: y}, space}, wideCell(y)} {
					if e := Check(oneRow(cells...)); e != want {
						t.Errorf("%v: Check = %d", cells, e)
					}
				}
			}
		}
	}
}

// Every row of up to four cells that stand, or stand nowhere.
func TestCheckRows(t *testing.T) {
	odd := api.Style{Fg: 9}
	cells := []api.Cell{
		space, {S: "a", W: 1, Y: bold}, {S: wide, W: 2}, {S: wide, W: 2, Y: bold}, {}, {Y: bold},
		{S: wide + "\u0301", W: 2}, {S: "a\u0301", W: 1}, {S: "\u0301"}, {S: "ab", W: 2}, {S: "ab", W: 1},
		{S: wide, W: 1}, {S: "a", W: 2}, {S: "a"}, {W: 1}, {W: 2}, {S: wide, W: 2, Y: odd}, {Y: odd}, {S: "\x01", W: 1}, {W: -1},
	}
	rows := [][]api.Cell{nil}
	for range 4 {
		var longer [][]api.Cell
		for _, row := range rows {
			for _, c := range cells {
				longer = append(longer, slices.Concat(row, []api.Cell{c}))
			}
		}
		rows = longer
		for _, row := range rows {
			f := oneRow(row...)
			if e := Check(f); (e == api.OK) != readValid(f) {
				t.Fatalf("%v: Check = %d", row, e)
			}
		}
	}
}

// Every rune in a cell of its own, of each number of columns.
func TestCheckRunes(t *testing.T) {
	for r := rune(0); r <= 0x10ffff; r++ {
		for w := range 4 {
			f := oneRow(api.Cell{S: string(r), W: w})
			if w == 2 {
				f.Rows[0] = append(f.Rows[0], api.Cell{})
			}
			if e := Check(f); (e == api.OK) != readValid(f) {
				t.Fatalf("%U in %d columns: Check = %d", r, w, e)
			}
		}
	}
}

func TestCheckLongClusters(t *testing.T) {
	for _, base := range []string{"a", "é", wide, "😀"} {
		for _, mark := range []string{"\u0301", "\u20d0", "\U000e0100"} {
			for n := range 40 {
				s := base + strings.Repeat(mark, n)
				w := readCluster(base)
				f := oneRow(api.Cell{S: s, W: w}, api.Cell{})
				if w == 1 {
					f = oneRow(api.Cell{S: s, W: w})
				}
				want := api.ErrFrame
				if len(s) <= 64 {
					want = api.OK
				}
				if e := Check(f); e != want {
					t.Errorf("%d bytes: Check = %d", len(s), e)
				}
			}
		}
	}
	for _, s := range []string{strings.Repeat("a", 1<<20), "a" + strings.Repeat("\u0301", 1<<20), strings.Repeat("\x00", 1<<20)} {
		if e := Check(oneRow(api.Cell{S: s, W: 1})); e != api.ErrFrame {
			t.Errorf("%d bytes: Check = %d", len(s), e)
		}
	}
}

func TestCheckLeavesItsArgument(t *testing.T) {
	f := small()
	Check(f)
	Same(f, f)
	for range Texts(f) {
	}
	if !readSame(f, small()) {
		t.Errorf("the frame is changed: %v", f)
	}
}

// P9.3: Same

func TestSame(t *testing.T) {
	if !Same(small(), small()) || !Same(api.Frame{}, api.Frame{}) {
		t.Error("equal frames are not the same")
	}
	for _, x := range []struct {
		name string
		do   func(*api.Frame)
	}{
		{"the cursor's row", func(f *api.Frame) { f.Row = 2 }},
		{"the cursor's column", func(f *api.Frame) { f.Col = 1 }},
		{"the cursor's visibility", func(f *api.Frame) { f.Seen = false }},
		{"row and column exchanged", func(f *api.Frame) { f.Row, f.Col = 2, 1 }},
		{"an S", func(f *api.Frame) { f.Rows[0][0].S = "b" }},
		{"an S with a mark", func(f *api.Frame) { f.Rows[2][1].S = "e" }},
		{"an S written otherwise", func(f *api.Frame) { f.Rows[2][1].S = "é" }},
		{"a W", func(f *api.Frame) { f.Rows[0][0].W = 2 }},
		{"Bold", func(f *api.Frame) { f.Rows[2][3].Y.Bold = true }},
		{"Under", func(f *api.Frame) { f.Rows[2][3].Y.Under = true }},
		{"Inverse", func(f *api.Frame) { f.Rows[2][3].Y.Inverse = true }},
		{"Fg", func(f *api.Frame) { f.Rows[2][3].Y.Fg = 1 }},
		{"Bg", func(f *api.Frame) { f.Rows[0][0].Y.Bg = 1 }},
		{"a tail's style", func(f *api.Frame) { f.Rows[0][2].Y = bold }},
		{"a row less", func(f *api.Frame) { f.Rows = f.Rows[:2] }},
		{"a row more", func(f *api.Frame) { f.Rows = append(f.Rows, f.Rows[2]) }},
		{"rows exchanged", func(f *api.Frame) { f.Rows[0], f.Rows[1] = f.Rows[1], f.Rows[0] }},
		{"a cell less", func(f *api.Frame) { f.Rows[2] = f.Rows[2][:3] }},
		{"a cell more", func(f *api.Frame) { f.Rows[2] = append(f.Rows[2], space) }},
		{"no rows", func(f *api.Frame) { f.Rows = nil }},
	} {
		f := small()
		x.do(&f)
		if Same(f, small()) || Same(small(), f) {
			t.Errorf("%s: the same", x.name)
		}
		g := small()
		x.do(&g)
		if !Same(f, g) {
			t.Errorf("%s in both: not the same", x.name)
		}
	}
}

// Frames that are not valid are held against each other as well.
func TestSameOfAnything(t *testing.T) {
	frames := []api.Frame{
		{}, {Rows: [][]api.Cell{{}}}, {Rows: [][]api.Cell{{}, {}}}, {Row: -1}, {Col: math.MaxInt}, {Seen: true},
		oneRow(space, space), {Rows: [][]api.Cell{{space}, {space}}}, {Rows: [][]api.Cell{{space}, {space, space}}},
		oneRow(api.Cell{}), oneRow(api.Cell{W: -1}), oneRow(api.Cell{S: "\xff"}), oneRow(api.Cell{S: "\ufffd"}),
		oneRow(api.Cell{Y: api.Style{Fg: 99}}), oneRow(api.Cell{Y: api.Style{Bg: 99}}),
	}
	for i, f := range frames {
		for j, g := range frames {
			if Same(f, g) != (i == j) {
				t.Errorf("Same(%v, %v) = %v", f, g, i != j)
			}
		}
	}
	if !Same(api.Frame{Rows: [][]api.Cell{}}, api.Frame{}) || !Same(oneRow(), api.Frame{Rows: [][]api.Cell{{}}}) {
		t.Error("nil and empty slices are not equivalent")
	}
}

// P9.3: Texts

// collect is what an iterator yields before it is stopped behind most rows.
func collect(t *testing.T, rows iter.Seq2[int, string], most int) []string {
	t.Helper()
	var all []string
	rows(func(row int, s string) bool {
		if row != len(all) || row >= most {
			t.Errorf("row %d is yielded behind %d rows, of which %d are wanted", row, len(all), most)
		}
		all = append(all, s)
		return len(all) < most
	})
	return all
}

func TestTexts(t *testing.T) {
	want := []string{"a" + wide + " ", wide + wide, " e\u0301  "}
	texts := Texts(small())
	for most := 1; most <= 4; most++ {
		if got := collect(t, texts, most); !slices.Equal(got, want[:min(most, 3)]) {
			t.Errorf("stopped at %d: %q", most, got)
		}
	}
	n := 0
	for row, s := range texts {
		for other := range texts {
			if other > row {
				break
			}
			n++
		}
		if s != want[row] {
			t.Errorf("row %d is %q", row, s)
		}
	}
	if n != 6 {
		t.Errorf("%d rows within the rows", n)
	}
}

func TestTextsOfAnything(t *testing.T) {
	for _, f := range []api.Frame{
		{}, {Rows: [][]api.Cell{{}}}, {Rows: [][]api.Cell{{}, {space}, nil}, Row: -1, Col: 9},
		oneRow(api.Cell{S: "\xff\x00"}, api.Cell{S: "ab", W: -5}, api.Cell{}, api.Cell{S: "c  "}),
		{Rows: [][]api.Cell{{space, space}, {{S: "a"}}, {{S: "\u0301"}, {S: "b"}}}},
		blanks(501, 61),
	} {
		if got, want := collect(t, Texts(f), 99), readTexts(f); !slices.Equal(got, want) {
			t.Errorf("%q, not %q", got, want)
		}
	}
}

// The frame is not retained: what is done to it later is not seen.
func TestTextsOfAFrameThatChanges(t *testing.T) {
	f := small()
	texts := Texts(f)
	want := readTexts(f)
	f.Rows[0][0].S = "x"
	f.Rows[1] = f.Rows[1][:1]
	if got := collect(t, texts, 9); !slices.Equal(got, want) {
		t.Errorf("changed ahead of the loop: %q", got)
	}
	f = small()
	var got []string
	for row, s := range Texts(f) {
		f.Rows[2][0].S = "x"
		f.Rows[row] = nil
		got = append(got, s)
	}
	if !slices.Equal(got, want) {
		t.Errorf("changed in the loop: %q", got)
	}
}
