package region

import (
	"math"
	"slices"
	"strings"

	"placard/api"
)

// What the tests draw and lay out.

var (
	bold  = api.Style{Bold: true, Fg: 3}
	under = api.Style{Under: true, Inverse: true, Bg: 8}
)

// dice yields numbers that are the same in each run.
type dice uint64

func (d *dice) below(n int) int {
	*d = *d*6364136223846793005 + 1442695040888963407
	return int(uint64(*d) >> 33 % uint64(n))
}

// cells returns the cells of a cluster, at most so many.
func (d *dice) cells(most int) []api.Cell {
	y := []api.Style{{}, {}, bold, under}[d.below(4)]
	marks := strings.Repeat("\u0301", d.below(4)*d.below(2))
	if most < 2 || d.below(3) > 0 {
		return []api.Cell{{S: []string{" ", " ", "a", "b", "é"}[d.below(5)] + marks, W: 1, Y: y}}
	}
	return []api.Cell{{S: []string{"漢", "字"}[d.below(2)] + marks, W: 2, Y: y}, {Y: y}}
}

// frame returns a frame in which anything may stand.
func (d *dice) frame(w, rows int) api.Frame {
	f := api.Frame{Row: d.below(rows), Col: d.below(w), Seen: d.below(2) == 0}
	for range rows {
		var cells []api.Cell
		for len(cells) < w {
			cells = append(cells, d.cells(w-len(cells))...)
		}
		f.Rows = append(f.Rows, cells)
	}
	return f
}

// texts are lines of each sort: too long ones, wide ones at the edge, marks
// that stand alone, controls, sequences, and bytes that are no text.
var texts = []string{
	"", " ", "a", "ab", "abcd", strings.Repeat("x", 600), "漢", "a漢", "漢字漢字", "ab漢b", "  a ",
	"e\u0301\u0302x", "\u0301a", "a" + strings.Repeat("\u0301", 40), "漢" + strings.Repeat("\u0301", 40) + "b",
	"\n", "a\nb", "a\tb", "a\r\nb", "\x1b", "\x1b[2J", "\x1b[31mred", "a\x1b[1;1Hb\x1b[", "\a", "\x00a\x7f\u0085b",
	"\xff", "a\xe6\xbc", "\xe6", "\u200b", "a\u200bb", "\ufffd", "\U0001F600!",
}

// lines returns so many of the texts.
func (d *dice) lines(n int) []string {
	var l []string
	for range n {
		l = append(l, texts[d.below(len(texts))])
	}
	return l
}

// whole is a frame whose cells are full, with the cursor somewhere.
func whole(w, rows, row, col int, seen bool) api.Frame {
	f := api.Frame{Row: row, Col: col, Seen: seen}
	for i := range rows {
		y := []api.Style{{}, bold, under}[i%3]
		cells := slices.Repeat([]api.Cell{{S: string(rune('A' + i)), W: 1, Y: y}}, w)
		if w > 1 {
			copy(cells[w-2:], []api.Cell{{S: "漢", W: 2, Y: y}, {Y: y}})
		}
		f.Rows = append(f.Rows, cells)
	}
	return f
}

func copiedFrame(f api.Frame) api.Frame {
	f.Rows = slices.Clone(f.Rows)
	for row, cells := range f.Rows {
		f.Rows[row] = slices.Clone(cells)
	}
	return f
}

// notValid are frames of 3 columns and 2 rows that are not valid, and frames of
// other sizes, by what is wrong with them.
func notValid() map[string]api.Frame {
	all := map[string]api.Frame{
		"nothing":         {},
		"no rows":         {Rows: [][]api.Cell{}, Seen: true},
		"empty rows":      {Rows: [][]api.Cell{{}, {}}},
		"one row less":    whole(3, 1, 0, 0, true),
		"one row more":    whole(3, 3, 0, 0, true),
		"one column less": whole(2, 2, 0, 0, true),
		"one column more": whole(4, 2, 0, 0, true),
		"turned round":    whole(2, 3, 0, 0, true),
		"far too great":   whole(500, 60, 0, 0, true),
		"61 rows":         whole(3, 61, 0, 0, true),
	}
	for name, do := range map[string]func(*api.Frame){
		"a shorter row":       func(f *api.Frame) { f.Rows[1] = f.Rows[1][:2] },
		"a longer row":        func(f *api.Frame) { f.Rows[0] = append(f.Rows[0], space) },
		"an empty row":        func(f *api.Frame) { f.Rows[1] = nil },
		"a zero cell":         func(f *api.Frame) { f.Rows[0][0] = api.Cell{} },
		"two clusters":        func(f *api.Frame) { f.Rows[0][0].S = "ab" },
		"a sequence":          func(f *api.Frame) { f.Rows[0][0].S = "\x1b[2J" },
		"a wrong width":       func(f *api.Frame) { f.Rows[0][0].W = 2 },
		"a lost tail":         func(f *api.Frame) { f.Rows[1][2] = space },
		"a tail of its own":   func(f *api.Frame) { f.Rows[1][2].Y = under },
		"a color that is not": func(f *api.Frame) { f.Rows[0][0].Y.Fg = 9 },
		"a cursor above":      func(f *api.Frame) { f.Row = -1 },
		"a cursor below":      func(f *api.Frame) { f.Row = 2 },
		"a cursor ahead":      func(f *api.Frame) { f.Col = -1 },
		"a cursor behind":     func(f *api.Frame) { f.Col = 3 },
		"a cursor far away":   func(f *api.Frame) { f.Row, f.Col = math.MaxInt, math.MinInt },
	} {
		f := whole(3, 2, 1, 1, true)
		do(&f)
		all[name] = f
	}
	return all
}
