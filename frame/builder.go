package frame

import (
	"placard/api"
	"placard/cluster"
	"placard/grid"
)

// Builder makes a frame of texts.
type Builder struct {
	// self is the builder's own place: a Builder that a caller composed, or
	// copied from another one, is none that this package made.
	self *Builder
	frame
}

// frame is what a builder has made so far. A grid keeps its cells, since that
// keeps each wide cell together with its tail; no field is exported, since a
// caller would reach it through the builder.
type frame struct {
	cells    *grid.Grid
	row, col int
	seen     bool
}

// New returns a builder of w columns and so many rows of blanks.
func New(w, rows int) (*Builder, api.Errno) {
	cells, e := grid.New(w, rows)
	// A grid may have more rows than a frame.
	if e != api.OK || !isSize(w, rows) {
		return nil, api.ErrFrame
	}
	b := &Builder{frame: frame{cells: cells}}
	b.self = b
	return b, api.OK
}

func (b *Builder) made() bool {
	return b != nil && b.self == b
}

// checkRow returns why nothing can be done to a row: there is no builder, or no
// such row.
func (b *Builder) checkRow(row int) api.Errno {
	if !b.made() {
		return api.ErrNil
	}
	if _, rows := b.Size(); !within(row, rows) {
		return api.ErrRange
	}
	return api.OK
}

// Text stores the clusters of a text in a row, from column col on, as far as
// the row goes, and returns the column behind the last one.
func (b *Builder) Text(row, col int, s string, y api.Style) (int, api.Errno) {
	if e := b.checkRow(row); e != api.OK {
		return 0, e
	}
	if w, _ := b.Size(); !within(col, w+1) {
		return 0, api.ErrRange
	}
	if !isStyle(y) {
		return 0, api.ErrArg
	}
	for _, c := range cluster.All(cluster.Flat(s)) {
		columns := cluster.Width(c)
		// The grid refuses a cluster only if the row has no room for it.
		if b.cells.Put(row, col, c, columns, y) != api.OK {
			break
		}
		col += columns
	}
	return col, api.OK
}

// Fill stores blanks of a style in a row, from column from up to but not
// including column to.
func (b *Builder) Fill(row, from, to int, y api.Style) api.Errno {
	if e := b.checkRow(row); e != api.OK {
		return e
	}
	if !isStyle(y) {
		return api.ErrArg
	}
	b.cells.Erase(row, from, to)
	w, _ := b.Size()
	for col := max(from, 0); col < min(to, w); col++ {
		b.cells.Put(row, col, " ", 1, y)
	}
	return api.OK
}

// Cursor sets where the cursor stands, and whether it is visible.
func (b *Builder) Cursor(row, col int, seen bool) api.Errno {
	if e := b.checkRow(row); e != api.OK {
		return e
	}
	if w, _ := b.Size(); !within(col, w) {
		return api.ErrRange
	}
	b.row, b.col, b.seen = row, col, seen
	return api.OK
}

// Frame returns the frame as it is now.
func (b *Builder) Frame() api.Frame {
	if !b.made() {
		return api.Frame{}
	}
	f := api.Frame{Row: b.row, Col: b.col, Seen: b.seen}
	for _, cells := range b.cells.Rows() {
		f.Rows = append(f.Rows, cells)
	}
	return f
}

// Size returns the number of columns and of rows.
func (b *Builder) Size() (w, rows int) {
	if !b.made() {
		return 0, 0
	}
	return b.cells.Size()
}
