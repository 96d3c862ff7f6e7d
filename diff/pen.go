package diff

import (
	"strings"

	"placard/api"
	"placard/esc"
)

// pen collects the bytes that draw into a band of w columns, and keeps what the
// terminal is at behind them: rows are counted from the band's first one.
type pen struct {
	bytes    strings.Builder
	w        int
	row, col int
	pending  bool
	style    api.Style
}

// moveTo moves the cursor to a position and lets no wrap be pending there.
func (p *pen) moveTo(row, col int) {
	move := esc.Move(p.row, p.col, row, col)
	if p.pending && move == "" {
		// Only a movement ends a pending wrap, even where there is no way to
		// go.
		move = esc.Column(col)
	}
	p.bytes.WriteString(move)
	p.row, p.col, p.pending = row, col, false
}

// turn makes y the current style.
func (p *pen) turn(y api.Style) {
	p.bytes.WriteString(esc.Style(p.style, y))
	p.style = y
}

// print prints cells that have room in the row. A tail has no text, no columns
// and the style of its wide cell, and so adds nothing.
func (p *pen) print(cells []api.Cell) {
	for _, c := range cells {
		p.turn(c.Y)
		p.bytes.WriteString(c.S)
		p.col += c.W
	}
	if p.col == p.w {
		p.col, p.pending = p.w-1, true
	}
}
