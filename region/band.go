package region

import (
	"slices"
	"strings"

	"placard/api"
	"placard/cluster"
	"placard/diff"
	"placard/esc"
)

// maxLines is how many lines can be laid out ahead of a band at once.
const maxLines = 60

// The bytes that are no sequences. A line feed keeps the column.
const (
	carriageReturn = "\r"
	lineFeed       = "\n"
)

// band is what a region knows about its band. None of its fields is exported,
// since a caller would reach it through the region.
type band struct {
	w, h      int // of the terminal
	requested int // how many rows
	shown     api.Frame
}

// rows returns how many rows the band has.
func (b *band) rows() int {
	return min(b.requested, b.h)
}

// fromAnything returns the bytes that move the cursor to the beginning of its
// row and select the default style, whatever the terminal was at before.
func fromAnything() string {
	// A style can lose bold only together with all else that it has, so this
	// serves for each of them.
	return carriageReturn + esc.Style(api.Style{Bold: true}, api.Style{})
}

// toFirst returns the bytes that move the cursor from where the frame that is
// shown has it to the band's first position.
func (b *band) toFirst() string {
	// If a resize removed rows of the band from the top, this goes too far up,
	// and stops on the terminal's first row: the first one that is left.
	return esc.Move(b.shown.Row, b.shown.Col, 0, 0)
}

// reserve returns the bytes that lay out lines and, behind them, the band, from
// the row on at whose beginning the cursor stands; the band shows blanks then.
func (b *band) reserve(lines ...string) string {
	b.shown, _ = diff.Blank(b.w, b.rows())
	return b.layOut(b.rows(), lines...)
}

// layOut returns the bytes that lay out lines and so many blank rows, from the
// row on at whose beginning the cursor stands.
func (b *band) layOut(rows int, lines ...string) string {
	var bytes strings.Builder
	bytes.WriteString(esc.EraseBelow())
	for _, line := range lines {
		bytes.WriteString(b.fitting(line) + carriageReturn + lineFeed)
	}
	// Only line feeds scroll where there are too few rows; a movement down
	// stops.
	bytes.WriteString(strings.Repeat(lineFeed, rows-1) + esc.Up(rows-1))
	bytes.WriteString(esc.Seen(true))
	return bytes.String()
}

// fitting returns what of a line has room in a row.
func (b *band) fitting(line string) string {
	text, _ := cluster.Fit(cluster.Flat(line), b.w)
	return text
}

// copied returns a frame that shares no memory with f.
func copied(f api.Frame) api.Frame {
	rows := make([][]api.Cell, len(f.Rows))
	for row, cells := range f.Rows {
		rows[row] = slices.Clone(cells)
	}
	f.Rows = rows
	return f
}
