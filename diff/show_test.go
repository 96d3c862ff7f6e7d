package diff

import (
	"strings"
	"testing"

	"placard/api"
	"placard/frame"
)

// holdDiff holds the bytes of Diff against P10.3, P10.4 and P10.5, on a band
// that shows a: it shows b behind them.
func holdDiff(t *testing.T, what string, d band, a, b api.Frame) {
	t.Helper()
	bytes, e := Diff(a, b)
	if e != api.OK {
		t.Fatalf("%s: Diff: %d", what, e)
	}
	if (bytes == "") != frame.Same(a, b) {
		t.Fatalf("%s: Diff = %q", what, bytes)
	}
	if most := 100*Changed(a, b) + 60; len(bytes) > most {
		t.Fatalf("%s: Diff has %d bytes, and may have %d", what, len(bytes), most)
	}
	if why := d.write(bytes); why != "" {
		t.Fatalf("%s: Diff = %q: %s", what, bytes, why)
	}
	if why := d.shows(b); why != "" {
		t.Fatalf("%s: Diff = %q: %s", what, bytes, why)
	}
}

// holdWhole holds the bytes of Whole against P10.2, P10.4 and P10.5, on a blank
// band.
func holdWhole(t *testing.T, what string, d band, f api.Frame) {
	t.Helper()
	bytes, e := Whole(f)
	if e != api.OK {
		t.Fatalf("%s: Whole: %d", what, e)
	}
	if most := 100*d.w*d.rows + 60; len(bytes) > most {
		t.Fatalf("%s: Whole has %d bytes, and may have %d", what, len(bytes), most)
	}
	if why := d.write(bytes); why != "" {
		t.Fatalf("%s: Whole = %q: %s", what, bytes, why)
	}
	if why := d.shows(f); why != "" {
		t.Fatalf("%s: Whole = %q: %s", what, bytes, why)
	}
}

// places are where a band may lie: how many rows are above it, and below.
var places = []struct{ above, below int }{{0, 0}, {2, 0}, {0, 2}, {1, 1}}

// P10.2

func TestWhole(t *testing.T) {
	for w, letters := range map[int]string{1: ".abe_", 2: ".abe_WVUM", 3: ".beWU", 4: ".bWU"} {
		for _, p := range pictures(w, letters) {
			for at, place := range places {
				for _, seen := range []bool{true, false} {
					for col := range w {
						d := newBand(w, place.above, 2, place.below, seen)
						f := picture(p+"|"+p, at%2, col, at < 2)
						holdWhole(t, p, d, f)
					}
				}
			}
		}
	}
}

func TestWholeOfDice(t *testing.T) {
	d := dice(3)
	for i := range 300 {
		w, rows := 1+d.below(24), 1+d.below(6)
		place := places[i%len(places)]
		holdWhole(t, "dice", newBand(w, place.above, rows, place.below, i%3 == 0), d.frame(w, rows))
	}
}

// The cursor of a blank band may be either, so nothing else tells which it is.
func TestWholeOfABlank(t *testing.T) {
	for _, seen := range []bool{true, false} {
		for _, was := range []bool{true, false} {
			holdWhole(t, "a blank", newBand(3, 1, 2, 1, was), picture("...|...", 0, 0, seen))
			holdWhole(t, "a blank", newBand(3, 1, 2, 1, was), picture("...|...", 1, 2, seen))
		}
	}
}

// P10.3

func TestDiff(t *testing.T) {
	for w, letters := range map[int]string{1: ".abe_", 2: ".aeWVU", 3: ".bWU", 4: ".bW"} {
		all := pictures(w, letters)
		for _, p := range all {
			for from := range w {
				a := picture(p, 0, from, from%2 == 0)
				shown := newBand(w, 1, 1, 1, true)
				shown.paint(a)
				if why := shown.shows(a); why != "" {
					t.Fatalf("%s is not painted: %s", p, why)
				}
				for _, q := range all {
					for to := range w {
						b := picture(q, 0, to, (from+to)%3 != 0)
						holdDiff(t, p+" to "+q, shown.fork(), a, b)
					}
				}
			}
		}
	}
}

func TestDiffOfRows(t *testing.T) {
	all := pictures(2, ".bWU")
	for n, p := range all {
		for m, q := range all {
			a := picture(p+"|"+q, n%2, m%2, n < m)
			place := places[(n+m)%len(places)]
			shown := newBand(2, place.above, 2, place.below, true)
			shown.paint(a)
			for _, x := range all {
				for i, y := range all {
					holdDiff(t, "rows", shown.fork(), a, picture(x+"|"+y, i%2, (i+m)/2%2, true))
				}
			}
		}
	}
}

// A band that goes from frame to frame, which P10.6 asks for too.
func TestDiffOfDice(t *testing.T) {
	d := dice(5)
	for i := range 150 {
		w, rows := 1+d.below(20), 1+d.below(6)
		place := places[i%len(places)]
		shown := newBand(w, place.above, rows, place.below, true)
		a := d.frame(w, rows)
		shown.paint(a)
		for step := range 12 {
			b := d.near(a)
			if step%4 == 3 {
				b = d.frame(w, rows)
			}
			holdDiff(t, "dice", shown, a, b)
			a = b
		}
	}
}

func TestDiffOfEqualFrames(t *testing.T) {
	d := dice(11)
	for range 200 {
		f := d.frame(1+d.below(20), 1+d.below(6))
		if s, e := Diff(f, copied(f)); s != "" || e != api.OK {
			t.Errorf("Diff of equal frames = %q, %d", s, e)
		}
	}
}

// Whatever the cursor does, from everywhere to everywhere.
func TestDiffOfCursors(t *testing.T) {
	const p = "aWbe_"
	for _, row := range []int{0, 1, 2} {
		for from := range 6 {
			a := picture(p+"|......|"+p, row, from, true)
			shown := newBand(6, 1, 3, 1, true)
			shown.paint(a)
			for to := range 6 {
				for _, seen := range []bool{true, false} {
					for _, other := range []int{0, 1, 2} {
						holdDiff(t, "another cursor", shown.fork(), a, picture(p+"|......|"+p, other, to, seen))
					}
				}
			}
		}
	}
}

// What is printed in the last column leaves a wrap pending; the cursor may have
// to stand right there.
func TestDiffEndsAPendingWrap(t *testing.T) {
	for _, x := range []struct{ a, b string }{
		{"...", "..a"}, {"...", "aaa"}, {"...", ".W"}, {".W", "..."}, {".W", ".V"}, {".", "a"}, {"..", "W"},
		{"...|...", "...|..a"}, {"...|...", "..a|..a"}, {"...|...", "..a|..."}, {".|.", "a|a"}, {"..|..", "W|W"},
	} {
		a, b := picture(x.a, 0, 0, true), picture(x.b, 0, 0, true)
		w, rows := len(a.Rows[0]), len(a.Rows)
		for row := range rows {
			b.Row, b.Col = row, w-1
			for _, place := range places {
				shown := newBand(w, place.above, rows, place.below, true)
				shown.paint(a)
				holdDiff(t, x.a+" to "+x.b, shown, a, b)
			}
		}
	}
}

// P10.4: a band without rows around it, as far as a terminal goes.

func TestTheGreatestBand(t *testing.T) {
	d := dice(13)
	a, b := d.frame(500, 60), d.frame(500, 60)
	for _, f := range []*api.Frame{&a, &b} {
		f.Row, f.Col = 59, 499
	}
	shown := newBand(500, 0, 60, 0, false)
	holdWhole(t, "the greatest", shown, a)
	holdDiff(t, "the greatest", shown, a, b)
	holdDiff(t, "the greatest", shown, b, d.near(b))
}

// P10.5

// full is a cell of as many bytes as one may have.
func full(w int, y api.Style) api.Cell {
	if w == 1 {
		return api.Cell{S: "é" + strings.Repeat("\u0301", 31), W: 1, Y: y}
	}
	return api.Cell{S: "漢" + strings.Repeat("\u0301", 29) + "\u200b", W: 2, Y: y}
}

// loud are styles each of which takes many bytes behind the one before.
var loud = []api.Style{
	{Bold: true, Under: true, Fg: 8, Bg: 8}, {Bold: true, Inverse: true, Fg: 7, Bg: 7},
	{Under: true, Inverse: true, Fg: 6, Bg: 6}, {}, {Bold: true, Under: true, Inverse: true, Fg: 5, Bg: 5},
}

// A cell that is as long as can be, alone in its row and far away from the ones
// before and behind it.
func TestBoundOfFarCells(t *testing.T) {
	for _, w := range []int{1, 2} {
		for gap := range 5 {
			a, _ := Blank(500, 60)
			b := copied(a)
			for row := 0; row < 60; row += 1 + gap {
				col := (row + 1) % 2 * (500 - w)
				y := loud[row%len(loud)]
				cells := []api.Cell{full(w, y), {Y: y}}
				copy(b.Rows[row][col:], cells[:w])
			}
			a.Row, a.Col, b.Seen = 59, 250, false
			shown := newBand(500, 0, 60, 0, true)
			shown.paint(a)
			holdDiff(t, "far cells", shown, a, b)
		}
	}
}

// Every other column, and all of them, as long as can be.
func TestBoundOfFullRows(t *testing.T) {
	for _, x := range []struct{ w, step int }{{1, 1}, {1, 2}, {1, 3}, {1, 11}, {2, 2}, {2, 3}, {2, 12}} {
		a, _ := Blank(500, 6)
		b := copied(a)
		for row := range b.Rows {
			for i := 0; i+x.w <= 500; i += x.step {
				y := loud[i/x.step%len(loud)]
				cells := []api.Cell{full(x.w, y), {Y: y}}
				copy(b.Rows[row][i:], cells[:x.w])
			}
		}
		b.Row, b.Col, b.Seen = 5, 499, false
		shown := newBand(500, 0, 6, 0, true)
		shown.paint(a)
		holdDiff(t, "full rows", shown.fork(), a, b)
		holdWhole(t, "full rows", newBand(500, 0, 6, 0, true), b)
		shown = newBand(500, 0, 6, 0, true)
		shown.paint(b)
		holdDiff(t, "full rows, back", shown, b, a)
	}
}

// What costs nothing for its columns has to be within what is left.
func TestBoundOfNoColumns(t *testing.T) {
	for _, x := range []struct{ row, col, toRow, toCol int }{{0, 0, 59, 499}, {59, 499, 0, 250}, {59, 250, 0, 0}, {10, 499, 59, 100}} {
		a, _ := Blank(500, 60)
		b := copied(a)
		a.Row, a.Col, b.Row, b.Col, b.Seen = x.row, x.col, x.toRow, x.toCol, false
		shown := newBand(500, 0, 60, 0, true)
		shown.paint(a)
		holdDiff(t, "a cursor alone", shown, a, b)
	}
}

// What does not change is not sent.
func TestDiffSendsWhatChanges(t *testing.T) {
	a := picture("aaaaaaaaaa|bbbbbbbbbb|WWWWW", 0, 0, true)
	b := picture("aaaa.aaaaa|bbbbbbbbbb|WWVWW", 0, 0, true)
	s, _ := Diff(a, b)
	for _, x := range []struct {
		s string
		n int
	}{{"a", 0}, {"b", 0}, {"漢", 0}, {"字", 1}, {" ", 1}} {
		if n := strings.Count(s, x.s); n != x.n {
			t.Errorf("Diff = %q has %q %d times, not %d", s, x.s, n, x.n)
		}
	}
}

// P10.6

func TestDiffFromABlankIsWhole(t *testing.T) {
	d := dice(17)
	for i := range 200 {
		w, rows := 1+d.below(20), 1+d.below(6)
		f := d.frame(w, rows)
		if i%10 == 0 {
			f, _ = Blank(w, rows)
			f.Seen = i%20 == 0
		}
		blank, _ := Blank(w, rows)
		place := places[i%len(places)]
		one := newBand(w, place.above, rows, place.below, true)
		other := one.fork()
		holdDiff(t, "from a blank", one, blank, f)
		holdWhole(t, "whole", other, f)
		if one.state() != other.state() {
			t.Fatalf("Diff and Whole leave\n%s and\n%s", one.state(), other.state())
		}
	}
}

func TestThereAndBack(t *testing.T) {
	d := dice(19)
	for i := range 200 {
		w, rows := 1+d.below(20), 1+d.below(6)
		a := d.frame(w, rows)
		b := d.near(a)
		if i%2 == 0 {
			b = d.frame(w, rows)
		}
		place := places[i%len(places)]
		shown := newBand(w, place.above, rows, place.below, true)
		shown.paint(a)
		before := shown.state()
		holdDiff(t, "there", shown, a, b)
		holdDiff(t, "back", shown, b, a)
		if after := shown.state(); after != before {
			t.Fatalf("there and back leave\n%s, not\n%s", after, before)
		}
	}
}
