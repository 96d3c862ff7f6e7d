package region

import (
	"slices"
	"strconv"
	"strings"
	"testing"

	"placard/api"
)

// What the bytes of a region do to its terminal.

// scribble writes over all of a terminal, and leaves it in one of some states
// with the cursor at a position.
func (s *stand) scribble(row, col, state int) {
	w, h := s.x.Size()
	for i := range h {
		s.x.Write([]byte("\x1b[0;4;3" + strconv.Itoa(i%8) + "m\x1b[" + strconv.Itoa(i+1) + ";1H"))
		s.x.Write([]byte(strings.Repeat(string(rune('a'+i%26)), w)))
	}
	s.x.Write([]byte("\x1b[m\x1b[" + strconv.Itoa(row+1) + ";" + strconv.Itoa(col+1) + "H"))
	s.x.Write([]byte([]string{
		"",
		"\x1b[1;4;7;35;46m\x1b[?25l\x1b[?2004h",
		"\x1b[32mz",       // a wrap may be pending, and marks would join
		"\x1b[999Cy\x1b7", // a wrap is pending
		"\x1b[7m\a\a\x1b[?25l",
	}[state]))
}

const states = 5

// P11.2

func TestStart(t *testing.T) {
	for _, w := range []int{1, 2, 5} {
		for h := 1; h <= 5; h++ {
			for requested := 1; requested <= 6; requested++ {
				for at := range h * w {
					for state := range states {
						s := newStand(t, w, h, requested)
						s.scribble(at/w, at%w, state)
						s.start(t)
					}
				}
			}
		}
	}
}

func TestStartOnAWideCell(t *testing.T) {
	for col := range 4 {
		s := newStand(t, 4, 3, 2)
		s.x.Write([]byte("漢字\r\n漢字\r\n漢字\x1b[2;" + strconv.Itoa(col+1) + "H"))
		s.start(t)
		s.draw(t, whole(4, 2, 1, 1, true))
	}
}

func TestStartOnALongTerminal(t *testing.T) {
	for _, row := range []int{0, 1, 439, 440, 441, 498, 499} {
		for _, requested := range []int{1, 2, 59, 60} {
			s := newStand(t, 3, 500, requested)
			s.scribble(row, 2, 3)
			s.start(t)
			s.draw(t, whole(3, s.rows(), s.rows()-1, 2, false))
			s.above(t, "x", "漢字")
		}
	}
}

func TestExample(t *testing.T) {
	for _, x := range []struct {
		first    string
		scrolled int
	}{{"a", 0}, {"a\r\n", 1}} {
		s := newStand(t, 4, 2, 2)
		s.x.Write([]byte(x.first))
		s.start(t)
		if s.x.Text(0) != "" || s.x.Text(1) != "" || s.x.Scrolled() != x.scrolled {
			t.Errorf("behind %q and Start: %q, %q, %d scrolled off", x.first, s.x.Text(0), s.x.Text(1), s.x.Scrolled())
		}
	}
}

// P11.3

func TestDraw(t *testing.T) {
	d := dice(3)
	for w := 1; w <= 4; w++ {
		for requested := 1; requested <= 3; requested++ {
			for row := range 5 {
				s := newStand(t, w, 5, requested)
				s.scribble(row, 0, row%states)
				s.start(t)
				for range 20 {
					s.draw(t, d.frame(w, requested))
				}
			}
		}
	}
}

// From every position of the cursor to every other one.
func TestDrawOfCursors(t *testing.T) {
	for from := range 12 {
		for to := range 24 {
			s := newStand(t, 4, 5, 3)
			s.scribble(1, 0, 0)
			s.start(t)
			s.draw(t, whole(4, 3, from/4, from%4, to < 12))
			s.draw(t, whole(4, 3, to%12/4, to%4, from%2 == 0))
		}
	}
}

func TestDrawOfWhatIsShown(t *testing.T) {
	s := newStand(t, 4, 3, 2)
	s.start(t)
	for _, f := range []api.Frame{s.blankFrame(), whole(4, 2, 1, 3, false), whole(4, 2, 0, 0, true)} {
		s.draw(t, f)
		if bytes, e := s.r.Draw(f); bytes != "" || e != api.OK {
			t.Errorf("Draw of what is shown = %q, %d", bytes, e)
		}
	}
}

// P11.4

func TestResize(t *testing.T) {
	d := dice(5)
	for at := range 5 * 3 * 3 * 3 {
		h, w, requested, row := 1+at%5, []int{1, 2, 4}[at/5%3], []int{1, 2, 4}[at/15%3], at/45%3*2
		if row >= h {
			continue
		}
		for h2 := 1; h2 <= 7; h2++ {
			for _, w2 := range []int{1, w, w + 1, 3} {
				for under := range min(h, requested) {
					s := newStand(t, w, h, requested)
					s.scribble(row, 0, 0)
					s.start(t)
					f := whole(w, s.rows(), under, d.below(w), d.below(2) == 0)
					s.draw(t, f)
					s.resize(t, w2, h2)
					s.draw(t, d.frame(w2, s.rows()))
					s.resize(t, w, h)
					s.draw(t, d.frame(w, s.rows()))
				}
			}
		}
	}
}

// All that a cursor can be at when its terminal loses columns and rows.
func TestResizeFromEachPosition(t *testing.T) {
	for at := range 4 * 4 {
		for size := range 5 * 5 {
			for row := range 3 {
				s := newStand(t, 4, 6, 4)
				s.scribble(row, 0, 0)
				s.start(t)
				s.draw(t, whole(4, 4, at/4, at%4, false))
				s.resize(t, 1+size/5, 1+size%5)
			}
		}
	}
}

func TestResizeOfWhatNothingWasDrawnInto(t *testing.T) {
	for _, x := range [][2]int{{1, 1}, {500, 500}, {3, 4}, {4, 3}, {3, 3}, {500, 1}, {1, 500}} {
		s := newStand(t, 4, 4, 3)
		s.scribble(3, 0, 0)
		s.start(t)
		s.resize(t, x[0], x[1])
		s.resize(t, 4, 4)
		s.above(t, "above")
	}
}

// A size that changes and changes back leaves the same band.
func TestResizeBack(t *testing.T) {
	s := newStand(t, 6, 5, 3)
	s.x.Write([]byte("top\r\nnext\r\n"))
	s.start(t)
	f := whole(6, 3, 2, 4, true)
	s.draw(t, f)
	before := read(s.x)
	s.resize(t, 6, 9)
	s.resize(t, 6, 5)
	s.draw(t, f)
	if why := read(s.x).against(before); why != "" {
		t.Errorf("there and back: %s", why)
	}
}

// P11.5

func TestAbove(t *testing.T) {
	d := dice(7)
	for _, w := range []int{1, 2, 3, 8} {
		for h := 1; h <= 5; h++ {
			for requested := 1; requested <= 4; requested++ {
				for n := range 8 {
					s := newStand(t, w, h, requested)
					s.scribble(d.below(h), 0, d.below(states))
					s.start(t)
					s.draw(t, d.frame(w, s.rows()))
					s.above(t, d.lines(n)...)
					s.draw(t, d.frame(w, s.rows()))
					s.above(t, d.lines(d.below(4))...)
				}
			}
		}
	}
}

// Each of the texts, in each number of columns that it may be cut at.
func TestAboveOfEachText(t *testing.T) {
	for _, text := range texts {
		for w := 1; w <= 7; w++ {
			s := newStand(t, w, 4, 2)
			s.start(t)
			s.draw(t, whole(w, 2, 1, 0, false))
			s.above(t, text, "漢漢漢漢", text)
			s.draw(t, whole(w, 2, 1, w-1, true))
			s.end(t, text)
		}
	}
}

func TestAboveOfManyLines(t *testing.T) {
	for _, h := range []int{1, 2, 10, 59, 60, 61, 100} {
		for _, requested := range []int{1, 2, 60} {
			for _, n := range []int{58, 59, 60} {
				s := newStand(t, 4, h, requested)
				s.scribble(h/2, 0, 0)
				s.start(t)
				s.draw(t, whole(4, s.rows(), s.rows()-1, 3, false))
				var lines []string
				for i := range n {
					lines = append(lines, strconv.Itoa(i))
				}
				s.above(t, lines...)
				s.holdRefused(t, "above", []refusal{{"Above of 61", above(61), api.ErrMany}})
			}
		}
	}
}

// P11.6

func TestEnd(t *testing.T) {
	d := dice(11)
	for _, w := range []int{1, 2, 3, 8} {
		for h := 1; h <= 5; h++ {
			for requested := 1; requested <= 5; requested++ {
				for n := range min(h, requested) {
					for row := range h {
						s := newStand(t, w, h, requested)
						s.scribble(row, 0, d.below(states))
						s.start(t)
						if d.below(5) > 0 {
							s.draw(t, d.frame(w, s.rows()))
						}
						s.end(t, d.lines(n)...)
					}
				}
			}
		}
	}
}

// P11.8, where the band is as long as can be, and the lines are.

func TestBoundOfRows(t *testing.T) {
	for rows := 1; rows <= 60; rows++ {
		s := newStand(t, 3, 60, rows)
		s.scribble(59, 0, 1)
		s.start(t)
		s.draw(t, whole(3, rows, rows-1, 2, false))
		s.resize(t, 3, 60)
		s.draw(t, whole(3, rows, rows-1, 1, false))
		s.above(t)
		s.draw(t, whole(3, rows, rows-1, 2, false))
		s.end(t)
	}
}

func TestBoundOfLines(t *testing.T) {
	full := strings.Repeat("漢"+strings.Repeat("\u0301", 29)+"\u200b", 300)
	for _, n := range []int{0, 1, 59} {
		s := newStand(t, 500, 60, 60)
		s.start(t)
		for i, do := range []func(...string) (string, api.Errno){s.r.Above, s.r.End} {
			// Frames as great as that one are sent elsewhere.
			s.r.Draw(whole(500, 60, 59, 499, false))
			lines := slices.Repeat([]string{full}, n)
			bytes, e := do(lines...)
			if e != api.OK || len(bytes) < n*250*64 {
				t.Fatalf("%d lines, %d: %d bytes, %d", n, i, len(bytes), e)
			}
			s.holdBound(t, "lines", bytes, lines)
		}
	}
}

// P11.9

func TestNoTraces(t *testing.T) {
	d := dice(13)
	for range 400 {
		w, h, requested := 1+d.below(6), 1+d.below(6), 1+d.below(6)
		one, other := newStand(t, w, h, requested), newStand(t, w, h, requested)
		row, col, state := d.below(h), d.below(w), d.below(states)
		for _, s := range []*stand{one, other} {
			s.scribble(row, col, state)
			s.start(t)
		}
		for range d.below(5) {
			one.drawSome(t, &d)
			one.followedBy(t, &d, other)
		}
		one.drawSome(t, &d)
		lines := d.lines(d.below(one.rows()))
		one.end(t, lines...)
		other.end(t, lines...)
		// A mark would join what was printed last.
		for _, s := range []*stand{one, other} {
			s.x.Write([]byte("\u0301"))
		}
		if why := read(one.x).against(read(other.x)); why != "" {
			t.Fatalf("what was drawn leaves a trace: %s", why)
		}
	}
}

// drawSome draws some frames, or none.
func (s *stand) drawSome(t *testing.T, d *dice) {
	t.Helper()
	w, _ := s.x.Size()
	for range d.below(3) {
		s.draw(t, d.frame(w, s.rows()))
	}
}

// followedBy does to two stands, the first of which was drawn into, what
// depends on no cursor.
func (s *stand) followedBy(t *testing.T, d *dice, other *stand) {
	t.Helper()
	if d.below(2) == 0 {
		lines := d.lines(d.below(4))
		s.above(t, lines...)
		other.above(t, lines...)
		return
	}
	// A terminal that loses the row of its cursor scrolls, so it keeps that one
	// here.
	row, _ := s.x.Cursor()
	w, h := 1+d.below(6), 1+row+d.below(4)
	s.resize(t, w, h)
	other.resize(t, w, h)
}

// All calls in any order, those that are refused among them.

func TestWalk(t *testing.T) {
	d := dice(17)
	for range 150 {
		w, h := 1+d.below(20), 1+d.below(12)
		s := newStand(t, w, h, 1+d.below(12))
		s.scribble(d.below(h), d.below(w), d.below(states))
		s.start(t)
		for range 30 {
			s.step(t, &d)
		}
		s.drawSome(t, &d)
		s.end(t, d.lines(d.below(s.rows()))...)
		s.holdRefused(t, "over", refusedShut())
	}
}

func (s *stand) step(t *testing.T, d *dice) {
	t.Helper()
	w, _ := s.x.Size()
	switch d.below(8) {
	case 0:
		s.above(t, d.lines(d.below(16))...)
	case 1, 2:
		s.resize(t, 1+d.below(20), 1+d.below(12))
	case 3:
		s.holdRefused(t, "walking", []refusal{
			{"Start", start, api.ErrRegion},
			{"Draw", draw(whole(w+1, s.rows(), 0, 0, true)), api.ErrFrame},
			{"Above", above(61), api.ErrMany},
			{"End", end(s.rows()), api.ErrMany},
		})
	default:
		s.draw(t, d.frame(w, s.rows()))
	}
}
