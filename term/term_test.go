package term

import (
	"math"
	"slices"
	"strings"
	"testing"

	"placard/api"
	"placard/cluster"
	"placard/width"
)

const (
	wide  = "\u6f22"
	acute = "\u0301"
	csi   = "\x1b["
)

func must(t *testing.T, w, h int) *Term {
	t.Helper()
	x, e := New(w, h)
	if x == nil || e != api.OK {
		t.Fatalf("New(%d, %d) = %v, %d", w, h, x, e)
	}
	return x
}

// written is a terminal to which s came.
func written(t *testing.T, w, h int, s string) *Term {
	t.Helper()
	x := must(t, w, h)
	x.Write([]byte(s))
	return x
}

// screen are the texts of the rows; a row that has no text is told as empty.
func screen(x *Term) string {
	_, h := x.Size()
	var rows []string
	for row := range h {
		rows = append(rows, x.Text(row))
	}
	return strings.Join(rows, "|")
}

// check is what a terminal tells when s has come, and nothing waits.
type check struct {
	name     string
	s        string
	screen   string
	row, col int
	pending  bool
}

func holds(t *testing.T, w, h int, checks ...check) {
	t.Helper()
	for _, c := range checks {
		x := written(t, w, h, c.s)
		if got := screen(x); got != c.screen {
			t.Errorf("%s: the rows are %q, not %q", c.name, got, c.screen)
		}
		if row, col := x.Cursor(); row != c.row || col != c.col {
			t.Errorf("%s: the cursor is at %d, %d, not at %d, %d", c.name, row, col, c.row, c.col)
		}
		if x.Pending() != c.pending {
			t.Errorf("%s: pending is %v", c.name, x.Pending())
		}
		if n := x.Waits(); n != 0 {
			t.Errorf("%s: %d bytes wait", c.name, n)
		}
	}
}

// P5.1: New

func TestNew(t *testing.T) {
	for _, c := range []struct{ w, h int }{{1, 1}, {1, 500}, {500, 1}, {500, 500}, {80, 24}, {2, 499}} {
		x := must(t, c.w, c.h)
		agree(t, "a new one", x, newPaper(c.w, c.h))
		for row := range c.h {
			for col := range c.w {
				if got, ok := x.Cell(row, col); got != (api.Cell{S: " ", W: 1}) || !ok {
					t.Fatalf("New(%d, %d): the cell at %d, %d is %v, %v", c.w, c.h, row, col, got, ok)
				}
			}
		}
		if row, col := x.Cursor(); row != 0 || col != 0 || x.Pending() || x.Style() != (api.Style{}) {
			t.Errorf("New(%d, %d): cursor %d, %d, pending %v, style %v", c.w, c.h, row, col, x.Pending(), x.Style())
		}
		if !x.Seen() || x.Marked() || x.Bells() != 0 || x.Scrolled() != 0 || x.Waits() != 0 {
			t.Errorf("New(%d, %d): %v, %v, %d, %d, %d", c.w, c.h, x.Seen(), x.Marked(), x.Bells(), x.Scrolled(), x.Waits())
		}
		x.Write([]byte(acute))
		agree(t, "a new one, and a mark", x, newPaper(c.w, c.h))
	}
}

// noSide are numbers that no side of a terminal has.
var noSide = []int{0, -1, 501, 1000, math.MinInt, math.MaxInt}

func TestNewRefuses(t *testing.T) {
	for _, n := range noSide {
		for _, c := range []struct{ w, h int }{{n, 1}, {1, n}, {n, 500}, {500, n}, {n, n}} {
			if x, e := New(c.w, c.h); x != nil || e != api.ErrTerm {
				t.Errorf("New(%d, %d) = %v, %d", c.w, c.h, x, e)
			}
		}
	}
}

// P5.1: Write. What is printed.

func TestExample(t *testing.T) {
	holds(t, 3, 2, check{"example 1", "abcd", "abc|d", 1, 1, false})
}

func TestPrint(t *testing.T) {
	holds(t, 4, 3,
		check{"nothing", "", "||", 0, 0, false},
		check{"a rune", "a", "a||", 0, 1, false},
		check{"a space", "a b", "a b||", 0, 3, false},
		check{"up to the last column", "abcd", "abcd||", 0, 3, true},
		check{"a wrap", "abcde", "abcd|e|", 1, 1, false},
		check{"wraps", "abcdefghij", "abcd|efgh|ij", 2, 2, false},
		check{"a wrap on the last row", "abcdefghijklm", "efgh|ijkl|m", 2, 1, false},
		check{"a wide rune", wide, wide + "||", 0, 2, false},
		check{"wide up to the last column", wide + wide, wide + wide + "||", 0, 3, true},
		check{"a wide wrap", wide + wide + wide, wide + wide + "|" + wide + "|", 1, 2, false},
		check{"no room for a wide rune", "abc" + wide, "abc|" + wide + "|", 1, 2, false},
		check{"what stands in the last column stays", "abcd\b" + csi + "C" + wide, "abcd|" + wide + "|", 1, 2, false},
		check{"just room for a wide rune", "ab" + wide, "ab" + wide + "||", 0, 3, true},
		check{"a wide rune behind a pending wrap", "abcd" + wide, "abcd|" + wide + "|", 1, 2, false},
		check{"a wide wrap on the last row", "\n\nabc" + wide, "|abc|" + wide, 2, 2, false},
		check{"over the first half of a wide rune", wide + "\rx", "x||", 0, 1, false},
		check{"over the second half", wide + "\bx", " x||", 0, 2, false},
		check{"over two halves", wide + wide + "\r\x1b[C" + wide, " " + wide + "||", 0, 3, false},
		check{"other runes", "\u00e9\u2588\U0001f600", "\u00e9\u2588\U0001f600||", 0, 3, true},
		check{"the replacement rune itself", "\ufffd", "\ufffd||", 0, 1, false},
	)
	holds(t, 1, 2,
		check{"one column", "a", "a|", 0, 0, true},
		check{"one column twice", "ab", "a|b", 1, 0, true},
		check{"one column, scrolled", "abc", "b|c", 1, 0, true},
		check{"too few columns for a wide rune", wide, "|", 0, 0, false},
		check{"which leaves a wrap pending", "a" + wide, "a|", 0, 0, true},
		check{"and is as if it were not there", "a" + wide + "b", "a|b", 1, 0, true},
	)
	holds(t, 2, 1,
		check{"two columns", wide, wide, 0, 1, true},
		check{"two columns twice", wide + "a" + wide, wide, 0, 1, true},
		check{"one that is not first", "a" + wide, wide, 0, 1, true},
	)
	holds(t, 1, 1, check{"one cell", "abc", "c", 0, 0, true})
}

func TestPrintCells(t *testing.T) {
	x := written(t, 6, 1, "a"+csi+"1;4;7;32;45m"+wide+"b"+acute+" "+csi+"mc")
	y := api.Style{Bold: true, Under: true, Inverse: true, Fg: 3, Bg: 6}
	want := []api.Cell{{S: "a", W: 1}, {S: wide, W: 2, Y: y}, {Y: y}, {S: "b" + acute, W: 1, Y: y}, {S: " ", W: 1, Y: y}, {S: "c", W: 1}}
	if got := x.Row(0); !slices.Equal(got, want) {
		t.Errorf("%v, not %v", got, want)
	}
	x.Write([]byte(csi + "7m\r" + csi + "2Cx"))
	want[1], want[2] = space, api.Cell{S: "x", W: 1, Y: api.Style{Inverse: true}}
	if got := x.Row(0); !slices.Equal(got, want) {
		t.Errorf("over the second half: %v, not %v", got, want)
	}
}

// Every rune is printed, joins a cell, or is discarded, as package width says.
func TestEveryRune(t *testing.T) {
	for r := rune(0x80); r <= 0x10ffff; r++ {
		if r == 0xd800 {
			r = 0xe000
		}
		if r > 0x30000 && r < 0xdffff && r&0xff > 1 && r&0xff < 0xfe {
			continue
		}
		s := string(r)
		x := written(t, 4, 1, "a"+s+"b")
		want := "ab"
		switch {
		case width.Mark(r), width.Of(r) > 0:
			want = "a" + s + "b"
		}
		if got := x.Text(0); got != want {
			t.Fatalf("%x: %q, not %q", r, got, want)
		}
		if _, col := x.Cursor(); col != min(2+width.Of(r), 3) {
			t.Fatalf("%x: the cursor is in column %d", r, col)
		}
	}
}

func TestNoRunes(t *testing.T) {
	const bad = "\ufffd"
	holds(t, 8, 2,
		check{"a byte that begins nothing", "\xff", bad + "|", 0, 1, false},
		check{"a byte that continues nothing", "\x80a", bad + "a|", 0, 2, false},
		check{"an encoding that breaks off", "\xe6\xbca", bad + bad + "a|", 0, 3, false},
		check{"one that another one follows", "\xe6\xe6\xbc\xa2", bad + wide + "|", 0, 3, false},
		check{"one that a line feed follows", "\xf0\x9f\na", bad + bad + "|  a", 1, 3, false},
		check{"one that a sequence follows", "\xf0\x9f\x98" + csi + "Ha", "a" + bad + bad + "|", 0, 1, false},
		check{"no shortest form", "\xc0\x8a", bad + bad + "|", 0, 2, false},
		check{"no rune", "\xed\xa0\x80", bad + bad + bad + "|", 0, 3, false},
		check{"beyond the last rune", "\xf4\x90", bad + bad + "|", 0, 2, false},
	)
	x := written(t, 8, 2, "a\xf0\x9f\x98")
	if x.Waits() != 3 || x.Text(0) != "a" {
		t.Errorf("%d wait, %q", x.Waits(), x.Text(0))
	}
	x.Write([]byte("\x80"))
	if x.Waits() != 0 || x.Text(0) != "a\U0001f600" {
		t.Errorf("%d wait, %q", x.Waits(), x.Text(0))
	}
}

// P5.1: marks and the last cell.

func TestMarks(t *testing.T) {
	holds(t, 4, 2,
		check{"a mark", "a" + acute, "a" + acute + "|", 0, 1, false},
		check{"marks of 2, 3 and 4 bytes", "a" + acute + "\u200d\U000e0100b", "a" + acute + "\u200d\U000e0100b|", 0, 2, false},
		check{"on a wide rune", wide + acute + "b", wide + acute + "b|", 0, 3, false},
		check{"in the last column", "abcd" + acute, "abcd" + acute + "|", 0, 3, true},
		check{"on a wide rune there", "ab" + wide + acute, "ab" + wide + acute + "|", 0, 3, true},
		check{"behind a wrap", "abcde" + acute, "abcd|e" + acute, 1, 1, false},
		check{"behind a wrap that scrolls", "abcdefghi" + acute, "efgh|i" + acute, 1, 1, false},
		check{"on a space", " " + acute, " " + acute + "|", 0, 1, false},
		check{"where nothing was printed", acute + "a", "a|", 0, 1, false},
		check{"only the last cell", "ab" + acute, "ab" + acute + "|", 0, 2, false},
	)
	holds(t, 1, 1,
		check{"a rune that is not printed is not marked", "a" + wide + acute, "a", 0, 0, true},
		check{"what is, is", "a" + acute + wide, "a" + acute, 0, 0, true},
	)
}

func TestMarksHaveRoom(t *testing.T) {
	two, three := strings.Repeat(acute, 31), strings.Repeat("\u200d", 20)
	for _, c := range []struct{ s, want string }{
		{"a" + two, "a" + two},
		{"a" + two + acute, "a" + two},
		{"\u00e9" + two, "\u00e9" + two},
		{"\u00e9" + two + acute, "\u00e9" + two},
		{"a" + three + "\u200d", "a" + three + "\u200d"},
		{wide + three + "\u200d" + acute, wide + three},
		{wide + three + acute, wide + three},
		{"a" + two[:60] + "\U000e0100" + acute, "a" + two[:60] + acute},
		{"a" + two + acute + "b" + acute, "a" + two + "b" + acute},
	} {
		if got := written(t, 4, 1, c.s).Text(0); got != c.want {
			t.Errorf("%q: %q, not %q", c.s, got, c.want)
		}
	}
}

// The last cell is forgotten by everything but runes that are printed and marks.
func TestLastCell(t *testing.T) {
	for _, s := range []string{
		"\a", "\b", "\t", "\n", "\r", "\x00", "\x01", "\x0b", "\x18", "\x1c", "\x1f", "\x7f", "\u0080", "\u0085", "\u009b", "\u009f",
		"\x1b7", "\x1b ", "\x1b~", "\x1b\x1b[m", "\x1b\x00", "\x1b\x7f",
		csi + "A", csi + "B", csi + "C", csi + "D", csi + "G", csi + "H", csi + "J", csi + "K", csi + "1K", csi + "3J", csi + "9K",
		csi + "m", csi + "1m", csi + "99m", csi + "?25l", csi + "?25h", csi + "?2004h", csi + "?1h", csi + "?m", csi + "h", csi + "Z", csi + "~",
		csi + "1 A", csi + " @", csi + ":m", csi + ">c", csi + "1?2H", csi + "\x00", csi + "1;\x7f", csi + strings.Repeat("1", 30),
	} {
		x := written(t, 6, 3, "ab"+wide+s)
		before := x.Fork()
		x.Write([]byte(acute + "\u200d"))
		for row := range 3 {
			if got, want := x.Row(row), before.Row(row); !slices.Equal(got, want) {
				t.Errorf("%q: row %d is %v, not %v", s, row, got, want)
			}
		}
		// What was not a mark's, is one's again behind a rune that is printed.
		x.Write([]byte(csi + "Hc" + acute))
		if c, _ := x.Cell(0, 0); c.S != "c"+acute {
			t.Errorf("%q, and a rune: %q", s, c.S)
		}
	}
	// ESC and a mark: the ESC is discarded.
	if got := written(t, 6, 1, "a\x1b"+acute+"b").Text(0); got != "ab" {
		t.Errorf("ESC and a mark: %q", got)
	}
	if got := written(t, 6, 1, "a"+csi+acute+"b").Text(0); got != "ab" {
		t.Errorf("a sequence that is broken by a mark: %q", got)
	}
}

// P5.1: bytes that do something by themselves.

func TestControls(t *testing.T) {
	holds(t, 20, 3,
		check{"8", "ab\bc", "ac||", 0, 2, false},
		check{"8 in the first column", "\n\b", "||", 1, 0, false},
		check{"8 erases nothing", "ab\b\b", "ab||", 0, 0, false},
		check{"9", "\tx", "        x||", 0, 9, false},
		check{"9 from column 7", "abcdefg\tx", "abcdefg x||", 0, 9, false},
		check{"9 from column 8", "abcdefgh\tx", "abcdefgh        x||", 0, 17, false},
		check{"9 up to the last column", "\t\t\t", "||", 0, 19, false},
		check{"9 erases nothing", "abc\r\tx", "abc     x||", 0, 9, false},
		check{"10", "ab\nc", "ab|  c|", 1, 3, false},
		check{"10 on the last row", "a\nb\nc\nd", " b|  c|   d", 2, 4, false},
		check{"13", "ab\rc", "cb||", 0, 1, false},
		check{"13 stays in its row", "a\nb\r", "a| b|", 1, 0, false},
		check{"7", "a\ab", "ab||", 0, 2, false},
		check{"others", "a\x00\x01\x0b\x0c\x0e\x18\x1a\x1c\x1f\x7fb", "ab||", 0, 2, false},
		check{"others of two bytes", "a\u0080\u0084\u0085\u008d\u009b2J\u009fb", "a2Jb||", 0, 4, false},
	)
	holds(t, 16, 1, check{"9 at a side that is a multiple of 8", "\t\tx", strings.Repeat(" ", 15) + "x", 0, 15, true})
	holds(t, 4, 1, check{"9 where there is no multiple of 8", "a\tx", "a  x", 0, 3, true})
	holds(t, 4, 3,
		check{"7 leaves a wrap pending", "abcd\ae", "abcd|e|", 1, 1, false},
		check{"8 clears it", "abcd\be", "abed||", 0, 3, false},
		check{"9 clears it", "abcd\te", "abce||", 0, 3, true},
		check{"9 clears it at once", "abcd\t", "abcd||", 0, 3, false},
		check{"10 clears it", "abcd\n", "abcd||", 1, 3, false},
		check{"10 clears it on the last row", "\n\nabcd\ne", "|abcd|   e", 2, 3, true},
		check{"13 clears it", "abcd\re", "ebcd||", 0, 1, false},
		check{"others leave it", "abcd\x00\x7f\u0085\x1b7" + csi + "me", "abcd|e|", 1, 1, false},
	)
	holds(t, 1, 2,
		check{"8 in the only column", "a\bb", "b|", 0, 0, true},
		check{"9 in the only column", "a\tb", "b|", 0, 0, true},
	)
	if n := written(t, 4, 1, "\aa\a\a").Bells(); n != 3 {
		t.Errorf("%d bells, not 3", n)
	}
	x := written(t, 4, 3, "\n\n\n\n\rabcdefgh\n")
	if n := x.Scrolled(); n != 4 {
		t.Errorf("%d rows were scrolled off, not 4", n)
	}
}

// A row that is scrolled in is of blanks, whatever the style is.
func TestScrolledIn(t *testing.T) {
	x := written(t, 3, 2, csi+"7;41mabc\n\n\n")
	for col := range 3 {
		if c, _ := x.Cell(1, col); c != space {
			t.Errorf("column %d is %v", col, c)
		}
	}
	if x.Style() != (api.Style{Inverse: true, Bg: 2}) {
		t.Errorf("the style is %v", x.Style())
	}
}

// A byte of ASCII, on its own, is printed, or does what the chapter says of it.
func TestEveryByte(t *testing.T) {
	for b := range 128 {
		x := written(t, 30, 4, "ab\ncd\x1b[31m")
		before := x.Fork()
		x.Write([]byte{byte(b)})
		row, col, text, bells, waits := 1, 4, "  cd", 0, 0
		switch {
		case b == 7:
			bells = 1
		case b == 8:
			col = 3
		case b == 9:
			col = 8
		case b == 10:
			row = 2
		case b == 13:
			col = 0
		case b == 27:
			waits = 1
		case b >= 32 && b < 127:
			col, text = 5, strings.TrimRight(text+string(rune(b)), " ")
		}
		if r, c := x.Cursor(); r != row || c != col || x.Text(1) != text || x.Bells() != bells || x.Waits() != waits {
			t.Errorf("byte %d: cursor %d, %d, text %q, bells %d, %d wait", b, r, c, x.Text(1), x.Bells(), x.Waits())
		}
		for _, row := range []int{0, 2, 3} {
			if !slices.Equal(x.Row(row), before.Row(row)) {
				t.Errorf("byte %d: row %d is %v", b, row, x.Row(row))
			}
		}
		if x.Style() != (api.Style{Fg: 2}) || x.Pending() || !x.Seen() || x.Marked() || x.Scrolled() != 0 {
			t.Errorf("byte %d: %v, %v, %v, %v, %d", b, x.Style(), x.Pending(), x.Seen(), x.Marked(), x.Scrolled())
		}
	}
}

// P5.1: ESC and what is no control sequence.

func TestEscapes(t *testing.T) {
	x := written(t, 4, 1, "a\x1b")
	if x.Waits() != 1 || x.Text(0) != "a" {
		t.Errorf("ESC alone: %d wait, %q", x.Waits(), x.Text(0))
	}
	for b := range 256 {
		if b == '[' || b == 27 || b >= 128 {
			continue
		}
		x, p := written(t, 20, 2, "ab"), written(t, 20, 2, "ab")
		x.Write([]byte{27, byte(b), 'c'})
		if b < 32 || b == 127 {
			p.Write([]byte{byte(b)})
		}
		p.Write([]byte("c"))
		same(t, "ESC and "+string(rune(b)), x, p)
	}
	holds(t, 8, 2,
		check{"ESC twice, and a letter", "\x1b\x1bcd", "d|", 0, 1, false},
		check{"ESC twice, and a sequence", "ab\x1b" + csi + "Dc", "ac|", 0, 2, false},
		check{"ESC, and a rune", "\x1b\u00e9", "\u00e9|", 0, 1, false},
		check{"ESC, and a line feed", "\x1b\nb", "|b", 1, 1, false},
		check{"ESC, and a space", "\x1b b", "b|", 0, 1, false},
		check{"ESC, and 126", "\x1b~b", "b|", 0, 1, false},
	)
}

// same holds two terminals against each other, with where their last cell is.
func same(t *testing.T, what string, a, b *Term) {
	t.Helper()
	for range 2 {
		w, h := b.Size()
		if x, y := a.Size(); x != w || y != h {
			t.Fatalf("%s: %d columns and %d rows, not %d and %d", what, x, y, w, h)
		}
		for row := range h {
			if got, want := a.Row(row), b.Row(row); !slices.Equal(got, want) {
				t.Fatalf("%s: row %d is %v, not %v", what, row, got, want)
			}
		}
		ar, ac := a.Cursor()
		br, bc := b.Cursor()
		if ar != br || ac != bc || a.Pending() != b.Pending() || a.Style() != b.Style() {
			t.Fatalf("%s: %d, %d, %v, %v, not %d, %d, %v, %v", what, ar, ac, a.Pending(), a.Style(), br, bc, b.Pending(), b.Style())
		}
		if a.Seen() != b.Seen() || a.Marked() != b.Marked() {
			t.Fatalf("%s: %v, %v, not %v, %v", what, a.Seen(), a.Marked(), b.Seen(), b.Marked())
		}
		if a.Bells() != b.Bells() || a.Scrolled() != b.Scrolled() || a.Waits() != b.Waits() {
			t.Fatalf("%s: %d, %d, %d, not %d, %d, %d", what, a.Bells(), a.Scrolled(), a.Waits(), b.Bells(), b.Scrolled(), b.Waits())
		}
		a, b = a.Fork(), b.Fork()
		a.Write([]byte("\u0308"))
		b.Write([]byte("\u0308"))
		what += ", and a mark"
	}
}

// P5.1: the form of control sequences.

// A byte of a sequence goes on with it, ends it, or is not allowed: then it is
// processed by itself.
func TestSequenceBytes(t *testing.T) {
	for _, begin := range []string{"", "1", "1;2", "?25", ">", "/", "1 ", "1;2!/"} {
		between := strings.ContainsAny(begin, " !/")
		for b := range 256 {
			x, want := written(t, 9, 3, "ab\ncd"), written(t, 9, 3, "ab\ncd\x1b7")
			x.Write([]byte(csi + begin))
			if x.Waits() != 2+len(begin) {
				t.Fatalf("%q: %d wait", begin, x.Waits())
			}
			x.Write([]byte{byte(b)})
			switch {
			case b >= 48 && b <= 63 && !between, b >= 32 && b <= 47:
				if x.Waits() != 3+len(begin) {
					t.Errorf("%q and %d: %d wait", begin, b, x.Waits())
				}
				continue
			case b >= 64 && b <= 126:
				if x.Waits() != 0 {
					t.Errorf("%q and %d: %d wait", begin, b, x.Waits())
				}
				if between || begin == ">" {
					same(t, begin+" and "+string(rune(b))+" has no effect", x, want)
				}
				continue
			}
			want.Write([]byte{byte(b)})
			same(t, begin+" and a byte that is not allowed", x, want)
		}
	}
}

func TestSequenceBroken(t *testing.T) {
	holds(t, 8, 2,
		check{"by a line feed", "ab" + csi + "1\nc", "ab|  c", 1, 3, false},
		check{"by a bell", "ab" + csi + "1;\ac", "abc|", 0, 3, false},
		check{"by ESC", "ab" + csi + "1" + csi + "Dc", "ac|", 0, 2, false},
		check{"by ESC at once", "ab" + csi + csi + "Dc", "ac|", 0, 2, false},
		check{"by a rune", "ab" + csi + "1\u00e9c", "ab\u00e9c|", 0, 4, false},
		check{"by a digit behind a space", "ab" + csi + "1 2Dc", "ab2Dc|", 0, 5, false},
		check{"by a question mark behind a space", "ab" + csi + " ?h", "ab?h|", 0, 4, false},
		check{"by 127", "ab" + csi + "1\x7fD", "abD|", 0, 3, false},
	)
}

// A sequence has at most 32 bytes, with ESC, the bracket and the final byte.
func TestSequenceLength(t *testing.T) {
	for n := 25; n <= 40; n++ {
		for _, fill := range []string{"0", ";", "9", "?", " ", "!"} {
			begin := csi + strings.Repeat(fill, n-3)
			x, want := written(t, 40, 2, "ab"+begin+"Dc"), written(t, 40, 2, "ab")
			switch {
			case n > 32:
				// The first 32 bytes are discarded, and the others are printed.
				want.Write([]byte("\x1b7" + begin[32:] + "Dc"))
			case fill == "9":
				want.Write([]byte("\rc"))
			case fill == "0" || fill == ";":
				want.Write([]byte("\bc"))
			default:
				want.Write([]byte("\x1b7c"))
			}
			same(t, "of "+fill+" and a letter", x, want)
		}
		x := written(t, 40, 2, csi+strings.Repeat("1", n-2))
		waits, text := n, ""
		if n >= 32 {
			waits, text = 0, strings.Repeat("1", n-32)
		}
		if x.Waits() != waits || x.Text(0) != text {
			t.Errorf("%d bytes: %d wait, %q", n, x.Waits(), x.Text(0))
		}
	}
	// Where the byte after 31 others is not allowed, it is not one of those that
	// are discarded.
	x := written(t, 40, 2, csi+strings.Repeat("1", 29)+"\nx")
	if x.Text(1) != "x" || x.Text(0) != "" {
		t.Errorf("%q", screen(x))
	}
	x = written(t, 40, 2, csi+strings.Repeat("1", 30)+"\nx")
	if x.Text(1) != "x" || x.Text(0) != "" {
		t.Errorf("%q", screen(x))
	}
}

func TestSequenceWithoutEffect(t *testing.T) {
	const begin = "\x1b[31mab\r\ncd\x1b[7m"
	for _, s := range []string{
		"1 A", "1/m", " H", "!K", "2$J", "0\"m", "?25 l", "?2004!h",
		":A", "1:2H", "<m", "=0m", ">0m", ">J", "1?A", "1?25l", "??25l", "?25?l", "25?h", "?:25l", "?>25l", "?25:l", ";?25l", ":", "1;31:1m",
		"?A", "?B", "?C", "?D", "?G", "?H", "?J", "?2K", "?m", "?0m", "?1;31m",
		"25h", "25l", "2004h", "h", "l", "2004;25l",
		"?h", "?l", "?0l", "?1l", "?24l", "?26l", "?2003h", "?2005h", "?2;4h", "?25;2004H", "?25i", "?25k", "?2004i", "?25L",
		"3J", "4J", "9999J", "3K", "5K", "12J", "22K", "02002J",
	} {
		final := s[len(s)-1]
		if final < 64 {
			s += "A"
		}
		x, want := written(t, 6, 3, begin), written(t, 6, 3, begin+"\x1b7")
		x.Write([]byte(csi + s))
		same(t, s, x, want)
	}
	for b := byte(64); b <= 126; b++ {
		for _, parameters := range []string{"", "0", "1", "2", "25", "2004", "2;3", "?25", "?2004"} {
			known := strings.IndexByte("ABCDGHJKm", b) >= 0
			if parameters != "" && parameters[0] == '?' {
				known = b == 'h' || b == 'l'
			}
			if !known {
				x, want := written(t, 6, 3, begin), written(t, 6, 3, begin+"\x1b7")
				x.Write([]byte(csi + parameters + string(rune(b))))
				same(t, parameters+string(rune(b)), x, want)
			}
		}
	}
}

// P5.1: what control sequences do.

func TestMoves(t *testing.T) {
	for _, c := range []struct {
		s        string
		row, col int
	}{
		{"A", 2, 4}, {"0A", 2, 4}, {"1A", 2, 4}, {"2A", 1, 4}, {"3A", 0, 4}, {"4A", 0, 4}, {"9999A", 0, 4}, {";2A", 2, 4}, {"2;3A", 1, 4},
		{"B", 4, 4}, {"0B", 4, 4}, {"1B", 4, 4}, {"2B", 5, 4}, {"3B", 6, 4}, {"4B", 6, 4}, {"9999B", 6, 4}, {"2;3B", 5, 4},
		{"C", 3, 5}, {"0C", 3, 5}, {"1C", 3, 5}, {"2C", 3, 6}, {"4C", 3, 8}, {"5C", 3, 8}, {"9999C", 3, 8}, {"2;3C", 3, 6},
		{"D", 3, 3}, {"0D", 3, 3}, {"1D", 3, 3}, {"2D", 3, 2}, {"4D", 3, 0}, {"5D", 3, 0}, {"9999D", 3, 0}, {"2;3D", 3, 2},
		{"G", 3, 0}, {"0G", 3, 0}, {"1G", 3, 0}, {"2G", 3, 1}, {"9G", 3, 8}, {"10G", 3, 8}, {"9999G", 3, 8}, {"2;7G", 3, 1}, {";7G", 3, 0},
		{"H", 0, 0}, {"0H", 0, 0}, {"1H", 0, 0}, {";H", 0, 0}, {"0;0H", 0, 0}, {"1;1H", 0, 0}, {"2H", 1, 0}, {"2;H", 1, 0}, {"2;0H", 1, 0},
		{";3H", 0, 2}, {"0;3H", 0, 2}, {"2;3H", 1, 2}, {"2;3;5H", 1, 2}, {"7;9H", 6, 8}, {"8;10H", 6, 8}, {"9999;9999H", 6, 8},
		{";;3H", 0, 0}, {"5;;3H", 4, 0}, {"007;003H", 6, 2},
		{"10000A", 0, 4}, {"99999999999999999999999999A", 0, 4}, {"18446744073709551617A", 0, 4}, {"4294967297C", 3, 8}, {"18446744073709551618G", 3, 8},
		{"00000000000000000000000000002A", 1, 4}, {"9223372036854775808B", 6, 4}, {"65537;65537H", 6, 8},
	} {
		x := written(t, 9, 7, "\r\n\n\nabcd")
		x.Write([]byte(csi + c.s))
		if row, col := x.Cursor(); row != c.row || col != c.col || x.Waits() != 0 {
			t.Errorf("%s: the cursor is at %d, %d, not at %d, %d", c.s, row, col, c.row, c.col)
		}
		if screen(x) != "|||abcd|||" || x.Scrolled() != 0 {
			t.Errorf("%s: %q", c.s, screen(x))
		}
	}
	x := must(t, 500, 500)
	for n := range 502 {
		s := string(num(n))
		x.Write([]byte(csi + s + ";" + s + "H"))
		at := min(max(n, 1), 500) - 1
		if row, col := x.Cursor(); row != at || col != at {
			t.Errorf("%s: the cursor is at %d, %d", s, row, col)
		}
	}
}

func TestMovesClearPending(t *testing.T) {
	for _, c := range []struct {
		s        string
		row, col int
		pending  bool
	}{
		{"A", 0, 3, false}, {"B", 2, 3, false}, {"C", 1, 3, false}, {"D", 1, 2, false}, {"G", 1, 0, false}, {"4G", 1, 3, false}, {"9G", 1, 3, false},
		{"H", 0, 0, false}, {"2;4H", 1, 3, false}, {"9;9H", 2, 3, false},
		{"K", 1, 3, true}, {"1K", 1, 3, true}, {"2K", 1, 3, true}, {"J", 1, 3, true}, {"1J", 1, 3, true}, {"2J", 1, 3, true}, {"3J", 1, 3, true},
		{"m", 1, 3, true}, {"1m", 1, 3, true}, {"?25l", 1, 3, true}, {"?2004h", 1, 3, true}, {"Z", 1, 3, true}, {"?A", 1, 3, true}, {"1 C", 1, 3, true},
	} {
		x := written(t, 4, 3, "\nabcd"+csi+c.s)
		if row, col := x.Cursor(); row != c.row || col != c.col || x.Pending() != c.pending {
			t.Errorf("%s: the cursor is at %d, %d, pending %v", c.s, row, col, x.Pending())
		}
	}
}

func TestErase(t *testing.T) {
	const full = "abcd\r\nefgh\r\nijkl"
	for _, c := range []struct{ at, s, want string }{
		{"2;3H", "J", "abcd|ef|"}, {"2;3H", "0J", "abcd|ef|"}, {"2;3H", ";2J", "abcd|ef|"}, {"2;3H", "1J", "|   h|ijkl"}, {"2;3H", "2J", "||"},
		{"2;3H", "K", "abcd|ef|ijkl"}, {"2;3H", "0K", "abcd|ef|ijkl"}, {"2;3H", ";2K", "abcd|ef|ijkl"}, {"2;3H", "1K", "abcd|   h|ijkl"}, {"2;3H", "2K", "abcd||ijkl"},
		{"1;1H", "J", "||"}, {"1;1H", "1J", " bcd|efgh|ijkl"}, {"1;1H", "K", "|efgh|ijkl"}, {"1;1H", "1K", " bcd|efgh|ijkl"}, {"1;1H", "2K", "|efgh|ijkl"},
		{"3;4H", "J", "abcd|efgh|ijk"}, {"3;4H", "1J", "||"}, {"3;4H", "K", "abcd|efgh|ijk"}, {"3;4H", "1K", "abcd|efgh|"}, {"3;4H", "2J", "||"},
		{"2;1H", "J", "abcd||"}, {"2;1H", "1J", "| fgh|ijkl"}, {"2;4H", "J", "abcd|efg|"}, {"2;4H", "1J", "||ijkl"},
		{"1;3H", "J", "ab||"}, {"3;2H", "1J", "||  kl"}, {"3;2H", "1K", "abcd|efgh|  kl"},
	} {
		x := written(t, 4, 3, csi+"31m"+full+csi+c.at+csi+"7m")
		row, col := x.Cursor()
		x.Write([]byte(csi + c.s))
		if got := screen(x); got != c.want {
			t.Errorf("at %s, %s: %q, not %q", c.at, c.s, got, c.want)
		}
		if r, k := x.Cursor(); r != row || k != col || x.Pending() || x.Scrolled() != 0 {
			t.Errorf("at %s, %s: the cursor is at %d, %d", c.at, c.s, r, k)
		}
		if x.Style() != (api.Style{Inverse: true, Fg: 2}) {
			t.Errorf("at %s, %s: the style is %v", c.at, c.s, x.Style())
		}
		for row := range 3 {
			for col, cell := range x.Row(row) {
				if cell != space && cell.Y != (api.Style{Fg: 2}) || cell.S == " " && cell != space {
					t.Errorf("at %s, %s: the cell at %d, %d is %v", c.at, c.s, row, col, cell)
				}
			}
		}
	}
	// What is half erased is erased.
	for _, c := range []struct{ s, want string }{
		{"2G" + csi + "K", "a"}, {"3G" + csi + "K", "a"}, {"4G" + csi + "K", "a" + wide},
		{"2G" + csi + "1K", "   " + wide}, {"3G" + csi + "1K", "   " + wide}, {"4G" + csi + "1K", ""}, {"5G" + csi + "K", "a" + wide},
		{"3G" + csi + "J", "a"}, {"2G" + csi + "1J", "   " + wide}, {"1G" + csi + "1J", " " + wide + wide},
	} {
		if got := written(t, 5, 1, "a"+wide+wide+csi+c.s).Text(0); got != c.want {
			t.Errorf("%s: %q, not %q", c.s, got, c.want)
		}
	}
	// A wrap that is pending stays so, on a column that is erased.
	holds(t, 3, 2, check{"erased behind a pending wrap", "abc" + csi + "Kd", "ab|d", 1, 1, false})
}

func num(n int) []byte {
	if n < 10 {
		return []byte{byte('0' + n)}
	}
	return append(num(n/10), byte('0'+n%10))
}

func TestStyles(t *testing.T) {
	all := api.Style{Bold: true, Under: true, Inverse: true, Fg: 5, Bg: 3}
	for _, from := range []api.Style{{}, all} {
		for n := range 11000 {
			want := from
			switch n {
			case 0:
				want = api.Style{}
			case 1:
				want.Bold = true
			case 4:
				want.Under = true
			case 7:
				want.Inverse = true
			case 22:
				want.Bold = false
			case 24:
				want.Under = false
			case 27:
				want.Inverse = false
			case 30, 31, 32, 33, 34, 35, 36, 37:
				want.Fg = n - 29
			case 39:
				want.Fg = 0
			case 40, 41, 42, 43, 44, 45, 46, 47:
				want.Bg = n - 39
			case 49:
				want.Bg = 0
			}
			x := must(t, 1, 1)
			if from == all {
				x.Write([]byte(csi + "1;4;7;34;42m"))
			}
			x.Write([]byte(csi), num(n), []byte("m"))
			if x.Style() != want {
				t.Errorf("%d makes %v of %v, not %v", n, x.Style(), from, want)
			}
		}
	}
	for _, c := range []struct {
		s    string
		want api.Style
	}{
		{"m", api.Style{}}, {";m", api.Style{}}, {"1;m", api.Style{}}, {";1m", api.Style{Bold: true}}, {"1;;4m", api.Style{Under: true}},
		{"1;4m", api.Style{Bold: true, Under: true, Inverse: true, Fg: 8}}, {"22;27m", api.Style{Fg: 8}}, {"0;41;41;42m", api.Style{Bg: 3}},
		{"001m", api.Style{Bold: true, Inverse: true, Fg: 8}}, {"38;5;1m", api.Style{Bold: true, Inverse: true, Fg: 8}},
		{"39;49m", api.Style{Inverse: true}}, {"30;40m", api.Style{Inverse: true, Fg: 1, Bg: 1}}, {"1;22;1m", api.Style{Bold: true, Inverse: true, Fg: 8}},
		{"10001m", api.Style{Inverse: true, Fg: 8}}, {"18446744073709551617m", api.Style{Inverse: true, Fg: 8}}, {"4294967297m", api.Style{Inverse: true, Fg: 8}},
		{"0;1;4;7;37;47m", api.Style{Bold: true, Under: true, Inverse: true, Fg: 8, Bg: 8}}, {"65536m", api.Style{Inverse: true, Fg: 8}},
	} {
		x := written(t, 2, 1, csi+"7;37m"+csi+c.s)
		if x.Style() != c.want {
			t.Errorf("%s: %v, not %v", c.s, x.Style(), c.want)
		}
		if screen(x) != "" || x.Waits() != 0 {
			t.Errorf("%s: %q", c.s, screen(x))
		}
	}
}

func TestModes(t *testing.T) {
	for n := range 11000 {
		x := must(t, 1, 1)
		x.Write([]byte(csi+"?"), num(n), []byte("l"))
		if x.Seen() != (n != 25) || x.Marked() {
			t.Errorf("%d, off: %v, %v", n, x.Seen(), x.Marked())
		}
		x.Write([]byte(csi+"?25l"+csi+"?"), num(n), []byte("h"))
		if x.Seen() != (n == 25) || x.Marked() != (n == 2004) {
			t.Errorf("%d, on: %v, %v", n, x.Seen(), x.Marked())
		}
	}
	for _, c := range []struct {
		s            string
		seen, marked bool
	}{
		{"?25l", false, false}, {"?25l" + csi + "?25h", true, false}, {"?2004h", true, true}, {"?2004h" + csi + "?2004l", true, false},
		{"?25h", true, false}, {"?2004l", true, false}, {"?2004h" + csi + "?2004h", true, true}, {"?25;2004l", false, false},
		{"?25l" + csi + "?2004;25h", true, true}, {"?25l" + csi + "?1;;25h", true, false}, {"?1;2004;7h", true, true},
		{"?025l", false, false}, {"?25;l", false, false}, {"?;25l", false, false},
		{"?65561l", true, false}, {"?4294967321l", true, false}, {"?18446744073709551641l", true, false}, {"?20040h", true, false},
	} {
		x := written(t, 2, 1, csi+c.s)
		if x.Seen() != c.seen || x.Marked() != c.marked {
			t.Errorf("%s: %v, %v", c.s, x.Seen(), x.Marked())
		}
	}
}

// P5.1: the parts.

func TestParts(t *testing.T) {
	x := must(t, 8, 2)
	x.Write()
	x.Write(nil)
	x.Write(nil, []byte{}, nil)
	agree(t, "nothing", x, newPaper(8, 2))
	part := []byte("b" + csi + "3")
	room := append(make([]byte, 0, 64), "a\xc3"...)
	x.Write(room, nil, []byte("\xa9"), part, []byte{}, []byte("1m"), []byte("c\x1b"))
	same(t, "parts", x, written(t, 8, 2, "a\u00e9b\x1b[31mc\x1b"))
	if string(part) != "b"+csi+"3" || string(room) != "a\xc3" || string(room[:64][2:]) != strings.Repeat("\x00", 62) {
		t.Errorf("the parts are %q, %q", part, room)
	}
	waits := []byte("[")
	x.Write(waits)
	waits[0] = 'x'
	x.Write([]byte("H"))
	same(t, "a part is changed behind the call", x, written(t, 8, 2, "a\u00e9b\x1b[31mc\x1b[H"))
}

// P5.2

func TestResize(t *testing.T) {
	const full = "abcd\r\nefgh\r\nij"
	for _, c := range []struct {
		s        string
		w, h     int
		screen   string
		row, col int
		scrolled int
	}{
		{full, 4, 4, "abcd|efgh|ij|", 2, 2, 0},
		{full, 6, 6, "abcd|efgh|ij|||", 2, 2, 0},
		{full, 2, 4, "ab|ef|ij|", 2, 1, 0},
		{full, 3, 4, "abc|efg|ij|", 2, 2, 0},
		{full, 1, 1, "i", 0, 0, 2},
		{full, 4, 3, "abcd|efgh|ij", 2, 2, 0},
		{full, 4, 2, "efgh|ij", 1, 2, 1},
		{full, 4, 1, "ij", 0, 2, 2},
		{full + csi + "H", 4, 1, "abcd", 0, 0, 0},
		{full + csi + "H", 4, 2, "abcd|efgh", 0, 0, 0},
		{full + csi + "2;4H", 4, 2, "abcd|efgh", 1, 3, 0},
		{full + csi + "2;4H", 3, 1, "efg", 0, 2, 1},
		{full + csi + "4;4H", 5, 2, "ij|", 1, 3, 2},
		{full + "\n\n\n", 4, 3, "||", 2, 2, 3},
		{full + "\n\n\n", 4, 4, "ij|||", 3, 2, 2},
		{wide + wide, 3, 4, wide + "|||", 0, 2, 0},
		{"abcd", 4, 4, "abcd|||", 0, 3, 0},
		{"abcd", 500, 500, "abcd" + strings.Repeat("|", 499), 0, 3, 0},
	} {
		x := written(t, 4, 4, c.s)
		if e := x.Resize(c.w, c.h); e != api.OK {
			t.Fatalf("%q: Resize(%d, %d) = %d", c.s, c.w, c.h, e)
		}
		if w, h := x.Size(); w != c.w || h != c.h {
			t.Errorf("%q: Resize(%d, %d) makes %d columns and %d rows", c.s, c.w, c.h, w, h)
		}
		if got := screen(x); got != c.screen {
			t.Errorf("%q: Resize(%d, %d): %q, not %q", c.s, c.w, c.h, got, c.screen)
		}
		if row, col := x.Cursor(); row != c.row || col != c.col || x.Pending() {
			t.Errorf("%q: Resize(%d, %d): the cursor is at %d, %d, pending %v", c.s, c.w, c.h, row, col, x.Pending())
		}
		if x.Scrolled() != c.scrolled {
			t.Errorf("%q: Resize(%d, %d): %d scrolled", c.s, c.w, c.h, x.Scrolled())
		}
	}
}

func TestResizeClears(t *testing.T) {
	for _, size := range []struct{ w, h int }{{4, 2}, {3, 2}, {5, 2}, {4, 1}, {4, 3}} {
		x := written(t, 4, 2, "abcd")
		x.Resize(size.w, size.h)
		if x.Pending() {
			t.Errorf("%v: a wrap is pending", size)
		}
		x.Write([]byte(acute))
		if got := x.Text(0); strings.Contains(got, acute) {
			t.Errorf("%v: the last cell is still known: %q", size, got)
		}
		x.Write([]byte("e" + acute))
		if got := "abcd"[:size.w-1]; size.w < 5 && x.Text(0) != got[:min(3, size.w-1)]+"e"+acute {
			t.Errorf("%v: %q", size, x.Text(0))
		}
	}
}

// What is not of the size stays.
func TestResizeKeeps(t *testing.T) {
	x := written(t, 4, 3, "\a\n\n\n\n"+csi+"1;36m"+csi+"?25l"+csi+"?2004hab"+csi+"2")
	for _, size := range []struct{ w, h int }{{4, 3}, {9, 9}, {2, 1}, {4, 3}} {
		x.Resize(size.w, size.h)
		if x.Style() != (api.Style{Bold: true, Fg: 7}) || x.Seen() || !x.Marked() || x.Bells() != 1 || x.Waits() != 3 {
			t.Errorf("%v: %v, %v, %v, %d, %d", size, x.Style(), x.Seen(), x.Marked(), x.Bells(), x.Waits())
		}
	}
	x.Write([]byte("Kc"))
	if x.Text(0) != " c" || x.Scrolled() != 4 {
		t.Errorf("%q, %d", x.Text(0), x.Scrolled())
	}
	x = written(t, 4, 3, "\xe6\xbc")
	x.Resize(2, 2)
	x.Write([]byte("\xa2"))
	if x.Text(0) != wide || !x.Pending() {
		t.Errorf("a rune that waited: %q, %v", x.Text(0), x.Pending())
	}
}

func TestResizeRefuses(t *testing.T) {
	for _, n := range noSide {
		for _, size := range []struct{ w, h int }{{n, 3}, {4, n}, {n, n}, {500, n}, {n, 1}} {
			x := written(t, 4, 3, "a\nb\n\r\nabcd")
			before := x.Fork()
			if e := x.Resize(size.w, size.h); e != api.ErrTerm {
				t.Errorf("Resize(%d, %d) = %d", size.w, size.h, e)
			}
			if !x.Pending() {
				t.Errorf("Resize(%d, %d): no wrap is pending", size.w, size.h)
			}
			same(t, "a size that is refused", x, before)
		}
	}
}

// P5.3

func TestAccessors(t *testing.T) {
	x := written(t, 5, 2, "a"+csi+"31m"+wide+acute+"\r\n  b ")
	y := api.Style{Fg: 2}
	rows := [][]api.Cell{
		{{S: "a", W: 1}, {S: wide + acute, W: 2, Y: y}, {Y: y}, space, space},
		{{S: " ", W: 1, Y: y}, {S: " ", W: 1, Y: y}, {S: "b", W: 1, Y: y}, {S: " ", W: 1, Y: y}, space},
	}
	if w, h := x.Size(); w != 5 || h != 2 {
		t.Errorf("%d columns and %d rows", w, h)
	}
	for row, want := range rows {
		if got := x.Row(row); !slices.Equal(got, want) {
			t.Errorf("Row(%d) = %v, not %v", row, got, want)
		}
		for col, want := range want {
			if got, ok := x.Cell(row, col); got != want || !ok {
				t.Errorf("Cell(%d, %d) = %v, %v", row, col, got, ok)
			}
		}
	}
	if a, b := x.Text(0), x.Text(1); a != "a"+wide+acute || b != "  b" {
		t.Errorf("the texts are %q and %q", a, b)
	}
	for _, n := range []int{-1, 2, 5, math.MinInt, math.MaxInt} {
		if got := x.Row(n); len(got) != 0 {
			t.Errorf("Row(%d) = %v", n, got)
		}
		if got := x.Text(n); got != "" {
			t.Errorf("Text(%d) = %q", n, got)
		}
		if c, ok := x.Cell(n, 0); c != (api.Cell{}) || ok {
			t.Errorf("Cell(%d, 0) = %v, %v", n, c, ok)
		}
		if c, ok := x.Cell(0, n); (c != (api.Cell{}) || ok) && n != 2 {
			t.Errorf("Cell(0, %d) = %v, %v", n, c, ok)
		}
	}
	cells := x.Row(0)
	cells[0].S = "x"
	x.Write([]byte(csi + "Hy"))
	if c, _ := x.Cell(0, 0); c.S != "y" || cells[0].S != "x" || x.Row(0)[0].S != "y" {
		t.Errorf("a row shares memory: %v, %v", c, cells[0])
	}
}

func TestWaits(t *testing.T) {
	for _, s := range []string{
		"\x1b", csi, csi + "1", csi + "1;2", csi + "?25", csi + "1 ", csi + "/", csi + strings.Repeat(";", 29), "\xc3", "\xe6", "\xe6\xbc", "\xf0\x9f\x98", "\xf0",
	} {
		x := written(t, 4, 2, "ab\x1b7"+s)
		if x.Waits() != len(s) {
			t.Errorf("%q: %d wait", s, x.Waits())
		}
		want := written(t, 4, 2, "ab\x1b7")
		if row, col := x.Cursor(); screen(x) != screen(want) || row != 0 || col != 2 {
			t.Errorf("%q: %q", s, screen(x))
		}
	}
}

func TestFork(t *testing.T) {
	const begin = "a\n\n\n\a" + csi + "1;31m" + csi + "?25l" + csi + "?2004h" + wide + "b"
	for _, held := range []string{"", acute, "\x1b", csi + "2", "\xe6\xbc", "cdef"} {
		x := written(t, 5, 3, begin+held)
		fork, want := x.Fork(), written(t, 5, 3, begin+held)
		same(t, "a fork", fork, want)
		for _, c := range []struct {
			name           string
			changed, other *Term
		}{{"the fork", fork, x}, {"the first", x.Fork(), x.Fork()}, {"the fork of a fork", fork.Fork(), x}} {
			before := c.other.Fork()
			c.changed.Write([]byte("J\a" + csi + "0;4m" + csi + "?25h" + csi + "?2004l" + csi + "H" + wide + wide + wide + "\n\n\n\n" + csi))
			same(t, "the other one of "+c.name, c.other, before)
			c.changed.Resize(7, 2)
			same(t, "the other one of "+c.name+", resized", c.other, before)
		}
		same(t, "the first", x, want)
		x.Write([]byte(csi + "2J" + csi + "1;1Hxyz\x1b"))
		if screen(x) == screen(fork) {
			t.Errorf("%q: the fork is as the first: %q", held, screen(fork))
		}
	}
}

// P5.4

func TestPieces(t *testing.T) {
	for _, s := range []string{
		"ab" + wide + acute + "cd\u200d\U0001f600" + acute + "e\r\n\tf",
		"\x1b[31mab\x1b[1;1H" + wide + "\x1b[?25lc\x1b[K\x1b[2J\x1b[?2004h" + acute,
		"a\x1b" + acute + "b\x1b\x1b[Dc\x1b7d\x1b\x00" + acute,
		"\xe6\xe6\xbc\xf0\x9f\x1b[A\xf0\x9f\x98\n\xed\xa0\x80\xf4\x90\xc2\x9b",
		"a\x1b[1\x1b[2;\x07\x1b[ 1m\x1b[:m\x1b[1;1 " + acute + "x\x1b[\x1b[",
		"ab" + csi + strings.Repeat("1", 29) + "Dc" + csi,
		"ab" + csi + strings.Repeat("1", 32) + "Dc" + "\x1b",
		"ab" + csi + strings.Repeat(" ", 31) + "\n" + acute + "\xe6\xbc",
	} {
		want := written(t, 5, 3, s)
		p := newPaper(5, 3)
		p.write([]byte(s))
		agree(t, s, want, p)
		bytewise := must(t, 5, 3)
		for i := range len(s) {
			bytewise.Write([]byte{s[i]})
		}
		same(t, "a byte at a time", bytewise, want)
		for i := 0; i <= len(s); i++ {
			for j := i; j <= len(s); j++ {
				x := must(t, 5, 3)
				if (i+j)%2 == 0 {
					x.Write([]byte(s[:i]), []byte(s[i:j]), []byte(s[j:]))
				} else {
					x.Write([]byte(s[:i]))
					x = x.Fork()
					x.Write([]byte(s[i:j]))
					x.Write([]byte(s[j:]))
				}
				same(t, "in pieces", x, want)
			}
		}
	}
}

// P5.1 and P5.4: all rows of tokens, each of them a piece, against the chapter
// read a second time.

func TestAsDefined(t *testing.T) {
	for _, size := range []struct{ w, h, deep int }{{3, 2, 3}, {1, 1, 2}, {2, 2, 2}, {9, 3, 2}, {5, 1, 2}} {
		descend(t, "", must(t, size.w, size.h), newPaper(size.w, size.h), size.deep)
		x, p := must(t, size.w, size.h), newPaper(size.w, size.h)
		for _, s := range []string{wide + "b\n" + wide, "abcdefghi", csi + "7;32mab" + wide + "\r\n" + csi + "C"} {
			x.Write([]byte(s))
			p.write([]byte(s))
			descend(t, s, x, p, 2)
		}
	}
}

func descend(t *testing.T, before string, x *Term, p *paper, deep int) {
	t.Helper()
	if deep == 0 {
		return
	}
	for _, s := range tokens {
		x, p := x.Fork(), p.fork()
		x.Write([]byte(s))
		p.write([]byte(s))
		agree(t, before+s, x, p)
		descend(t, before+s, x, p, deep-1)
		if deep == 1 {
			agreeOnLast(t, before+s, x, p)
		}
	}
}

// Long rows of calls: what one leaves, the next one finds.
func TestWalk(t *testing.T) {
	seed := uint32(1)
	next := func(n int) int {
		seed = seed*1664525 + 1013904223
		return int(seed>>8) % n
	}
	x, p := must(t, 7, 4), newPaper(7, 4)
	for step := range 60000 {
		switch k := next(40); {
		case k == 0:
			w, h := next(12), next(7)
			if got, want := x.Resize(w, h), p.resize(w, h); got != want {
				t.Fatalf("Resize(%d, %d) = %d, not %d", w, h, got, want)
			}
		case k == 1:
			x = x.Fork()
		case k < 6:
			b := []byte{byte(next(256)), byte(next(256)), byte(next(256))}[:1+next(3)]
			x.Write(b)
			p.write(b)
		default:
			a, b := []byte(tokens[next(len(tokens))]), []byte(tokens[next(len(tokens))])
			x.Write(a, b)
			p.write(append(a, b...))
		}
		agree(t, "on the way", x, p)
		if step%5 == 0 {
			agreeOnLast(t, "on the way", x.Fork(), p.fork())
		}
		bounded(t, x)
	}
}

// P5.5

func bounded(t *testing.T, x *Term) {
	t.Helper()
	w, h := x.Size()
	row, col := x.Cursor()
	if row < 0 || row >= h || col < 0 || col >= w {
		t.Fatalf("the cursor is at %d, %d, of %d columns and %d rows", row, col, w, h)
	}
	if x.Pending() && col != w-1 {
		t.Fatalf("a wrap is pending in column %d of %d", col, w)
	}
	if x.Waits() < 0 || x.Waits() > 31 {
		t.Fatalf("%d bytes wait", x.Waits())
	}
}

func TestBounds(t *testing.T) {
	x, y := must(t, 1, 1), must(t, 500, 500)
	for _, a := range tokens {
		for _, b := range tokens {
			for _, s := range []string{a + b, b + a + a, strings.Repeat(a, 8) + b} {
				for i := range len(s) {
					x.Write([]byte{s[i]})
					bounded(t, x)
				}
				y.Write([]byte(s))
				bounded(t, y)
			}
		}
		x.Resize(1+len(a)%3, 1+len(a)%2)
		bounded(t, x)
		y.Resize(500-len(a), 500-2*len(a))
		bounded(t, y)
	}
	for n := range 200 {
		for _, fill := range []string{"1", ";", " ", "?", "\x1b", "\xf0\x9f", "\xe6", csi} {
			x := written(t, 3, 2, csi+strings.Repeat(fill, n))
			bounded(t, x)
		}
	}
}

// P5.6

func TestPlainText(t *testing.T) {
	long := strings.Repeat("x"+acute, 100) + strings.Repeat(wide+"\u200d", 150)
	for _, s := range []string{
		"", "a", "abc", wide, "a" + wide + "b", "a" + acute + wide + acute + "\u200d" + " ", "  ", "\ufffd\xff", "a\x07" + acute, acute + "a",
		"a" + strings.Repeat(acute, 40) + "b", wide + strings.Repeat("\u200d", 40) + acute, "\u00e9\U0001f600\u0e01\u0e31", long,
	} {
		text := cluster.Clean(s)
		columns := cluster.Columns(text)
		for _, w := range []int{columns, columns + 1, columns + 7, 500} {
			if w < 1 {
				continue
			}
			for _, begin := range []string{"", "\n", csi + "1;45m" + wide + wide + "\n\r", csi + "4m" + strings.Repeat("yz", w), "\n\n\n" + csi + "2;1H"} {
				x := written(t, w, 3, begin)
				x.Write([]byte(csi + "1G"))
				row, _ := x.Cursor()
				y := x.Style()
				behind := x.Row(row)
				x.Write([]byte(text))
				var want []api.Cell
				for _, c := range cluster.Cut(s) {
					want = append(want, api.Cell{S: c, W: cluster.Width(c), Y: y})
					if cluster.Width(c) == 2 {
						want = append(want, api.Cell{Y: y})
					}
				}
				got := x.Row(row)
				if !slices.Equal(got[:columns], want) {
					t.Fatalf("%q in %d columns: %v, not %v", s, w, got[:columns], want)
				}
				if columns+1 < w && !slices.Equal(got[columns+1:], behind[columns+1:]) {
					t.Fatalf("%q in %d columns: behind it, %v", s, w, got[columns:])
				}
				at, col := x.Cursor()
				if at != row || col != min(columns, w-1) || x.Pending() != (columns == w) {
					t.Fatalf("%q in %d columns: the cursor is at %d, %d, pending %v", s, w, at, col, x.Pending())
				}
			}
		}
	}
}

// What is no terminal.

func TestInvalid(t *testing.T) {
	made := written(t, 4, 2, "ab\a\n\n\n"+csi+"1m"+csi+"?2004h"+csi)
	before := made.Fork()
	copied := *made
	for _, c := range []struct {
		name string
		x    *Term
	}{{"nil", nil}, {"composed", &Term{}}, {"copied", &copied}} {
		x := c.x
		x.Write()
		x.Write([]byte("2Jab\n\n\a" + csi + "?25l"))
		for _, n := range []int{1, 4, 0, -1, 501} {
			if e := x.Resize(n, 2); e != api.ErrNil {
				t.Errorf("%s: Resize(%d, 2) = %d", c.name, n, e)
			}
		}
		if w, h := x.Size(); w != 0 || h != 0 {
			t.Errorf("%s: Size: %d, %d", c.name, w, h)
		}
		if cell, ok := x.Cell(0, 0); cell != (api.Cell{}) || ok {
			t.Errorf("%s: Cell: %v, %v", c.name, cell, ok)
		}
		if cells := x.Row(0); len(cells) != 0 {
			t.Errorf("%s: Row: %v", c.name, cells)
		}
		if text := x.Text(0); text != "" {
			t.Errorf("%s: Text: %q", c.name, text)
		}
		if row, col := x.Cursor(); row != 0 || col != 0 || x.Pending() || x.Style() != (api.Style{}) || x.Seen() || x.Marked() {
			t.Errorf("%s: %d, %d, %v, %v, %v, %v", c.name, row, col, x.Pending(), x.Style(), x.Seen(), x.Marked())
		}
		if x.Bells() != 0 || x.Scrolled() != 0 || x.Waits() != 0 {
			t.Errorf("%s: %d, %d, %d", c.name, x.Bells(), x.Scrolled(), x.Waits())
		}
		if f := x.Fork(); f != nil {
			t.Errorf("%s: Fork: %v", c.name, f)
		}
	}
	same(t, "the one that was copied", made, before)
}
