package frame

import (
	"math"
	"slices"
	"strconv"
	"strings"
	"testing"

	"placard/api"
	"placard/cluster"
)

func must(t *testing.T, w, rows int) *Builder {
	t.Helper()
	b, e := New(w, rows)
	if b == nil || e != api.OK {
		t.Fatalf("New(%d, %d) = %v, %d", w, rows, b, e)
	}
	return b
}

// agree holds all that a builder tells against a sheet, and against P9.4.
func agree(t *testing.T, what string, b *Builder, s *sheet) {
	t.Helper()
	if w, rows := b.Size(); w != s.w || rows != len(s.rows) {
		t.Fatalf("%s: %d columns and %d rows, not %d and %d", what, w, rows, s.w, len(s.rows))
	}
	got, want := b.Frame(), s.frame()
	if !readSame(got, want) || !Same(got, want) {
		t.Fatalf("%s: the frame is\n%v, not\n%v", what, got, want)
	}
	if !readValid(got) || Check(got) != api.OK {
		t.Fatalf("%s: the frame is not valid: %v", what, got)
	}
	if texts := collect(t, Texts(got), 99); !slices.Equal(texts, readTexts(want)) {
		t.Fatalf("%s: the texts are %q", what, texts)
	}
}

// pictures are all rows of w columns: . a blank, _ a blank of a style, a a thing
// of one column, W a wide one.
func pictures(w int) []string {
	if w == 0 {
		return []string{""}
	}
	var all []string
	for _, rest := range pictures(w - 1) {
		all = append(all, "."+rest, "_"+rest, "a"+rest)
	}
	if w >= 2 {
		for _, rest := range pictures(w - 2) {
			all = append(all, "W"+rest)
		}
	}
	return all
}

var drawing = map[rune]thing{'.': {" ", 1, api.Style{}}, '_': {" ", 1, under}, 'a': {"a", 1, bold}, 'W': {wide, 2, under}}

// drawn is a builder, and a sheet, on which each row is as its picture.
func drawn(t *testing.T, w int, pictures ...string) (*Builder, *sheet) {
	t.Helper()
	b, s := must(t, w, len(pictures)), newSheet(w, len(pictures))
	for row, p := range pictures {
		col := 0
		for _, r := range p {
			x := drawing[r]
			if n, e := b.Text(row, col, x.s, x.y); n != col+x.w || e != api.OK {
				t.Fatalf("%q: Text at %d: %d, %d", p, col, n, e)
			}
			s.rows[row][col] = x
			col += x.w
		}
	}
	agree(t, strings.Join(pictures, "|"), b, s)
	return b, s
}

// far are numbers that no row and no column has.
var far = []int{math.MinInt, -1 << 32, -500, 500, 501, 1 << 32, math.MaxInt - 1, math.MaxInt}

// notStyles are styles of which a color is none.
func notStyles() []api.Style {
	var all []api.Style
	for _, n := range []int{math.MinInt, -1 << 32, -1, 9, 10, 255, 256, 1 << 32, math.MaxInt} {
		all = append(all, api.Style{Fg: n}, api.Style{Bg: n}, api.Style{Bold: true, Fg: 1, Bg: n}, api.Style{Inverse: true, Fg: n, Bg: 8}, api.Style{Fg: n, Bg: n})
	}
	return all
}

func TestExample(t *testing.T) {
	b := must(t, 4, 1)
	if n, e := b.Text(0, 1, wide+"xy", bold); n != 4 || e != api.OK {
		t.Errorf("Text = %d, %d", n, e)
	}
	want := oneRow(space, api.Cell{S: wide, W: 2, Y: bold}, api.Cell{Y: bold}, api.Cell{S: "x", W: 1, Y: bold})
	if f := b.Frame(); !Same(f, want) {
		t.Errorf("the frame is %v", f)
	}
}

// P9.1: New

func TestNew(t *testing.T) {
	for _, x := range []struct{ w, rows int }{{1, 1}, {1, 60}, {500, 1}, {500, 60}, {499, 59}, {80, 24}, {2, 3}} {
		b := must(t, x.w, x.rows)
		agree(t, "new", b, newSheet(x.w, x.rows))
		f := b.Frame()
		if f.Row != 0 || f.Col != 0 || f.Seen || !Same(f, blanks(x.w, x.rows)) {
			t.Errorf("New(%d, %d): the cursor is at %d, %d, %v", x.w, x.rows, f.Row, f.Col, f.Seen)
		}
	}
	one, other := must(t, 4, 1), must(t, 4, 1)
	one.Text(0, 0, "a", bold)
	agree(t, "another one is changed", other, newSheet(4, 1))
}

func TestNewRefuses(t *testing.T) {
	bad := []int{math.MinInt, -1, 0, 501, 1 << 32, 1<<32 + 1, math.MaxInt}
	for _, w := range bad {
		for _, rows := range []int{1, 60} {
			if b, e := New(w, rows); b != nil || e != api.ErrFrame {
				t.Errorf("New(%d, %d) = %v, %d", w, rows, b, e)
			}
		}
	}
	for _, rows := range append(bad, 61, 100, 500) {
		for _, w := range append(bad, 1, 500) {
			if b, e := New(w, rows); b != nil || e != api.ErrFrame {
				t.Errorf("New(%d, %d) = %v, %d", w, rows, b, e)
			}
		}
	}
}

// P9.1: Text

func TestText(t *testing.T) {
	for _, x := range []struct {
		row  string
		col  int
		s    string
		end  int
		want string
	}{
		{"......", 0, "abc", 3, "abc   "},
		{"......", 2, "abc", 5, "  abc "},
		{"......", 3, "abc", 6, "   abc"},
		{"......", 4, "abc", 6, "    ab"},
		{"......", 6, "abc", 6, "      "},
		{"......", 0, "", 0, "      "},
		{"......", 6, "", 6, "      "},
		{"......", 0, "abcdefg", 6, "abcdef"},
		{"......", 0, wide + wide + wide + wide, 6, wide + wide + wide},
		{"......", 1, wide + wide + wide, 5, " " + wide + wide + " "},
		{"......", 4, wide, 6, "    " + wide},
		{"......", 5, wide, 5, "      "},
		{"......", 6, wide, 6, "      "},
		{"aaaaaa", 5, wide, 5, "aaaaaa"},
		{"......", 5, wide + "a", 5, "      "},
		{"......", 3, "ab" + wide + "c", 5, "   ab "},
		{"aaaaaa", 2, "xyz", 5, "aaxyza"},
		{"aaaaaa", 2, "   ", 5, "aa   a"},
		{"WWW", 1, "x", 2, " x" + wide + wide},
		{"WWW", 0, "x", 1, "x " + wide + wide},
		{"WWW", 1, wide, 3, " " + wide + " " + wide},
		{"WWW", 1, "xy", 3, " xy " + wide},
		{"WWW", 5, "x", 6, wide + wide + " x"},
		{"WWW", 5, wide, 5, wide + wide + wide},
		{"aaaaaa", 1, "\t\n\r", 4, "a   aa"},
		{"......", 0, "a\tb\r\nc", 6, "a b  c"},
		{"......", 0, "a\x00b\x1b\x7fc\u0080\u009f", 3, "abc   "},
		{"......", 0, "\x1b[1mz", 4, "[1mz  "},
		{"......", 0, "e\u0301\u0302x", 2, "e\u0301\u0302x    "},
		{"aaaaaa", 3, "\u0301x", 4, "aaaxaa"},
		{"aaaaaa", 3, "\u0301", 3, "aaaaaa"},
		{"......", 5, "e\u0301\u0302x", 6, "     e\u0301\u0302"},
		{"......", 4, wide + "\u0301x", 6, "    " + wide + "\u0301"},
		{"......", 0, "a\xffb", 3, "a\ufffdb   "},
		{"......", 0, "\u00a0\u3000", 3, "\u00a0\u3000   "},
		{"......", 0, "a" + strings.Repeat("\u0301", 40) + "b", 2, "a" + strings.Repeat("\u0301", 31) + "b    "},
	} {
		b, _ := drawn(t, 6, x.row)
		what := strconv.Quote(x.row) + ", " + strconv.Itoa(x.col) + ", " + strconv.Quote(x.s)
		if end, e := b.Text(0, x.col, x.s, bold); end != x.end || e != api.OK {
			t.Errorf("%s: Text = %d, %d, not %d", what, end, e, x.end)
		}
		f := b.Frame()
		if got := readTexts(f)[0]; got != x.want || Check(f) != api.OK {
			t.Errorf("%s: the row is %q, not %q", what, got, x.want)
		}
	}
}

// Only what is stored takes the style, and only in its row.
func TestTextStyle(t *testing.T) {
	for fg := range 9 {
		for bg := range 9 {
			y := api.Style{Bold: fg > 4, Under: bg > 4, Inverse: fg > bg, Fg: fg, Bg: bg}
			b, s := drawn(t, 5, "aWa.", ".....", "WWa")
			n, e := b.Text(1, 1, "x"+wide, y)
			if n != 4 || e != api.OK {
				t.Fatalf("%v: Text = %d, %d", y, n, e)
			}
			s.rows[1] = map[int]thing{1: {"x", 1, y}, 2: {wide, 2, y}}
			agree(t, "a style", b, s)
		}
	}
}

func TestTextRefuses(t *testing.T) {
	b, s := drawn(t, 5, "aWa.", "WWa")
	refused := func(row, col int, text string, y api.Style, want api.Errno) {
		t.Helper()
		if n, e := b.Text(row, col, text, y); n != 0 || e != want {
			t.Errorf("Text(%d, %d, %q, %v) = %d, %d, not %d", row, col, text, y, n, e, want)
		}
	}
	for _, text := range []string{"x", "", wide, "\xff"} {
		for _, y := range append(notStyles(), bold) {
			for _, bad := range append(far, -1) {
				refused(bad, 0, text, y, api.ErrRange)
				refused(bad, 5, text, y, api.ErrRange)
				refused(0, bad, text, y, api.ErrRange)
				refused(bad, bad, text, y, api.ErrRange)
			}
			refused(2, 0, text, y, api.ErrRange)
			refused(0, 6, text, y, api.ErrRange)
			refused(2, 6, text, y, api.ErrRange)
		}
		for _, y := range notStyles() {
			for col := range 6 {
				refused(1, col, text, y, api.ErrArg)
			}
		}
	}
	agree(t, "after what was refused", b, s)
}

// Of a text that is longer than any row, what fits is stored.
func TestTextLong(t *testing.T) {
	b := must(t, 500, 60)
	for row := range 60 {
		if n, e := b.Text(row, row, strings.Repeat("ab"+wide, 20000), bold); n < 499 || n > 500 || e != api.OK {
			t.Errorf("row %d: Text = %d, %d", row, n, e)
		}
	}
	for row, s := range readTexts(b.Frame()) {
		want := strings.Repeat(" ", row) + strings.Repeat("ab"+wide, 200)
		if fitting, columns := cluster.Fit(want, 500); s != fitting+strings.Repeat(" ", 500-columns) {
			t.Errorf("row %d is %q", row, s)
		}
	}
	if n, e := b.Text(0, 7, strings.Repeat("\x00\u0301", 100000), bold); n != 7 || e != api.OK {
		t.Errorf("Text of controls and marks = %d, %d", n, e)
	}
}

// P9.1: Fill

func TestFill(t *testing.T) {
	for _, x := range []struct {
		row      string
		from, to int
		want     string
	}{
		{"aaaa", 0, 4, "____"},
		{"aaaa", 1, 3, "a__a"},
		{"aaaa", 1, 1, "aaaa"},
		{"aaaa", 3, 1, "aaaa"},
		{"aaaa", 4, 9, "aaaa"},
		{"aaaa", -9, 0, "aaaa"},
		{"aaaa", -9, 1, "_aaa"},
		{"aaaa", 3, 9, "aaa_"},
		{"aaaa", math.MinInt, math.MaxInt, "____"},
		{"aaaa", math.MaxInt, math.MinInt, "aaaa"},
		{"aaaa", math.MinInt, 2, "__aa"},
		{"aaaa", 2, math.MaxInt, "aa__"},
		{"WW", 0, 1, "_.W"},
		{"WW", 1, 2, "._W"},
		{"WW", 1, 3, ".__."},
		{"WW", 0, 2, "__W"},
		{"WW", 3, 4, "W._"},
		{"WW", 1, 1, "WW"},
		{"aWa", 2, 4, "a.__"},
	} {
		b, _ := drawn(t, 4, x.row)
		_, s := drawn(t, 4, x.want)
		if e := b.Fill(0, x.from, x.to, under); e != api.OK {
			t.Errorf("%q: Fill from %d to %d: %d", x.row, x.from, x.to, e)
		}
		agree(t, strconv.Quote(x.row)+" filled from "+strconv.Itoa(x.from)+" to "+strconv.Itoa(x.to), b, s)
	}
}

func TestFillStyle(t *testing.T) {
	for fg := range 9 {
		for bg := range 9 {
			y := api.Style{Bold: fg > 4, Under: bg > 4, Inverse: fg > bg, Fg: fg, Bg: bg}
			b, s := drawn(t, 5, "aWa.", "_WW", "WWa")
			if e := b.Fill(1, 2, 4, y); e != api.OK {
				t.Fatalf("%v: Fill = %d", y, e)
			}
			s.rows[1] = map[int]thing{0: drawing['_'], 2: {" ", 1, y}, 3: {" ", 1, y}}
			agree(t, "a style", b, s)
		}
	}
}

func TestFillRefuses(t *testing.T) {
	b, s := drawn(t, 5, "aWa.", "WWa")
	for _, y := range append(notStyles(), bold) {
		for _, row := range append(far, -1, 2) {
			for _, to := range []int{-1, 0, 3, 9} {
				if e := b.Fill(row, 0, to, y); e != api.ErrRange {
					t.Errorf("Fill(%d, 0, %d, %v) = %d", row, to, y, e)
				}
			}
		}
	}
	for _, y := range notStyles() {
		for _, to := range []int{-1, 0, 3, 9} {
			if e := b.Fill(1, 0, to, y); e != api.ErrArg {
				t.Errorf("Fill(1, 0, %d, %v) = %d", to, y, e)
			}
		}
	}
	agree(t, "after what was refused", b, s)
}

// P9.1: Cursor

func TestCursor(t *testing.T) {
	b, s := drawn(t, 5, "aWa.", "WWa")
	for row := range 2 {
		for col := range 5 {
			for _, seen := range []bool{true, false, true} {
				if e := b.Cursor(row, col, seen); e != api.OK {
					t.Errorf("Cursor(%d, %d, %v) = %d", row, col, seen, e)
				}
				s.row, s.col, s.seen = row, col, seen
				agree(t, "the cursor", b, s)
			}
		}
	}
	b.Text(0, 0, "xyz", bold)
	b.Fill(1, 0, 5, bold)
	if f := b.Frame(); f.Row != 1 || f.Col != 4 || !f.Seen {
		t.Errorf("Text and Fill move the cursor to %d, %d, %v", f.Row, f.Col, f.Seen)
	}
}

func TestCursorRefuses(t *testing.T) {
	b, s := drawn(t, 5, "aWa.", "WWa")
	b.Cursor(1, 3, true)
	s.row, s.col, s.seen = 1, 3, true
	for _, seen := range []bool{false, true} {
		for _, x := range []struct{ row, col int }{{-1, 0}, {2, 0}, {0, -1}, {0, 5}, {1, 5}, {2, 5}, {-1, -1}, {2, 1}} {
			if e := b.Cursor(x.row, x.col, seen); e != api.ErrRange {
				t.Errorf("Cursor(%d, %d) = %d", x.row, x.col, e)
			}
		}
		for _, n := range far {
			if b.Cursor(n, 0, seen) != api.ErrRange || b.Cursor(0, n, seen) != api.ErrRange || b.Cursor(n, n, seen) != api.ErrRange {
				t.Errorf("there is a cursor at %d", n)
			}
		}
	}
	agree(t, "after what was refused", b, s)
}

// P9.2

func TestFrame(t *testing.T) {
	b, s := drawn(t, 4, "aWa", "WW", "....")
	b.Cursor(2, 3, true)
	s.row, s.col, s.seen = 2, 3, true
	before, other, want := b.Frame(), b.Frame(), s.frame()
	for row := range before.Rows {
		for col := range before.Rows[row] {
			before.Rows[row][col] = api.Cell{S: "x", W: 7}
		}
		_ = append(before.Rows[row], api.Cell{S: "y", W: 8})
		_ = append(before.Rows[row][:0], make([]api.Cell, 99)...)
	}
	_ = append(before.Rows[:0], nil, nil, nil)
	agree(t, "a frame is changed by its receiver", b, s)
	if !readSame(other, want) {
		t.Errorf("two frames share memory: %v", other)
	}
	b.Text(0, 0, "zzzz", under)
	b.Fill(1, 0, 4, bold)
	b.Cursor(0, 0, false)
	if !readSame(other, want) {
		t.Errorf("a frame shares memory with the builder: %v", other)
	}
}

// The rows of a frame share nothing with each other.
func TestFrameRows(t *testing.T) {
	for row := range 3 {
		b, s := drawn(t, 4, "aWa", "WW", "....")
		f, want := b.Frame(), s.frame()
		for col := range f.Rows[row] {
			f.Rows[row][col].S = "x"
		}
		_ = append(f.Rows[row], make([]api.Cell, 20)...)
		for other := range 3 {
			if other != row && !slices.Equal(f.Rows[other], want.Rows[other]) {
				t.Errorf("rows %d and %d share memory", row, other)
			}
		}
	}
}

func TestSize(t *testing.T) {
	for _, x := range []struct{ w, rows int }{{1, 1}, {1, 60}, {500, 1}, {500, 60}, {80, 24}} {
		b := must(t, x.w, x.rows)
		b.Text(0, 0, strings.Repeat(wide, 300), bold)
		b.Fill(0, -1, 600, bold)
		b.Cursor(x.rows-1, x.w-1, true)
		b.Frame()
		if w, rows := b.Size(); w != x.w || rows != x.rows {
			t.Errorf("Size() = %d, %d, not %d, %d", w, rows, x.w, x.rows)
		}
	}
}

// Builders that are nil, or that New did not make

func TestInvalid(t *testing.T) {
	made, s := drawn(t, 4, "aWa", "WW")
	copied := *made
	for what, b := range map[string]*Builder{"nil": nil, "composed": {}, "new": new(Builder), "copied": &copied} {
		for _, row := range append(far, -1, 0, 1, 2) {
			for _, y := range append(notStyles(), bold) {
				if n, e := b.Text(row, 0, "x", y); n != 0 || e != api.ErrNil {
					t.Errorf("%s: Text(%d) = %d, %d", what, row, n, e)
				}
				if n, e := b.Text(0, row, "", y); n != 0 || e != api.ErrNil {
					t.Errorf("%s: Text(0, %d) = %d, %d", what, row, n, e)
				}
				if e := b.Fill(row, 0, 1, y); e != api.ErrNil {
					t.Errorf("%s: Fill(%d) = %d", what, row, e)
				}
			}
			if e := b.Cursor(row, 0, true); e != api.ErrNil {
				t.Errorf("%s: Cursor(%d) = %d", what, row, e)
			}
			if e := b.Cursor(0, row, true); e != api.ErrNil {
				t.Errorf("%s: Cursor(0, %d) = %d", what, row, e)
			}
		}
		if w, rows := b.Size(); w != 0 || rows != 0 {
			t.Errorf("%s: Size() = %d, %d", what, w, rows)
		}
		if f := b.Frame(); len(f.Rows) != 0 || f.Row != 0 || f.Col != 0 || f.Seen {
			t.Errorf("%s: Frame() = %v", what, f)
		}
	}
	agree(t, "the one that was copied", made, s)
}

// What was a builder is none any more when another one was copied over it.
func TestInvalidCopiedOver(t *testing.T) {
	one, s := drawn(t, 4, "aWa")
	other := must(t, 2, 2)
	*other = *one
	if n, e := other.Text(0, 0, "xyz", bold); n != 0 || e != api.ErrNil {
		t.Errorf("Text = %d, %d", n, e)
	}
	if f := other.Frame(); len(f.Rows) != 0 || Check(f) != api.ErrFrame {
		t.Errorf("Frame() = %v", f)
	}
	agree(t, "the one that was copied", one, s)
}

// P9.4, and all calls as the chapter defines them

// pieces are those of the texts that are tried.
var pieces = []piece{
	{"x", "x", 1}, {wide, wide, 2}, {"e\u0301", "e\u0301", 1}, {"한\u20d0", "한\u20d0", 2},
	{"\n", " ", 1}, {"\a", "", 0}, {"\xfe", "\ufffd", 1}, {" ", " ", 1},
}

// rowsOf are all rows of up to n pieces.
func rowsOf(n int) [][]piece {
	all := [][]piece{nil}
	for begin := 0; n > 0; n-- {
		end := len(all)
		for _, row := range all[begin:end] {
			for _, p := range pieces {
				all = append(all, slices.Concat(row, []piece{p}))
			}
		}
		begin = end
	}
	return all
}

// call is a change, and the same one as the chapter defines it; both answer
// numbers.
type call struct {
	what    string
	builder func(*Builder) [2]int
	sheet   func(*sheet) [2]int
}

func textCall(row, col int, pieces []piece, y api.Style) call {
	raw := ""
	for _, p := range pieces {
		raw += p.raw
	}
	return call{
		"Text of " + strconv.Quote(raw),
		func(b *Builder) [2]int { n, e := b.Text(row, col, raw, y); return [2]int{n, int(e)} },
		func(s *sheet) [2]int { n, e := s.text(row, col, pieces, y); return [2]int{n, int(e)} },
	}
}

func fillCall(row, from, to int, y api.Style) call {
	return call{
		"Fill from " + strconv.Itoa(from) + " to " + strconv.Itoa(to),
		func(b *Builder) [2]int { return [2]int{int(b.Fill(row, from, to, y))} },
		func(s *sheet) [2]int { return [2]int{int(s.fill(row, from, to, y))} },
	}
}

func cursorCall(row, col int, seen bool) call {
	return call{
		"Cursor",
		func(b *Builder) [2]int { return [2]int{int(b.Cursor(row, col, seen))} },
		func(s *sheet) [2]int { return [2]int{int(s.cursor(row, col, seen))} },
	}
}

// try does one call to both and holds them against each other.
func try(t *testing.T, where string, c call, b *Builder, s *sheet) {
	t.Helper()
	if got, want := c.builder(b), c.sheet(s); got != want {
		t.Fatalf("%s: %s = %v, not %v", where, c.what, got, want)
	}
	agree(t, where+": "+c.what, b, s)
}

// Each call, on each row that there can be.
func TestAsDefined(t *testing.T) {
	texts := rowsOf(2)
	for w := 1; w <= 4; w++ {
		for _, p := range pictures(w) {
			for col := -1; col <= w+1; col++ {
				calls := []call{cursorCall(1, col, true), fillCall(1, col, w+1, api.Style{})}
				for _, text := range texts {
					calls = append(calls, textCall(1, col, text, under))
				}
				for to := -1; to <= w+1; to++ {
					calls = append(calls, fillCall(1, col, to, bold))
				}
				for _, c := range calls {
					b, s := drawn(t, w, strings.Repeat("a", w), p, strings.Repeat("_", w))
					try(t, p+" at "+strconv.Itoa(col), c, b, s)
				}
			}
		}
	}
}

// Long rows of calls: what one leaves, the next one finds.
func TestWalk(t *testing.T) {
	seed := uint32(1)
	next := func(n int) int {
		seed = seed*1664525 + 1013904223
		return int(seed>>8) % n
	}
	styles := []api.Style{{}, bold, under, {Fg: 8, Bg: 1}, {}, bold, {Fg: 9}, {Bg: -1}}
	for _, size := range []struct{ w, rows int }{{1, 1}, {2, 1}, {3, 3}, {7, 4}, {20, 2}} {
		b, s := must(t, size.w, size.rows), newSheet(size.w, size.rows)
		for range 8000 {
			row, col, y := next(size.rows+2)-1, next(size.w+3)-1, styles[next(len(styles))]
			var c call
			switch k := next(10); {
			case k < 6:
				var text []piece
				for range next(size.w + 2) {
					text = append(text, pieces[next(len(pieces))])
				}
				c = textCall(row, col, text, y)
			case k < 8:
				c = fillCall(row, col, next(size.w+4)-1, y)
			default:
				c = cursorCall(row, col, next(2) == 0)
			}
			try(t, "on the way", c, b, s)
		}
	}
}

// Frames are valid whatever bytes, rows, columns and styles a builder is given.
func TestValid(t *testing.T) {
	seed := uint32(7)
	next := func(n int) int {
		seed = seed*1664525 + 1013904223
		return int(seed>>8) % n
	}
	bits := []string{"\xcc", "\x81", "\xe6", "\xbc", "\xa2", "a", "\x00", "\x1b", "[", "\x9b", "\xf0", "\x9f", "\x98", "\x80", "\u0301", wide, "\U000e0100", "\ufeff", "\u200d", "\ud7ff", "\xed\xa0\x80"}
	b := must(t, 9, 5)
	for range 20000 {
		text := ""
		for range next(12) {
			text += bits[next(len(bits))]
		}
		y := api.Style{Fg: next(12) - 1, Bg: next(12) - 1, Bold: next(2) == 0}
		b.Text(next(7)-1, next(12)-1, text, y)
		b.Fill(next(7)-1, next(12)-1, next(12)-1, y)
		b.Cursor(next(7)-1, next(12)-1, next(2) == 0)
		if f := b.Frame(); !readValid(f) || Check(f) != api.OK {
			t.Fatalf("behind Text of %q: %v", text, f)
		}
	}
}

// P9.5

// stands holds that a text, stored in a row of blanks into which it fits, stands
// there.
func stands(t *testing.T, w, col int, s string) {
	t.Helper()
	b := must(t, w, 1)
	flat := cluster.Flat(s)
	columns := cluster.Columns(flat)
	if n, e := b.Text(0, col, s, bold); n != col+columns || e != api.OK {
		t.Fatalf("Text of %q at %d = %d, %d", s, col, n, e)
	}
	f := b.Frame()
	if got, want := readTexts(f)[0], strings.Repeat(" ", col)+flat+strings.Repeat(" ", w-col-columns); got != want {
		t.Fatalf("%q at %d stands as %q, not as %q", s, col, got, want)
	}
	at := col
	for _, c := range cluster.Cut(flat) {
		if got := f.Rows[0][at]; got.S != c || got.W != cluster.Width(c) || got.Y != bold {
			t.Fatalf("%q: at %d stands %v, not %q", s, at, got, c)
		}
		at += cluster.Width(c)
	}
}

func TestTextStands(t *testing.T) {
	for _, text := range rowsOf(4) {
		raw, columns := "", 0
		for _, p := range text {
			raw, columns = raw+p.raw, columns+p.w
		}
		for w := max(columns, 1); w <= columns+2; w++ {
			for col := 0; col+columns <= w; col++ {
				stands(t, w, col, raw)
			}
		}
	}
}

// Every rune, in texts that fill rows.
func TestTextStandsOfEveryRune(t *testing.T) {
	var text strings.Builder
	for r := rune(0); r <= 0x10ffff; r++ {
		text.WriteRune(r)
		if r%250 == 249 || r == 0x10ffff {
			stands(t, 500, 0, text.String())
			text.Reset()
		}
	}
}
