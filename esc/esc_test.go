package esc

import (
	"fmt"
	"math"
	"regexp"
	"strings"
	"testing"

	"placard/api"
	"placard/term"
)

// edges are numbers near which the length of a sequence, or what it may name,
// changes.
var edges = []int{
	math.MinInt, math.MinInt + 1, -9999, -1, 0, 1, 2, 3, 8, 9, 10, 11, 20, 98, 99, 100, 101, 109, 110,
	998, 999, 1000, 1001, 5000, 9997, 9998, 9999, 10000, 10001, 20000, math.MaxInt - 1, math.MaxInt,
}

// steps are the four steps, and how a position moves by one of each.
var steps = []struct {
	name     string
	step     func(int) string
	final    string
	row, col int
}{
	{"Up", Up, "A", -1, 0}, {"Down", Down, "B", 1, 0}, {"Right", Right, "C", 0, 1}, {"Left", Left, "D", 0, -1},
}

func newTerm(t *testing.T, w, h int) *term.Term {
	t.Helper()
	x, e := term.New(w, h)
	if e != api.OK {
		t.Fatalf("a terminal of %d columns and %d rows: %d", w, h, e)
	}
	return x
}

// put moves the cursor by a sequence that this package has not.
func put(x *term.Term, row, col int) {
	x.Write([]byte(fmt.Sprintf("\x1b[%d;%dH", row+1, col+1)))
}

// standsAt reports whether the cursor stands at a position, and nothing waits.
func standsAt(x *term.Term, row, col int) bool {
	r, c := x.Cursor()
	return r == row && c == col && !x.Pending() && x.Waits() == 0
}

// P6.1

func TestSteps(t *testing.T) {
	for _, s := range steps {
		for n := -300; n <= 21000; n++ {
			want := ""
			if n > 0 {
				want = fmt.Sprintf("\x1b[%d%s", min(n, 9999), s.final)
			}
			if got := s.step(n); got != want {
				t.Fatalf("%s(%d) = %q, not %q", s.name, n, got, want)
			}
		}
		for n, want := range map[int]string{
			math.MinInt: "", -1: "", 0: "", 1: "\x1b[1" + s.final, 9998: "\x1b[9998" + s.final,
			9999: "\x1b[9999" + s.final, 10000: "\x1b[9999" + s.final, math.MaxInt: "\x1b[9999" + s.final,
		} {
			if got := s.step(n); got != want {
				t.Errorf("%s(%d) = %q, not %q", s.name, n, got, want)
			}
		}
	}
}

func TestStepsMove(t *testing.T) {
	x := newTerm(t, 500, 500)
	for _, s := range steps {
		for n := -3; n <= 240; n++ {
			put(x, 250, 250)
			x.Write([]byte(s.step(n)))
			if by := max(n, 0); !standsAt(x, 250+by*s.row, 250+by*s.col) {
				row, col := x.Cursor()
				t.Fatalf("%s(%d) moves from 250, 250 to %d, %d", s.name, n, row, col)
			}
		}
	}
}

func TestColumn(t *testing.T) {
	for col := -300; col <= 21000; col++ {
		want := ""
		if col >= 0 {
			want = fmt.Sprintf("\x1b[%dG", min(col+1, 9999))
		}
		if got := Column(col); got != want {
			t.Fatalf("Column(%d) = %q, not %q", col, got, want)
		}
	}
	for col, want := range map[int]string{
		math.MinInt: "", -1: "", 0: "\x1b[1G", 8: "\x1b[9G", 9: "\x1b[10G", 9997: "\x1b[9998G", 9998: "\x1b[9999G",
		9999: "\x1b[9999G", 10000: "\x1b[9999G", math.MaxInt - 1: "\x1b[9999G", math.MaxInt: "\x1b[9999G",
	} {
		if got := Column(col); got != want {
			t.Errorf("Column(%d) = %q, not %q", col, got, want)
		}
	}
	x := newTerm(t, 500, 3)
	for col := range 500 {
		put(x, 1, 499-col)
		x.Write([]byte(Column(col)))
		if !standsAt(x, 1, col) {
			row, at := x.Cursor()
			t.Fatalf("Column(%d) moves to %d, %d", col, row, at)
		}
	}
}

// P6.2

func TestMove(t *testing.T) {
	for _, c := range []struct {
		row, col, toRow, toCol int
		want                   string
	}{
		{2, 5, 0, 0, "\x1b[2A\r"},
		{0, 0, 0, 0, ""},
		{3, 4, 3, 4, ""},
		{3, 4, 4, 4, "\x1b[1B"},
		{4, 4, 3, 4, "\x1b[1A"},
		{3, 0, 4, 0, "\x1b[1B"},
		{3, 4, 3, 5, "\x1b[1C"},
		{3, 5, 3, 4, "\x1b[1D"},
		{3, 1, 3, 0, "\r"},
		{3, 4, 9, 0, "\x1b[6B\r"},
		{0, 0, 20, 20, "\x1b[20B\x1b[20C"},
		{20, 20, 0, 8, "\x1b[20A\x1b[9G"},
		{0, 9, 0, 8, "\x1b[1D"},
		{0, 18, 0, 9, "\x1b[9D"},
		{0, 19, 0, 9, "\x1b[10D"},
		{0, 18, 0, 8, "\x1b[9G"},
		{0, 17, 0, 8, "\x1b[9D"},
		{0, 0, 0, 99, "\x1b[99C"},
		{0, 9, 0, 99, "\x1b[90C"},
		{0, 110, 0, 99, "\x1b[11D"},
		{0, 199, 0, 99, "\x1b[100D"},
		{0, 198, 0, 98, "\x1b[99G"},
		{0, 107, 0, 8, "\x1b[9G"},
		{5, 9998, 5, 1, "\x1b[2G"},
		{0, 0, 9998, 9998, "\x1b[9998B\x1b[9998C"},
		{9998, 9998, 0, 0, "\x1b[9998A\r"},
		{0, 0, 9999, 9999, "\x1b[9998B\x1b[9998C"},
		{0, 0, math.MaxInt, math.MaxInt, "\x1b[9998B\x1b[9998C"},
		{math.MinInt, math.MinInt, math.MaxInt, math.MaxInt, "\x1b[9998B\x1b[9998C"},
		{math.MaxInt, math.MaxInt, math.MinInt, math.MinInt, "\x1b[9998A\r"},
		{9998, 9998, 9999, 20000, ""},
		{math.MaxInt, math.MaxInt, 9998, 9998, ""},
		{-1, -5, 0, 0, ""},
		{0, 0, math.MinInt, -1, ""},
		{-7, 3, 1, -7, "\x1b[1B\r"},
		{1, -7, -7, 3, "\x1b[1A\x1b[3C"},
	} {
		if got := Move(c.row, c.col, c.toRow, c.toCol); got != c.want {
			t.Errorf("Move(%d, %d, %d, %d) = %q, not %q", c.row, c.col, c.toRow, c.toCol, got, c.want)
		}
	}
}

// moved is Move by the words of the chapter, read a second time.
func moved(row, col, toRow, toCol int) string {
	for _, n := range []*int{&row, &col, &toRow, &toCol} {
		if *n < 0 {
			*n = 0
		} else if *n > 9998 {
			*n = 9998
		}
	}
	s := ""
	if row > toRow {
		s += fmt.Sprintf("\x1b[%dA", row-toRow)
	} else if row < toRow {
		s += fmt.Sprintf("\x1b[%dB", toRow-row)
	}
	if col == toCol {
		return s
	}
	if toCol == 0 {
		return s + "\x0d"
	}
	by := fmt.Sprintf("\x1b[%dC", toCol-col)
	if col > toCol {
		by = fmt.Sprintf("\x1b[%dD", col-toCol)
	}
	if to := fmt.Sprintf("\x1b[%dG", toCol+1); len(to) < len(by) {
		by = to
	}
	return s + by
}

func TestMoveAsDefined(t *testing.T) {
	hold := func(row, col, toRow, toCol int) {
		t.Helper()
		if got, want := Move(row, col, toRow, toCol), moved(row, col, toRow, toCol); got != want {
			t.Fatalf("Move(%d, %d, %d, %d) = %q, not %q", row, col, toRow, toCol, got, want)
		}
	}
	for _, a := range edges {
		for _, b := range edges {
			for _, c := range edges {
				hold(a, b, c, 3)
				hold(7, a, b, c)
				hold(a, 12, b, c)
				hold(a, b, 0, c)
			}
			hold(a, b, a, b)
			hold(a, b, b, a)
		}
	}
	for col := -2; col < 300; col++ {
		for toCol := -2; toCol < 300; toCol++ {
			hold(1, col, 1, toCol)
			hold(col, toCol, toCol, col)
		}
	}
}

func TestMoveMoves(t *testing.T) {
	x := newTerm(t, 500, 4)
	for col := range 500 {
		for toCol := range 500 {
			row, toRow := col%4, (col/4+toCol)%4
			put(x, row, col)
			x.Write([]byte(Move(row, col, toRow, toCol)))
			if !standsAt(x, toRow, toCol) {
				atRow, atCol := x.Cursor()
				t.Fatalf("Move(%d, %d, %d, %d) moves to %d, %d", row, col, toRow, toCol, atRow, atCol)
			}
		}
	}
	if x.Scrolled() != 0 || x.Bells() != 0 {
		t.Errorf("%d rows scrolled, %d bells", x.Scrolled(), x.Bells())
	}
}

// P6.3

func TestFixed(t *testing.T) {
	for _, c := range []struct{ name, got, want string }{
		{"EraseLine", EraseLine(), "\x1b[K"},
		{"EraseBelow", EraseBelow(), "\x1b[J"},
		{"Seen, on", Seen(true), "\x1b[?25h"},
		{"Seen, off", Seen(false), "\x1b[?25l"},
		{"Paste, on", Paste(true), "\x1b[?2004h"},
		{"Paste, off", Paste(false), "\x1b[?2004l"},
		{"Bell", Bell(), "\x07"},
	} {
		if c.got != c.want {
			t.Errorf("%s: %q, not %q", c.name, c.got, c.want)
		}
	}
}

func TestFixedDo(t *testing.T) {
	x := newTerm(t, 3, 3)
	x.Write([]byte("abcdefghi"))
	put(x, 1, 1)
	x.Write([]byte(EraseLine()))
	if a, b, c := x.Text(0), x.Text(1), x.Text(2); a != "abc" || b != "d" || c != "ghi" {
		t.Errorf("EraseLine leaves %q, %q, %q", a, b, c)
	}
	put(x, 0, 2)
	x.Write([]byte(EraseBelow()))
	if a, b, c := x.Text(0), x.Text(1), x.Text(2); a != "ab" || b != "" || c != "" {
		t.Errorf("EraseBelow leaves %q, %q, %q", a, b, c)
	}
	for _, on := range []bool{false, true, true, false, false} {
		x.Write([]byte(Seen(on) + Paste(!on)))
		if x.Seen() != on || x.Marked() == on {
			t.Errorf("Seen(%v) and Paste(%v): %v, %v", on, !on, x.Seen(), x.Marked())
		}
	}
	x.Write([]byte(Bell()))
	if x.Bells() != 1 || !standsAt(x, 0, 2) {
		t.Errorf("%d bells, %d bytes wait", x.Bells(), x.Waits())
	}
}

// P6.4

// styles returns all valid styles.
func styles() []api.Style {
	var all []api.Style
	for bits := range 8 {
		for fg := range 9 {
			for bg := range 9 {
				all = append(all, api.Style{Bold: bits&1 != 0, Under: bits&2 != 0, Inverse: bits&4 != 0, Fg: fg, Bg: bg})
			}
		}
	}
	return all
}

// noColors are numbers that no color has.
var noColors = []int{math.MinInt, -30, -1, 9, 10, 38, 255, math.MaxInt}

// wrongStyles returns styles that are not valid.
func wrongStyles() []api.Style {
	var all []api.Style
	for _, n := range noColors {
		for bits := range 8 {
			y := api.Style{Bold: bits&1 != 0, Under: bits&2 != 0, Inverse: bits&4 != 0}
			for _, c := range []struct{ fg, bg int }{{n, 0}, {n, 8}, {n, n}, {0, n}, {8, n}, {n, -n}} {
				y.Fg, y.Bg = c.fg, c.bg
				all = append(all, y)
			}
		}
	}
	return all
}

func TestCheck(t *testing.T) {
	for _, y := range styles() {
		if e := Check(y); e != api.OK {
			t.Errorf("Check(%v) = %d", y, e)
		}
	}
	for _, y := range wrongStyles() {
		if e := Check(y); e != api.ErrEsc {
			t.Errorf("Check(%v) = %d", y, e)
		}
	}
}

func TestStyle(t *testing.T) {
	usual := api.Style{}
	all := api.Style{Bold: true, Under: true, Inverse: true, Fg: 8, Bg: 1}
	for _, c := range []struct {
		name     string
		from, to api.Style
		want     string
	}{
		{"the example", usual, api.Style{Bold: true, Fg: 2}, "\x1b[1;31m"},
		{"nothing to change", usual, usual, ""},
		{"all to all", all, all, ""},
		{"all at once", usual, all, "\x1b[1;4;7;37;40m"},
		{"all off", all, usual, "\x1b[0m"},
		{"bold", usual, api.Style{Bold: true}, "\x1b[1m"},
		{"underlined", usual, api.Style{Under: true}, "\x1b[4m"},
		{"inverse", usual, api.Style{Inverse: true}, "\x1b[7m"},
		{"bold off", api.Style{Bold: true}, usual, "\x1b[0m"},
		{"underlined off", api.Style{Under: true}, usual, "\x1b[0m"},
		{"inverse off", api.Style{Inverse: true}, usual, "\x1b[0m"},
		{"one for another", api.Style{Bold: true}, api.Style{Inverse: true}, "\x1b[0;7m"},
		{"one of two stays", api.Style{Bold: true, Under: true}, api.Style{Under: true}, "\x1b[0;4m"},
		{"a second one", api.Style{Under: true}, api.Style{Bold: true, Under: true}, "\x1b[1m"},
		{"equal colors go with a 0", api.Style{Bold: true, Fg: 3, Bg: 4}, api.Style{Fg: 3, Bg: 4}, "\x1b[0;32;43m"},
		{"usual colors need nothing behind a 0", api.Style{Inverse: true, Fg: 3, Bg: 4}, api.Style{Under: true}, "\x1b[0;4m"},
		{"the first foreground", usual, api.Style{Fg: 1}, "\x1b[30m"},
		{"the last foreground", usual, api.Style{Fg: 8}, "\x1b[37m"},
		{"the usual foreground", api.Style{Fg: 8}, usual, "\x1b[39m"},
		{"the first background", usual, api.Style{Bg: 1}, "\x1b[40m"},
		{"the last background", usual, api.Style{Bg: 8}, "\x1b[47m"},
		{"the usual background", api.Style{Bg: 8}, usual, "\x1b[49m"},
		{"both usual colors", api.Style{Bold: true, Fg: 5, Bg: 6}, api.Style{Bold: true}, "\x1b[39;49m"},
		{"bold stays", api.Style{Bold: true, Fg: 5}, api.Style{Bold: true, Fg: 6}, "\x1b[35m"},
	} {
		if got := Style(c.from, c.to); got != c.want {
			t.Errorf("%s: Style(%v, %v) = %q, not %q", c.name, c.from, c.to, got, c.want)
		}
	}
}

// changed is Style of valid styles by the words of the chapter, read a second
// time.
func changed(from, to api.Style) string {
	if from == to {
		return ""
	}
	have := [3]bool{from.Bold, from.Under, from.Inverse}
	want := [3]bool{to.Bold, to.Under, to.Inverse}
	fg, bg := from.Fg, from.Bg
	numbers := ""
	for i := range have {
		if have[i] && !want[i] {
			numbers, have, fg, bg = ";0", [3]bool{}, 0, 0
			break
		}
	}
	for i, number := range []string{";1", ";4", ";7"} {
		if want[i] && !have[i] {
			numbers += number
		}
	}
	if fg != to.Fg {
		numbers += [9]string{";39", ";30", ";31", ";32", ";33", ";34", ";35", ";36", ";37"}[to.Fg]
	}
	if bg != to.Bg {
		numbers += [9]string{";49", ";40", ";41", ";42", ";43", ";44", ";45", ";46", ";47"}[to.Bg]
	}
	return "\x1b[" + numbers[1:] + "m"
}

func TestStyleAsDefined(t *testing.T) {
	all := styles()
	for _, from := range all {
		for _, to := range all {
			if got, want := Style(from, to), changed(from, to); got != want {
				t.Fatalf("Style(%v, %v) = %q, not %q", from, to, got, want)
			}
		}
	}
}

func TestStyleRefuses(t *testing.T) {
	for _, wrong := range wrongStyles() {
		for _, y := range []api.Style{{}, {Bold: true}, {Under: true, Inverse: true, Fg: 8, Bg: 8}, {Fg: -1}, {Bg: 9}, wrong} {
			if got := Style(wrong, y); got != "" {
				t.Errorf("Style(%v, %v) = %q", wrong, y, got)
			}
			if got := Style(y, wrong); got != "" {
				t.Errorf("Style(%v, %v) = %q", y, wrong, got)
			}
		}
	}
}

// P6.5

func TestStrip(t *testing.T) {
	for _, c := range []struct{ name, s, want string }{
		{"nothing", "", ""},
		{"text", "Name: hi", "Name: hi"},
		{"a sequence", "\x1b[1;31mred", "red"},
		{"amid text", "a\x1b[Kb\x1b[?25lc", "abc"},
		{"one behind another", "a\x1b[2A\x1b[3Cb", "ab"},
		{"without an end", "a\x1b[12", "a"},
		{"without anything behind it", "a\x1b[", "a"},
		{"to the end, line feeds too", "a\x1b[1\n2\r\n3 ", "a"},
		{"an end in another line", "a\x1b[1\n2mb", "ab"},
		{"the first final byte", "a\x1b[@b", "ab"},
		{"the last final byte", "a\x1b[~b", "ab"},
		{"ahead of the first final byte", "a\x1b[?b", "a"},
		{"behind the last final byte", "a\x1b[\x7fbc", "ac"},
		{"a bracket as final byte", "a\x1b[[b", "ab"},
		{"another one's bracket as final byte", "a\x1b[1\x1b[2Kb", "a2Kb"},
		{"bytes of other runes ahead of the end", "a\x1b[\u6f22\u00e9\xff\x80mb", "ab"},
		{"ESC alone", "a\x1bb", "ab"},
		{"ESC at the end", "ab\x1b", "ab"},
		{"ESC twice", "a\x1b\x1b[Kb", "ab"},
		{"ESC and another byte", "a\x1b7b\x1bOc", "a7bOc"},
		{"a bracket alone", "a[1mb", "a[1mb"},
		{"a bracket apart from ESC", "a\x1b\n[1mb", "a[1mb"},
		{"controls", "\x00a\x07b\tc\r\nd\x1f", "abcd"},
		{"a space and what is behind it", " !~\x7f\x80\xff", " !~\x7f\x80\xff"},
		{"other runes", "\u6f22e\u0301\u009b1m\U0001f600", "\u6f22e\u0301\u009b1m\U0001f600"},
		{"broken runes", "\xe6\xbc\x1b[m\xa2\xff", "\xe6\xbc\xa2\xff"},
		{"nothing new is stripped", "\x1b\x1b[m[Ka", "[Ka"},
	} {
		if got := Strip(c.s); got != c.want {
			t.Errorf("%s: Strip(%q) = %q, not %q", c.name, c.s, got, c.want)
		}
	}
}

func TestStripBytes(t *testing.T) {
	for n := range 256 {
		b := string([]byte{byte(n)})
		want := b
		if n < 32 {
			want = ""
		}
		if got := Strip("a" + b + "c"); got != "a"+want+"c" {
			t.Errorf("byte %d: %q", n, got)
		}
		want = ""
		if n >= 64 && n <= 126 {
			want = "12"
		}
		if got := Strip("\x1b[;" + b + "12"); got != want {
			t.Errorf("byte %d in a sequence: %q, not %q", n, got, want)
		}
	}
}

// stripped is what Strip removes.
var stripped = regexp.MustCompile(`\x1b\[[^@-~]*(?:[@-~]|\z)|[\x00-\x1f]`)

func TestStripAsDefined(t *testing.T) {
	alphabet := []byte{27, '[', 'm', '@', '?', '1', 31, 32, 127, 0xff}
	text := make([]byte, 0, 6)
	var descend func(int)
	descend = func(deep int) {
		s := string(text)
		if got, want := Strip(s), stripped.ReplaceAllString(s, ""); got != want {
			t.Fatalf("Strip(%q) = %q, not %q", s, got, want)
		}
		if deep == 0 {
			return
		}
		for _, b := range alphabet {
			text = append(text, b)
			descend(deep - 1)
			text = text[:len(text)-1]
		}
	}
	descend(5)
	for _, s := range []string{strings.Repeat("a\x1b[1;2mb\n", 10000), "\x1b[" + strings.Repeat("1", 100000), strings.Repeat("\x1b", 100000) + "[Ka"} {
		if got, want := Strip(s), stripped.ReplaceAllString(s, ""); got != want {
			t.Errorf("%d bytes are stripped to %d, not %d", len(s), len(got), len(want))
		}
	}
}

// P6.6

// worn is a sequence that gives any terminal the style y, written apart from
// this package.
func worn(y api.Style) string {
	s := "\x1b[0"
	for number, on := range map[string]bool{";1": y.Bold, ";4": y.Under, ";7": y.Inverse} {
		if on {
			s += number
		}
	}
	if y.Fg > 0 {
		s += fmt.Sprintf(";%d", 29+y.Fg)
	}
	if y.Bg > 0 {
		s += fmt.Sprintf(";%d", 39+y.Bg)
	}
	return s + "m"
}

func TestStyleChange(t *testing.T) {
	all := styles()
	x := newTerm(t, 2, 1)
	put(x, 0, 1)
	for _, from := range all {
		begin := []byte(worn(from))
		for _, to := range all {
			x.Write(begin)
			if x.Style() != from {
				t.Fatalf("%q gives the style %v", begin, x.Style())
			}
			x.Write([]byte(Style(from, to)))
			if x.Style() != to || !standsAt(x, 0, 1) {
				t.Fatalf("Style(%v, %v): the style is %v, %d bytes wait", from, to, x.Style(), x.Waits())
			}
		}
	}
}

// P6.7

// returned calls f with all that the other functions return, for many
// arguments.
func returned(f func(name, s string)) {
	for _, s := range []string{EraseLine(), EraseBelow(), Seen(true), Seen(false), Paste(true), Paste(false), Bell()} {
		f("without a number", s)
	}
	for _, n := range edges {
		for _, s := range steps {
			f(s.name, s.step(n))
		}
		f("Column", Column(n))
		for _, m := range edges {
			f("Move", Move(n, m, 3, 12))
			f("Move", Move(3, 12, n, m))
			f("Move", Move(3, n, 9, m))
		}
	}
	all := append(styles(), wrongStyles()...)
	for i, from := range all {
		for j := i % 5; j < len(all); j += 5 {
			f("Style", Style(from, all[j]))
		}
	}
}

func TestInvisible(t *testing.T) {
	var together strings.Builder
	returned(func(name, s string) {
		if got := Strip(s); got != "" {
			t.Fatalf("%s: Strip(%q) = %q", name, s, got)
		}
		if got := Strip("1;" + s + "2m"); got != "1;2m" {
			t.Fatalf("%s: Strip of %q amid text = %q", name, s, got)
		}
		together.WriteString(s)
	})
	if got := Strip(together.String()); together.Len() == 0 || got != "" {
		t.Errorf("of %d bytes %q is left", together.Len(), got)
	}
}
