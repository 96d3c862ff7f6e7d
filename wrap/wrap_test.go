package wrap

import (
	"math"
	"slices"
	"strconv"
	"strings"
	"testing"

	"placard/api"
)

const (
	mark   = "\u0301"
	marked = "e" + mark + mark
	dots   = "…"
	// They look like spaces, of one column and of two, but are none.
	nbsp  = "\u00a0"
	broad = "\u3000"
)

// TestCut pins P17.1: what fits.
func TestCut(t *testing.T) {
	for _, x := range []struct {
		s    string
		w    int
		want string
	}{
		{"", 0, ""},
		{"", 5, ""},
		{"abcdef", 4, "abcd"},
		{"abcdef", 6, "abcdef"},
		{"abcdef", 7, "abcdef"},
		{"abcdef", 1, "a"},
		{"abcdef", 0, ""},
		{"abcdef", -1, ""},
		{"abcdef", math.MinInt, ""},
		{"abcdef", math.MaxInt, "abcdef"},
		{strings.Repeat("a", 600), 550, strings.Repeat("a", 550)},
		// A wide cluster that has half the room has none, and what is behind it neither.
		{"中中", 4, "中中"},
		{"中中", 3, "中"},
		{"中中", 1, ""},
		{"a中b", 2, "a"},
		{"中b", 1, ""},
		// Marks stay with their clusters.
		{marked + marked, 1, marked},
		{marked + "中" + mark, 3, marked + "中" + mark},
		// Spaces are clusters.
		{"  a ", 2, "  "},
		{"  a ", 9, "  a "},
		// The text is Flat of it.
		{"a\tb\nc\rd", 9, "a b c d"},
		{"a\x07\x1bb", 1, "a"},
		{"a\x07\x1bb", 2, "ab"},
		{mark + "a", 1, "a"},
		{"\xffa", 2, "\ufffda"},
		{"\xe4\xb8", 1, "\ufffd"},
		{"a" + strings.Repeat(mark, 40), 1, "a" + strings.Repeat(mark, 31)},
	} {
		if got := Cut(x.s, x.w); got != x.want {
			t.Errorf("Cut(%q, %d) = %q and not %q", x.s, x.w, got, x.want)
		}
	}
}

// TestPad pins P17.1: what fits, and spaces behind it.
func TestPad(t *testing.T) {
	for _, x := range []struct {
		s    string
		w    int
		want string
	}{
		{"", 0, ""},
		{"", 3, "   "},
		{"ab", 0, ""},
		{"ab", 1, "a"},
		{"ab", 2, "ab"},
		{"ab", 5, "ab   "},
		{"ab", -1, ""},
		{"ab", math.MinInt, ""},
		{"中中", 3, "中 "},
		{"中中", 1, " "},
		{"中中", 6, "中中  "},
		{"a中", 2, "a "},
		{marked, 3, marked + "  "},
		{"\ta\x07", 4, " a  "},
		{mark, 2, "  "},
		{"\xff", 2, "\ufffd "},
		// There is no limit of columns.
		{"ab", 501, "ab" + strings.Repeat(" ", 499)},
		{"ab", 1 << 20, "ab" + strings.Repeat(" ", 1<<20-2)},
	} {
		if got := Pad(x.s, x.w); got != x.want {
			t.Errorf("Pad(%q, %d) = %q and not %q", x.s, x.w, got, x.want)
		}
	}
}

// TestPadReturns pins general rule 1 where nothing is promised of the result.
func TestPadReturns(t *testing.T) {
	for _, w := range []int{math.MaxInt, math.MaxInt - 1, 1 << 62, 1 << 40} {
		if got := Pad("ab", w); !strings.HasPrefix(got, "ab") {
			t.Errorf("Pad to %d = %q", w, got)
		}
	}
}

// TestDots pins P17.1: all, or a beginning and an ellipsis.
func TestDots(t *testing.T) {
	for _, x := range []struct {
		s    string
		w    int
		want string
	}{
		// Example 1 of the chapter.
		{"abcdef", 4, "abc" + string(rune(8230))},
		{"abcdef", 6, "abcdef"},
		{"abcdef", 7, "abcdef"},
		{"abcdef", 5, "abcd" + dots},
		{"abcdef", 1, dots},
		{"a", 1, "a"},
		{"", 1, ""},
		{"", 0, ""},
		{"a", 0, ""},
		{"a", -1, ""},
		{"", -1, ""},
		{"a", math.MinInt, ""},
		{"abc", math.MaxInt, "abc"},
		// A wide cluster that does not fit leaves a column.
		{"中中", 4, "中中"},
		{"中中", 3, "中" + dots},
		{"中中", 2, dots},
		{"中中", 1, dots},
		{"a中中", 4, "a中" + dots},
		{"a中中", 3, "a" + dots},
		{marked + "ab", 2, marked + dots},
		{"  ab", 3, "  " + dots},
		// What Flat removes takes no columns, but a space in a tab's place takes one.
		{"ab\x07", 2, "ab"},
		{mark + "ab", 2, "ab"},
		{"ab\n", 2, "a" + dots},
		{"ab\n", 3, "ab "},
		{"\xff\xff\xff", 2, "\ufffd" + dots},
		{strings.Repeat("a", 600), 550, strings.Repeat("a", 549) + dots},
	} {
		if got := Dots(x.s, x.w); got != x.want {
			t.Errorf("Dots(%q, %d) = %q and not %q", x.s, x.w, got, x.want)
		}
	}
}

// TestAlign pins P17.2: what fits, and spaces on its sides.
func TestAlign(t *testing.T) {
	if Left != 0 || Right != 1 || Middle != 2 {
		t.Error(Left, Right, Middle)
	}
	for _, x := range []struct {
		s                   string
		w                   int
		left, right, middle string
	}{
		{"", 0, "", "", ""},
		{"", 3, "   ", "   ", "   "},
		{"abc", 0, "", "", ""},
		{"abc", 2, "ab", "ab", "ab"},
		{"abc", 3, "abc", "abc", "abc"},
		{"abc", 4, "abc ", " abc", "abc "},
		{"abc", 5, "abc  ", "  abc", " abc "},
		{"abc", 6, "abc   ", "   abc", " abc  "},
		{"abc", 7, "abc    ", "    abc", "  abc  "},
		{"中中", 3, "中 ", " 中", "中 "},
		{"中中", 1, " ", " ", " "},
		{"中中", 7, "中中   ", "   中中", " 中中  "},
		{marked, 3, marked + "  ", "  " + marked, " " + marked + " "},
		{" a ", 5, " a   ", "   a ", "  a  "},
		{"\ta\x07", 5, " a   ", "    a", "  a  "},
		{mark, 2, "  ", "  ", "  "},
		{"a", 500, "a" + strings.Repeat(" ", 499), strings.Repeat(" ", 499) + "a", strings.Repeat(" ", 249) + "a" + strings.Repeat(" ", 250)},
	} {
		for how, want := range []string{x.left, x.right, x.middle} {
			if got, e := Align(x.s, x.w, how); got != want || e != api.OK {
				t.Errorf("Align(%q, %d, %d) = %q, %d and not %q", x.s, x.w, how, got, e, want)
			}
		}
	}
}

// TestErrors pins P17.2: the wrong arguments of Align and Fill, the first one first.
func TestErrors(t *testing.T) {
	for _, x := range []struct {
		w, how int
		e      api.Errno
	}{
		{-1, Left, api.ErrWrap},
		{501, Left, api.ErrWrap},
		{math.MinInt, Middle, api.ErrWrap},
		{math.MaxInt, Right, api.ErrWrap},
		{-1, 3, api.ErrWrap},
		{501, -1, api.ErrWrap},
		{0, -1, api.ErrArg},
		{0, 3, api.ErrArg},
		{500, 3, api.ErrArg},
		{5, math.MinInt, api.ErrArg},
		{5, math.MaxInt, api.ErrArg},
	} {
		for _, s := range []string{"", "ab", "\xff"} {
			if got, e := Align(s, x.w, x.how); got != "" || e != x.e {
				t.Errorf("Align(%q, %d, %d) = %q, %d and not %d", s, x.w, x.how, got, e, x.e)
			}
			if got, e := Fill(s, x.w); x.e == api.ErrWrap && (got != "" || e != x.e) {
				t.Errorf("Fill(%q, %d) = %q, %d and not %d", s, x.w, got, e, x.e)
			}
		}
	}
	if api.ErrWrap != 170 || api.ErrArg != 1 {
		t.Error(api.ErrWrap, api.ErrArg)
	}
}

// TestFill pins P17.2: a text again and again.
func TestFill(t *testing.T) {
	for _, x := range []struct {
		s    string
		w    int
		want string
	}{
		{"-=", 0, ""},
		{"-=", 1, " "},
		{"-=", 2, "-="},
		{"-=", 5, "-=-= "},
		{"-=", 6, "-=-=-="},
		{"-", 500, strings.Repeat("-", 500)},
		{"abc", 500, strings.Repeat("abc", 166) + "  "},
		{"", 3, "   "},
		{"", 0, ""},
		{"", 500, strings.Repeat(" ", 500)},
		// Texts that have no columns.
		{mark + "\x07", 3, "   "},
		// A text that does not fit is not cut.
		{"abcd", 3, "   "},
		{strings.Repeat("a", 501), 500, strings.Repeat(" ", 500)},
		{"中", 5, "中中 "},
		{"中", 1, " "},
		{"a中", 7, "a中a中 "},
		{marked, 3, marked + marked + marked},
		{"\t-", 5, " - - "},
		{mark + "-\x1b", 2, "--"},
		{"\xff", 2, "\ufffd\ufffd"},
	} {
		if got, e := Fill(x.s, x.w); got != x.want || e != api.OK {
			t.Errorf("Fill(%q, %d) = %q, %d and not %q", x.s, x.w, got, e, x.want)
		}
	}
}

// TestWrap pins P17.3: which words stand on which lines.
func TestWrap(t *testing.T) {
	for _, x := range []struct {
		s    string
		w    int
		want []string
	}{
		// Example 1 of the chapter.
		{"to be or not", 5, []string{"to be", "or", "not"}},
		{"to be or not", 4, []string{"to", "be", "or", "not"}},
		{"to be or not", 6, []string{"to be", "or not"}},
		{"to be or not", 8, []string{"to be or", "not"}},
		{"to be or not", 11, []string{"to be or", "not"}},
		{"to be or not", 12, []string{"to be or not"}},
		{"to be or not", math.MaxInt, []string{"to be or not"}},
		// There are no words, or there is no room.
		{"", 5, nil},
		{"   ", 5, nil},
		{" \t\n\r\x07", 5, nil},
		{mark, 5, nil},
		{" " + mark, 5, nil},
		{"a", 0, nil},
		{"a", -1, nil},
		{"a b", math.MinInt, nil},
		// Spaces at the ends are on no line, and between words there is one.
		{"  a   b  ", 9, []string{"a b"}},
		{"\ta\nb\r\nc", 9, []string{"a b c"}},
		{"a    b", 3, []string{"a b"}},
		{"a  b", 2, []string{"a", "b"}},
		// A space with marks is a space, and its marks go with it.
		{"a " + mark + "b", 9, []string{"a b"}},
		{" " + mark + "a " + mark, 9, []string{"a"}},
		{"a " + strings.Repeat(mark, 40) + "b", 9, []string{"a b"}},
		{"a " + mark + " " + mark + "b" + mark, 9, []string{"a b" + mark}},
		// Other blank runes are letters.
		{"a" + nbsp + "b c", 3, []string{"a" + nbsp + "b", "c"}},
		{"a" + nbsp + "b", 2, []string{"a" + nbsp, "b"}},
		{broad + " a", 2, []string{broad, "a"}},
		// What Flat removes parts no words.
		{"a\x07b c", 4, []string{"ab c"}},
		{"\xff \xff", 3, []string{"\ufffd \ufffd"}},
		{"a " + marked + " " + marked + "中", 5, []string{"a " + marked, marked + "中"}},
		// A long word begins on a new line, and others follow its last piece.
		{"abcdefg", 3, []string{"abc", "def", "g"}},
		{"abcdef", 3, []string{"abc", "def"}},
		{"abcdef g", 3, []string{"abc", "def", "g"}},
		{"abcdefg h", 3, []string{"abc", "def", "g h"}},
		{"abcdefg hi", 3, []string{"abc", "def", "g", "hi"}},
		{"a bcdef", 4, []string{"a", "bcde", "f"}},
		{"a bcde", 4, []string{"a", "bcde"}},
		{"a bcdefg hi j", 5, []string{"a", "bcdef", "g hi", "j"}},
		{"abcdefgh ijklmnop", 5, []string{"abcde", "fgh", "ijklm", "nop"}},
		{"abcdef ghijkl m", 5, []string{"abcde", "f", "ghijk", "l m"}},
		{"abc", 1, []string{"a", "b", "c"}},
		{"ab c", 1, []string{"a", "b", "c"}},
		// Pieces are cut ahead of what is too wide for them.
		{"中文字 a", 4, []string{"中文", "字 a"}},
		{"中文字 a", 3, []string{"中", "文", "字", "a"}},
		{"a中文字", 4, []string{"a中", "文字"}},
		{"中文", 4, []string{"中文"}},
		{"中文", 3, []string{"中", "文"}},
		// What is wider than the line is left out, and makes no line.
		{"中a", 1, []string{"a"}},
		{"a中b", 1, []string{"a", "b"}},
		{"中", 1, nil},
		{"中 文", 1, nil},
		{"a 中 b", 1, []string{"a", "b"}},
		{"中" + mark + "a" + mark, 1, []string{"a" + mark}},
		{"中", 2, []string{"中"}},
	} {
		if got := Wrap(x.s, x.w); !slices.Equal(got, x.want) {
			t.Errorf("Wrap(%q, %d) = %q and not %q", x.s, x.w, got, x.want)
		}
	}
}

// numbered writes lines with the indices of their texts.
func numbered(w int, texts ...string) []string {
	var l []string
	for i, line := range Lines(w, texts...) {
		l = append(l, strconv.Itoa(i)+line)
	}
	return l
}

// TestLines pins P17.3: the lines of texts.
func TestLines(t *testing.T) {
	for _, x := range []struct {
		w     int
		texts []string
		want  []string
	}{
		{3, nil, nil},
		{3, []string{}, nil},
		{3, []string{""}, nil},
		{3, []string{"ab c"}, []string{"0ab", "0c"}},
		{3, []string{"ab c", "", "d"}, []string{"0ab", "0c", "2d"}},
		// No line has words of two texts.
		{9, []string{"a", "b", "a", "  "}, []string{"0a", "1b", "2a"}},
		{2, []string{" ", "abc", "\xff\n", "中文"}, []string{"1ab", "1c", "2\ufffd", "3中", "3文"}},
		{1, []string{"中", "a"}, []string{"1a"}},
		{0, []string{"a", "b"}, nil},
		{-1, []string{"a", "b"}, nil},
		{math.MinInt, []string{"a", "b"}, nil},
		{math.MaxInt, []string{"a b", "c"}, []string{"0a b", "1c"}},
	} {
		if got := numbered(x.w, x.texts...); !slices.Equal(got, x.want) {
			t.Errorf("Lines(%d, %q) yields %q and not %q", x.w, x.texts, got, x.want)
		}
	}
}

// TestLinesAgain pins P17.3: an iterator may be ranged over more than once.
func TestLinesAgain(t *testing.T) {
	all := Lines(3, "ab c", "d")
	for range 2 {
		n := 0
		for i, line := range all {
			if want := []string{"ab", "c", "d"}[n]; line != want || i != n/2 {
				t.Errorf("line %d = %d, %q", n, i, line)
			}
			n++
		}
		if n != 3 {
			t.Errorf("%d lines", n)
		}
	}
}

// TestLinesStop pins P17.3: nothing is yielded once the loop body has stopped, be it
// behind a line, behind a piece or behind the last line of a text.
func TestLinesStop(t *testing.T) {
	texts := []string{"a bb cc", "", "ddddddd e", "f"}
	all := numbered(3, texts...)
	if len(all) != 7 {
		t.Fatal(all)
	}
	for most := 1; most <= 9; most++ {
		var l []string
		Lines(3, texts...)(func(i int, line string) bool {
			l = append(l, strconv.Itoa(i)+line)
			return len(l) < most
		})
		if !slices.Equal(l, all[:min(most, 7)]) {
			t.Errorf("stopped behind %d lines, it yields %q", most, l)
		}
	}
}

// TestTextsAreTheCallers pins general rule 4: the texts are neither written to nor kept.
func TestTextsAreTheCallers(t *testing.T) {
	texts := []string{"ab c", "\td\x07"}
	all := Lines(3, texts...)
	for range all {
	}
	if !slices.Equal(texts, []string{"ab c", "\td\x07"}) {
		t.Errorf("%q", texts)
	}
	clear(texts)
	n := 0
	for i, line := range all {
		if want := []string{"ab", "c", "d"}[n]; line != want || i != n/2 {
			t.Errorf("line %d = %d, %q", n, i, line)
		}
		n++
	}
	if n != 3 {
		t.Errorf("%d lines of texts that were changed behind the call", n)
	}
}

// TestResultsAreNew pins general rule 4: two results share nothing.
func TestResultsAreNew(t *testing.T) {
	l := Wrap("a b c", 1)
	clear(l)
	if l = Wrap("a b c", 1); !slices.Equal(l, []string{"a", "b", "c"}) {
		t.Errorf("%q", l)
	}
}

// TestLongTexts pins that long texts are gone through once: else this would not end.
func TestLongTexts(t *testing.T) {
	const n = 1 << 20
	word := strings.Repeat("ab", n/2)
	if l := Wrap(word, 1); len(l) != n || l[n-1] != "b" {
		t.Errorf("%d pieces", len(l))
	}
	if l := Wrap(word, n); len(l) != 1 || l[0] != word {
		t.Errorf("%d lines of one word", len(l))
	}
	if l := Wrap(word+" c", n-1); !slices.Equal(l, []string{word[:n-1], "b c"}) {
		t.Errorf("%d lines of two words", len(l))
	}
	text := strings.Repeat("a ", n/2)
	if l := Wrap(text, math.MaxInt); len(l) != 1 || l[0] != text[:n-1] {
		t.Errorf("%d lines of words", len(l))
	}
	if l := Wrap(text, 2); len(l) != n/2 {
		t.Errorf("%d lines of a word each", len(l))
	}
	if s := Dots(word, n-1); s != word[:n-2]+dots {
		t.Errorf("%d bytes", len(s))
	}
	for i, line := range Lines(n/4, text, word) {
		if i > 0 || line != text[:n/4-1] {
			t.Errorf("%d, %d bytes", i, len(line))
		}
		break
	}
}
