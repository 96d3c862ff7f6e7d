package cluster

import (
	"math"
	"slices"
	"strings"
	"testing"
	"unicode/utf8"

	"placard/width"
)

// Marks with encodings of 2, 3 and 4 bytes.
const (
	mark2 = "\u0301"
	mark3 = "\u200d"
	mark4 = "\U000e0100"
)

// cell is a cluster with the columns of its base.
type cell struct {
	text    string
	columns int
}

// cells are the clusters of s, word by word as the chapter defines them; columns
// tells how many columns a rune takes, -1 for a control.
func cells(s string, columns func(rune) int) []cell {
	var l []cell
	for _, r := range []rune(s) {
		code, last := string(r), len(l)-1
		switch w := columns(r); {
		case w > 0:
			l = append(l, cell{code, w})
		case w == 0 && last >= 0 && len(l[last].text)+len(code) <= 64:
			l[last].text += code
		}
	}
	return l
}

// known tells the columns of the runes of the tests' own alphabet, so that these
// tests do not lean on package width.
func known(r rune) int {
	switch r {
	case ' ', 'a', 'b', 'é', 0xfffd:
		return 1
	case '漢', '𠜎':
		return 2
	case 0x301, 0x200d, 0xe0100:
		return 0
	case 0, 7, '\t', '\n', '\r', 27, 127, 0x85:
		return -1
	}
	panic("a rune outside the tests' alphabet")
}

func texts(l []cell) []string {
	var all []string
	for _, c := range l {
		all = append(all, c.text)
	}
	return all
}

func sum(l []cell) int {
	n := 0
	for _, c := range l {
		n += c.columns
	}
	return n
}

// alphabet has one or two of each sort: bases, marks, controls and what is no
// valid UTF-8.
var alphabet = []string{"a", "漢", mark2, mark3, mark4, "\x07", "\n", "\u0085", "\xff", "\xe6\xbc"}

// sequences calls do with each string of at most most pieces.
func sequences(most int, pieces []string, do func(string)) {
	var grow func(s string, n int)
	grow = func(s string, n int) {
		do(s)
		if n == most {
			return
		}
		for _, p := range pieces {
			grow(s+p, n+1)
		}
	}
	grow("", 0)
}

// fullClusters calls do with clusters near the limit, with up to three pieces
// behind them.
func fullClusters(do func(string)) {
	for _, base := range []string{"a", "é", "漢", "𠜎"} {
		for _, mark := range []string{mark2, mark3, mark4} {
			for size := len(base); size <= 68; size += len(mark) {
				if size < 57 {
					continue
				}
				full := base + strings.Repeat(mark, (size-len(base))/len(mark))
				sequences(3, []string{mark2, mark3, mark4, "b", "\x07"}, func(s string) { do(full + s) })
			}
		}
	}
}

// inputs calls do with all the strings that are tried as the chapter defines them.
func inputs(do func(string)) {
	sequences(4, alphabet, do)
	fullClusters(do)
}

// long is a cluster of n bytes: a and marks.
func long(n int) string {
	s := "a"
	if n%2 == 0 {
		s += mark3
	}
	return s + strings.Repeat(mark2, (n-len(s))/2)
}

// P3.1

func TestClean(t *testing.T) {
	for _, x := range []struct{ name, s, want string }{
		{"nothing", "", ""},
		{"letters", "hello", "hello"},
		{"the chapter's example", mark2 + "a" + mark2 + "\x07", "a" + mark2},
		{"marks alone", mark2 + mark3 + mark4, ""},
		{"controls alone", "\x00\x07\n\t\r\x1b\x7f\u0080\u009f", ""},
		{"neighbours of the controls", " ~\u00a0", " ~\u00a0"},
		{"marks ahead of the first base", "\x07" + mark3 + "\x07" + mark2 + "a", "a"},
		{"a mark behind a control behind a base", "a\n" + mark2 + "b", "a" + mark2 + "b"},
		{"ends of lines and tabs", "a\r\nb\tc", "abc"},
		{"wide", "中" + mark2 + "中", "中" + mark2 + "中"},
		{"no UTF-8", "a\xff\xe6\xbcb", "a\ufffd\ufffd\ufffdb"},
		{"a mark on what is no UTF-8", "\xff" + mark2, "\ufffd" + mark2},
		{"a surrogate's bytes", "\xed\xa0\x80", "\ufffd\ufffd\ufffd"},
		{"63 bytes and a mark of 2", long(63) + mark2, long(63)},
		{"62 bytes and a mark of 2", long(62) + mark2, long(62) + mark2},
		{"62 bytes and a mark of 3, then of 2", long(62) + mark3 + mark2, long(62) + mark2},
		{"64 bytes and more marks, then a base", long(64) + mark2 + mark4 + "b" + mark4, long(64) + "b" + mark4},
		{"a thousand marks", "漢" + strings.Repeat(mark2, 1000), "漢" + strings.Repeat(mark2, 30)},
	} {
		if got := Clean(x.s); got != x.want {
			t.Errorf("%s: Clean(%q) = %q, not %q", x.name, x.s, got, x.want)
		}
	}
}

func TestFlat(t *testing.T) {
	for _, x := range []struct{ name, s, want string }{
		{"nothing", "", ""},
		{"letters", "hello", "hello"},
		{"each of the three", "\ta\nb\r", " a b "},
		{"one after the other", "a\r\n\tb", "a   b"},
		{"the numbers beside them", "a\x08b\x0bc\x0cd\x0ee", "abcde"},
		{"other controls", "a\x00\x1b\x7f\u0085b", "ab"},
		{"a space carries a mark", "\n" + mark2 + "a", " " + mark2 + "a"},
		{"a mark ahead of it", mark2 + "\t", " "},
		{"within an encoding", "\xe6\n\xbc\xa2", "\ufffd \ufffd\ufffd"},
		{"within a long cluster", long(64) + "\t" + mark4, long(64) + " " + mark4},
	} {
		if got := Flat(x.s); got != x.want {
			t.Errorf("%s: Flat(%q) = %q, not %q", x.name, x.s, got, x.want)
		}
	}
}

func TestCleanAsDefined(t *testing.T) {
	spaces := strings.NewReplacer("\t", " ", "\n", " ", "\r", " ")
	inputs(func(s string) {
		if got, want := Clean(s), strings.Join(texts(cells(s, known)), ""); got != want {
			t.Fatalf("Clean(%q) = %q, not %q", s, got, want)
		}
		if got, want := Flat(s), strings.Join(texts(cells(spaces.Replace(s), known)), ""); got != want {
			t.Fatalf("Flat(%q) = %q, not %q", s, got, want)
		}
	})
}

// TestEveryRune holds each rune, by itself and behind a base, against package width.
func TestEveryRune(t *testing.T) {
	columns := func(r rune) int {
		if width.Control(r) {
			return -1
		}
		return width.Of(r)
	}
	for r := range rune(utf8.MaxRune + 1) {
		if !utf8.ValidRune(r) {
			continue
		}
		for _, s := range []string{string(r), "a" + string(r)} {
			l := cells(s, columns)
			if got := Cut(s); !slices.Equal(got, texts(l)) {
				t.Fatalf("Cut(%q) = %q", s, got)
			}
			if got, want := Is(s), len(l) == 1 && l[0].text == s; got != want {
				t.Fatalf("Is(%q) = %v", s, got)
			}
			if got := Columns(s); got != sum(l) {
				t.Fatalf("Columns(%q) = %d", s, got)
			}
		}
		if _, ok := Join("a", r); ok != (columns(r) == 0) {
			t.Fatalf("Join of a and %d: %v", r, ok)
		}
	}
}

// P3.2

// located is a cluster with the columns ahead of it.
type located struct {
	ahead int
	text  string
}

func locate(l []cell) []located {
	var all []located
	for i, c := range l {
		all = append(all, located{sum(l[:i]), c.text})
	}
	return all
}

func collect(s string) []located {
	var all []located
	for ahead, c := range All(s) {
		all = append(all, located{ahead, c})
	}
	return all
}

func TestCut(t *testing.T) {
	for _, x := range []struct {
		name, s string
		want    []located
	}{
		{"nothing", "", nil},
		{"nothing but marks and controls", mark2 + "\x07\n" + mark4, nil},
		{"letters", "abc", []located{{0, "a"}, {1, "b"}, {2, "c"}}},
		{"wide ones", "漢a漢b", []located{{0, "漢"}, {2, "a"}, {3, "漢"}, {5, "b"}}},
		{"marks", "a" + mark2 + mark3 + "漢" + mark4 + "b", []located{{0, "a" + mark2 + mark3}, {1, "漢" + mark4}, {3, "b"}}},
		{"a mark behind a control", "a\x07" + mark2 + "b", []located{{0, "a" + mark2}, {1, "b"}}},
		{"equal ones", "aaa", []located{{0, "a"}, {1, "a"}, {2, "a"}}},
		{"no UTF-8", "\xff\xfe", []located{{0, "\ufffd"}, {1, "\ufffd"}}},
		{"too many marks", long(64) + mark2 + "b", []located{{0, long(64)}, {1, "b"}}},
	} {
		var want []string
		for _, l := range x.want {
			want = append(want, l.text)
		}
		if got := Cut(x.s); !slices.Equal(got, want) {
			t.Errorf("%s: Cut(%q) = %q, not %q", x.name, x.s, got, want)
		}
		if got := collect(x.s); !slices.Equal(got, x.want) {
			t.Errorf("%s: All(%q) yields %v, not %v", x.name, x.s, got, x.want)
		}
		if got := Count(x.s); got != len(want) {
			t.Errorf("%s: Count(%q) = %d, not %d", x.name, x.s, got, len(want))
		}
	}
}

func TestIs(t *testing.T) {
	for _, s := range []string{
		"a", " ", "漢", "\ufffd", "a" + mark2, "漢" + mark2 + mark3 + mark4, " " + mark4, long(63), long(64),
	} {
		if !Is(s) {
			t.Errorf("%q is no cluster", s)
		}
	}
	for _, s := range []string{
		"", "ab", "漢漢", "aa", mark2, mark2 + "a", "\x07", "\n", "a\x07", "\x07a", "a\x07" + mark2,
		"\xff", "a\xff", "a\xcc", "\xe6\xbc", "a" + mark2 + "b", long(64) + mark2, long(65), long(66), long(62) + mark4,
	} {
		if Is(s) {
			t.Errorf("%q is a cluster", s)
		}
	}
}

func TestCutAsDefined(t *testing.T) {
	inputs(func(s string) {
		l := cells(s, known)
		if got := Cut(s); !slices.Equal(got, texts(l)) {
			t.Fatalf("Cut(%q) = %q, not %q", s, got, texts(l))
		}
		if got := collect(s); !slices.Equal(got, locate(l)) {
			t.Fatalf("All(%q) yields %v, not %v", s, got, locate(l))
		}
		if got := Count(s); got != len(l) {
			t.Fatalf("Count(%q) = %d, not %d", s, got, len(l))
		}
		if got, want := Is(s), len(l) == 1 && l[0].text == s; got != want {
			t.Fatalf("Is(%q) = %v", s, got)
		}
	})
}

func TestAllStops(t *testing.T) {
	s := "a" + mark2 + "漢\x07b\xffc"
	want := collect(s)
	if len(want) != 5 {
		t.Fatalf("All(%q) yields %v", s, want)
	}
	for most := 1; most <= len(want); most++ {
		var got []located
		All(s)(func(ahead int, c string) bool {
			got = append(got, located{ahead, c})
			return len(got) < most
		})
		if !slices.Equal(got, want[:most]) {
			t.Errorf("All(%q), stopped at %d: %v", s, most, got)
		}
	}
}

func TestAllAgain(t *testing.T) {
	s := "a漢" + mark2 + "b"
	all := All(s)
	for range all {
		break
	}
	for range 2 {
		var got []located
		for ahead, c := range all {
			got = append(got, located{ahead, c})
		}
		if want := []located{{0, "a"}, {1, "漢" + mark2}, {3, "b"}}; !slices.Equal(got, want) {
			t.Errorf("ranged over again: %v", got)
		}
	}
	// One inside the other: neither may change what the other yields.
	var got []located
	for range all {
		for ahead, c := range all {
			got = append(got, located{ahead, c})
		}
	}
	if len(got) != 9 || !slices.Equal(got[3:6], got[:3]) || !slices.Equal(got[6:], got[:3]) {
		t.Errorf("inside itself: %v", got)
	}
}

// P3.3

func TestWidth(t *testing.T) {
	for _, x := range []struct {
		name, s        string
		first, columns int
	}{
		{"nothing", "", 0, 0},
		{"a letter", "a", 1, 1},
		{"a wide one", "漢", 2, 2},
		{"with marks", "漢" + mark2 + mark3, 2, 2},
		{"several", "a漢b漢", 1, 6},
		{"a wide one first", "漢a", 2, 3},
		{"marks and controls ahead", mark2 + "\x07\n漢a", 2, 3},
		{"marks alone", mark2 + mark4, 0, 0},
		{"controls alone", "\x00\x1b\u0085", 0, 0},
		{"no UTF-8", "\xff漢", 1, 3},
		{"more marks than a cluster has", "漢" + strings.Repeat(mark2, 100), 2, 2},
	} {
		if got := Width(x.s); got != x.first {
			t.Errorf("%s: Width(%q) = %d, not %d", x.name, x.s, got, x.first)
		}
		if got := Columns(x.s); got != x.columns {
			t.Errorf("%s: Columns(%q) = %d, not %d", x.name, x.s, got, x.columns)
		}
	}
}

func TestFit(t *testing.T) {
	for _, x := range []struct {
		name, s string
		most    int
		want    string
		columns int
	}{
		{"nothing", "", 5, "", 0},
		{"all, exactly", "abc", 3, "abc", 3},
		{"all, with room", "a漢", 9, "a漢", 3},
		{"all, with the greatest room", "a漢", math.MaxInt, "a漢", 3},
		{"not all", "abc", 2, "ab", 2},
		{"a wide one does not fit in part", "a漢b", 2, "a", 1},
		{"a wide one does, exactly", "a漢b", 3, "a漢", 3},
		{"a wide one alone does not", "漢b", 1, "", 0},
		{"marks go with their base", "a" + mark2 + mark3 + "b" + mark2 + "c", 2, "a" + mark2 + mark3 + "b" + mark2, 2},
		{"what cleaning drops", mark2 + "\x07a\nb\x1b" + mark2 + "c", 2, "ab" + mark2, 2},
		{"no UTF-8", "\xff\xff\xff", 2, "\ufffd\ufffd", 2},
		{"marks beyond the limit", long(64) + mark2 + "b", 1, long(64), 1},
		{"no columns", "a", 0, "", 0},
		{"less than no columns", "abc", -1, "", 0},
		{"the least", "漢", math.MinInt, "", 0},
		{"nothing into less than nothing", "", -1, "", 0},
	} {
		if got, columns := Fit(x.s, x.most); got != x.want || columns != x.columns {
			t.Errorf("%s: Fit(%q, %d) = %q, %d, not %q, %d", x.name, x.s, x.most, got, columns, x.want, x.columns)
		}
	}
}

func TestFitAsDefined(t *testing.T) {
	inputs(func(s string) {
		l := cells(s, known)
		first := 0
		if len(l) > 0 {
			first = l[0].columns
		}
		if got := Width(s); got != first {
			t.Fatalf("Width(%q) = %d, not %d", s, got, first)
		}
		if got := Columns(s); got != sum(l) {
			t.Fatalf("Columns(%q) = %d, not %d", s, got, sum(l))
		}
		for most := range sum(l) + 2 {
			n := len(l)
			for sum(l[:n]) > most {
				n--
			}
			want := strings.Join(texts(l[:n]), "")
			if got, columns := Fit(s, most); got != want || columns != sum(l[:n]) {
				t.Fatalf("Fit(%q, %d) = %q, %d, not %q, %d", s, most, got, columns, want, sum(l[:n]))
			}
		}
	})
}

// P3.4

func TestJoin(t *testing.T) {
	for _, x := range []struct {
		name string
		s    string
		r    rune
		want string
		ok   bool
	}{
		{"a letter", "a", 0x301, "a" + mark2, true},
		{"a wide one", "漢", 0x200d, "漢" + mark3, true},
		{"one with marks", "a" + mark2, 0xe0100, "a" + mark2 + mark4, true},
		{"up to the limit by 2", long(62), 0x301, long(62) + mark2, true},
		{"up to the limit by 3", long(61), 0x200d, long(61) + mark3, true},
		{"up to the limit by 4", long(60), 0xe0100, long(60) + mark4, true},
		{"beyond the limit by 2", long(63), 0x301, long(63), false},
		{"beyond the limit by 3", long(62), 0x200d, long(62), false},
		{"beyond the limit by 4", long(61), 0xe0100, long(61), false},
		{"a full one", long(64), 0x301, long(64), false},
		{"no mark but a base", "a", 'b', "a", false},
		{"no mark but a wide one", "a", '漢', "a", false},
		{"no mark but a control", "a", 7, "a", false},
		{"no mark but the number 0", "a", 0, "a", false},
		{"no rune but a negative number", "a", -1, "a", false},
		{"no rune but a surrogate", "a", 0xd800, "a", false},
		{"no rune but a great number", "a", 0x110000, "a", false},
		{"the least number", "a", math.MinInt32, "a", false},
		{"nothing", "", 0x301, "", false},
		{"two clusters", "ab", 0x301, "ab", false},
		{"a mark", mark2, 0x301, mark2, false},
		{"a control", "\x07", 0x301, "\x07", false},
		{"a cluster and a control", "a\x07", 0x301, "a\x07", false},
		{"no UTF-8", "\xff", 0x301, "\xff", false},
		{"a cut encoding that the mark would follow", "a\xcc", 0x301, "a\xcc", false},
		{"more than a cluster", long(65), 0x301, long(65), false},
	} {
		if got, ok := Join(x.s, x.r); got != x.want || ok != x.ok {
			t.Errorf("%s: Join(%q, %d) = %q, %v, not %q, %v", x.name, x.s, x.r, got, ok, x.want, x.ok)
		}
	}
}

func TestJoinAsDefined(t *testing.T) {
	numbers := []rune{'a', '漢', 0x301, 0x200d, 0xe0100, 7, '\n', 0xfffd, -1, 0xdfff, 0x110000}
	inputs(func(s string) {
		l := cells(s, known)
		for _, r := range numbers {
			want, ok := s, false
			if len(l) == 1 && l[0].text == s && (r == 0x301 || r == 0x200d || r == 0xe0100) && len(s+string(r)) <= 64 {
				want, ok = s+string(r), true
			}
			if got, ok0 := Join(s, r); got != want || ok0 != ok {
				t.Fatalf("Join(%q, %d) = %q, %v, not %q, %v", s, r, got, ok0, want, ok)
			}
		}
	})
}

// P3.5

func TestCleanAgain(t *testing.T) {
	inputs(func(s string) {
		clean := Clean(s)
		if again := Clean(clean); again != clean {
			t.Fatalf("Clean(%q) = %q, and of that %q", s, clean, again)
		}
		if flat := Flat(s); Flat(flat) != flat || Clean(flat) != flat {
			t.Fatalf("Flat(%q) = %q is not clean", s, flat)
		}
		l := Cut(s)
		if joined := strings.Join(l, ""); joined != clean {
			t.Fatalf("the clusters of %q make %q, not %q", s, joined, clean)
		}
		for _, c := range l {
			if !Is(c) || len(c) > 64 {
				t.Fatalf("Cut(%q) has %q", s, c)
			}
		}
	})
}

// P3.6

func TestFitIsLongest(t *testing.T) {
	inputs(func(s string) {
		l := Cut(s)
		for most := range 8 {
			fitting, columns := Fit(s, most)
			n := Count(fitting)
			if columns > most || columns != Columns(fitting) || fitting != strings.Join(l[:n], "") {
				t.Fatalf("Fit(%q, %d) = %q, %d", s, most, fitting, columns)
			}
			if n < len(l) && columns+Width(l[n]) <= most {
				t.Fatalf("Fit(%q, %d) = %q, %d, but one more fits", s, most, fitting, columns)
			}
		}
	})
}

// Long strings take no more than a walk over them.
func TestLong(t *testing.T) {
	const n = 200000
	s := strings.Repeat("a漢"+mark2+"\x07", n)
	clean := strings.Repeat("a漢"+mark2, n)
	if Clean(s) != clean || Flat(s) != clean {
		t.Error("a long string is not cleaned")
	}
	if Count(s) != 2*n || len(Cut(s)) != 2*n || Columns(s) != 3*n {
		t.Errorf("%d clusters, %d columns", Count(s), Columns(s))
	}
	if fitting, columns := Fit(s, 3*n-1); fitting != clean[:len(clean)-len("漢"+mark2)] || columns != 3*n-2 {
		t.Errorf("%d columns fit", columns)
	}
}
