package wrap

import (
	"fmt"
	"math"
	"slices"
	"strings"
	"testing"

	"placard/api"
	"placard/cluster"
)

// The chapter, read a second time: a text is a row of clusters, from which the longest
// beginning that fits is taken by trying each one, and spaces are added one at a time.

type row []string

func rowOf(s string) row { return cluster.Cut(cluster.Flat(s)) }

func (r row) text() string { return strings.Join(r, "") }

func (r row) columns() int {
	n := 0
	for _, c := range r {
		n += cluster.Width(c)
	}
	return n
}

// begin returns how many clusters the longest beginning with at most w columns has.
func (r row) begin(w int) int {
	n := len(r)
	for n > 0 && r[:n].columns() > w {
		n--
	}
	return n
}

func readCut(s string, w int) string {
	r := rowOf(s)
	return r[:r.begin(w)].text()
}

// readAlign adds spaces behind the text, ahead of it, or first behind and then ahead
// of it by turns.
func readAlign(s string, w, how int) string {
	r := rowOf(s)
	r = slices.Clone(r[:r.begin(w)])
	for turn := 0; r.columns() < w; turn++ {
		if how == Left || how == Middle && turn%2 == 0 {
			r = append(r, " ")
		} else {
			r = append(row{" "}, r...)
		}
	}
	return r.text()
}

func readDots(s string, w int) string {
	r := rowOf(s)
	switch {
	case w < 1:
		return ""
	case r.begin(w) == len(r):
		return r.text()
	}
	return r[:r.begin(w-1)].text() + string(rune(8230))
}

func readFill(s string, w int) string {
	var all row
	for r := rowOf(s); len(r) > 0 && all.columns()+r.columns() <= w; {
		all = append(all, r...)
	}
	return readAlign(all.text(), w, Left)
}

// isSpace tells of a cluster that it is in no word.
func isSpace(c string) bool { return c[0] == 32 }

func readWords(s string) []row {
	var words []row
	apart := true
	for _, c := range rowOf(s) {
		if !isSpace(c) {
			if apart {
				words = append(words, nil)
			}
			last := len(words) - 1
			words[last] = append(words[last], c)
		}
		apart = isSpace(c)
	}
	return words
}

// fitting returns how many of the first words fit on a line.
func fitting(words []row, w int) int {
	n := 1
	for n < len(words) {
		line := words[0]
		for _, word := range words[1 : n+1] {
			line = append(append(slices.Clone(line), " "), word...)
		}
		if line.columns() > w {
			break
		}
		n++
	}
	return n
}

// readWrap makes one line at a time; what is left of a long word behind it is the first
// word of the next one.
func readWrap(s string, w int) []string {
	if w < 1 {
		return nil
	}
	var lines []string
	for words := readWords(s); len(words) > 0; {
		first := words[0]
		if first.columns() > w {
			first = slices.DeleteFunc(slices.Clone(first), func(c string) bool { return cluster.Width(c) > w })
		}
		if n := first.begin(w); n < len(first) {
			lines = append(lines, first[:n].text())
			words[0] = first[n:]
			continue
		}
		if len(first) == 0 {
			words = words[1:]
			continue
		}
		words[0] = first
		n := fitting(words, w)
		line := words[0].text()
		for _, word := range words[1:n] {
			line += " " + word.text()
		}
		lines, words = append(lines, line), words[n:]
	}
	return lines
}

// hold holds each call on a text against the reading, and what follows from it.
func hold(t *testing.T, s string, w int) {
	t.Helper()
	call := fmt.Sprintf("%q, %d", s, w)
	if got, want := Cut(s, w), readCut(s, w); got != want {
		t.Fatalf("Cut(%s) = %q and not %q", call, got, want)
	}
	if got, want := Dots(s, w), readDots(s, w); got != want {
		t.Fatalf("Dots(%s) = %q and not %q", call, got, want)
	}
	if got, want := Pad(s, w), readAlign(s, w, Left); got != want {
		t.Fatalf("Pad(%s) = %q and not %q", call, got, want)
	} else if w >= 0 {
		holdExact(t, "Pad("+call+")", got, w)
	}
	for how := range 3 {
		got, e := Align(s, w, how)
		if w < 0 || w > 500 {
			if got != "" || e != api.ErrWrap {
				t.Fatalf("Align(%s) = %q, %d", call, got, e)
			}
			continue
		}
		if want := readAlign(s, w, how); got != want || e != api.OK {
			t.Fatalf("Align(%s, %d) = %q, %d and not %q", call, how, got, e, want)
		}
		holdExact(t, "Align("+call+")", got, w)
	}
	holdFill(t, call, s, w)
	holdWrap(t, call, s, w)
}

func holdFill(t *testing.T, call, s string, w int) {
	t.Helper()
	got, e := Fill(s, w)
	if w < 0 || w > 500 {
		if got != "" || e != api.ErrWrap {
			t.Fatalf("Fill(%s) = %q, %d", call, got, e)
		}
		return
	}
	if want := readFill(s, w); got != want || e != api.OK {
		t.Fatalf("Fill(%s) = %q, %d and not %q", call, got, e, want)
	}
	holdExact(t, "Fill("+call+")", got, w)
}

// holdExact holds P17.6.
func holdExact(t *testing.T, call, got string, w int) {
	t.Helper()
	if n := row(cluster.Cut(got)).columns(); n != w {
		t.Fatalf("%s = %q has %d columns (P17.6)", call, got, n)
	}
}

// holdWrap holds the lines, P17.4 and P17.5.
func holdWrap(t *testing.T, call, s string, w int) {
	t.Helper()
	got := Wrap(s, w)
	if want := readWrap(s, w); !slices.Equal(got, want) {
		t.Fatalf("Wrap(%s) = %q and not %q", call, got, want)
	}
	var shown, all row
	for _, line := range got {
		clusters := row(cluster.Cut(line))
		if len(clusters) == 0 || clusters.columns() > w || clusters.text() != line {
			t.Fatalf("Wrap(%s) has the line %q (P17.4)", call, line)
		}
		if isSpace(clusters[0]) || isSpace(clusters[len(clusters)-1]) {
			t.Fatalf("Wrap(%s) has the line %q (P17.4)", call, line)
		}
		shown = append(shown, slices.DeleteFunc(clusters, isSpace)...)
	}
	for _, c := range rowOf(s) {
		if !isSpace(c) && cluster.Width(c) <= w {
			all = append(all, c)
		}
	}
	if !slices.Equal(shown, all) {
		t.Fatalf("Wrap(%s) = %q has not the clusters of the text (P17.5)", call, got)
	}
	holdLines(t, call, s, w, got)
}

// holdLines holds Lines of texts against Wrap of each.
func holdLines(t *testing.T, call, s string, w int, lines []string) {
	t.Helper()
	n := 0
	for i, line := range Lines(w, s, " ", s) {
		if n == 2*len(lines) || line != lines[n%len(lines)] || i != n/len(lines)*2 {
			t.Fatalf("Lines(%s) yields %d, %q", call, i, line)
		}
		n++
	}
	if n != 2*len(lines) {
		t.Fatalf("Lines(%s) yields %d lines", call, n)
	}
}

// sequences calls do with each text of at most some pieces.
func sequences(most int, pieces []string, do func(string)) {
	texts := []string{""}
	for n := 0; ; n++ {
		var longer []string
		for _, s := range texts {
			do(s)
			for _, p := range pieces {
				longer = append(longer, s+p)
			}
		}
		if n == most {
			return
		}
		texts = longer
	}
}

// TestShortTexts holds all texts of a few clusters of each sort.
func TestShortTexts(t *testing.T) {
	sequences(4, []string{"a", "中", " ", mark, "\n", "\x07", "\xff", nbsp, broad}, func(s string) {
		for w := -1; w <= 6; w++ {
			hold(t, s, w)
		}
	})
}

// TestShortWords holds all texts of more clusters of the sorts that wrapping tells apart.
func TestShortWords(t *testing.T) {
	sequences(8, []string{"a", "中", " "}, func(s string) {
		for w := range 7 {
			holdWrap(t, fmt.Sprintf("%q, %d", s, w), s, w)
		}
	})
}

// dice is a row of numbers that is the same each time.
type dice uint64

func (d *dice) upTo(most int) int {
	*d = *d*6364136223846793005 + 1442695040888963407
	return int(uint64(*d) >> 33 % uint64(most+1))
}

// text returns some words of up to so many clusters, and what may stand between them.
func (d *dice) text(words, clusters int) string {
	letters := []string{"a", "b", "c", "é", "中", "文", marked, "中" + mark, nbsp, broad, dots, "\xff"}
	between := []string{" ", " ", " ", "  ", "\t", "\r\n", " " + mark, "\x07", ""}
	s := ""
	for range d.upTo(words) {
		for range d.upTo(clusters) {
			s += letters[d.upTo(len(letters)-1)]
		}
		s += between[d.upTo(len(between)-1)]
	}
	return s
}

// TestAnyTexts holds texts of all lengths in columns of all numbers.
func TestAnyTexts(t *testing.T) {
	d := dice(17)
	for range 600 {
		s := d.text(30, 1+d.upTo(30)>>d.upTo(5))
		for range 3 {
			hold(t, s, d.upTo(90)>>d.upTo(6))
		}
	}
}

// TestEachWidth holds some texts in each number of columns near the limit, or near the
// text's own.
func TestEachWidth(t *testing.T) {
	d := dice(500)
	for range 3 {
		s := d.text(90, 20)
		for w := 490; w <= 510; w++ {
			hold(t, s, w)
		}
		n := rowOf(s).columns()
		for w := n - 3; w <= n+3; w++ {
			hold(t, s, w)
		}
	}
}

// TestAnyNumbers holds numbers of columns that no terminal has.
func TestAnyNumbers(t *testing.T) {
	for _, w := range []int{math.MinInt, math.MinInt + 1, -1 << 40, -1 << 31, -501, -2} {
		sequences(2, []string{"a", "中", " ", mark}, func(s string) { hold(t, s, w) })
	}
	for _, w := range []int{1 << 31, 1 << 40, math.MaxInt - 1, math.MaxInt} {
		sequences(4, []string{"a", "中", " ", mark}, func(s string) {
			call := fmt.Sprintf("%q, %d", s, w)
			holdFill(t, call, s, w)
			holdWrap(t, call, s, w)
			if flat := rowOf(s).text(); Cut(s, w) != flat || Dots(s, w) != flat {
				t.Fatalf("Cut(%s) = %q, Dots(%s) = %q", call, Cut(s, w), call, Dots(s, w))
			}
		})
	}
}
