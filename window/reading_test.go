package window

import (
	"fmt"
	"math"
	"math/big"
	"testing"
)

// The chapter, read a second time: every index that there is is tried by the words
// that describe it, and numbers are exact and unbounded.

const twoTo30 = 1073741824

// total adds up the widths of clusters.
func total(widths []int) int {
	n := len(widths)
	for _, w := range widths {
		if w == 2 {
			n++
		}
	}
	return n
}

func readCursor(cursor, n int) int {
	switch {
	case cursor < 0:
		return 0
	case cursor > n:
		return n
	}
	return cursor
}

func readLine(cursor, room int, widths []int) (int, int) {
	n := len(widths)
	cursor = readCursor(cursor, n)
	if room <= 0 {
		return cursor, cursor
	}
	// What stands behind the last cluster is as wide as a cluster of width 1.
	here := append(append([]int{}, widths...), 1)
	from := 0
	for from < cursor && total(here[from:cursor+1]) > room {
		from++
	}
	to := n
	for to > from && total(widths[from:to]) > room {
		to--
	}
	return from, to
}

func readColumn(cursor, from int, widths []int) int {
	cursor = readCursor(cursor, len(widths))
	if from < 0 || from > cursor {
		return 0
	}
	return total(widths[:cursor]) - total(widths[:from])
}

// Numbers without bounds.

func num(n int) *big.Int { return big.NewInt(int64(n)) }

func plus(a, b *big.Int) *big.Int  { return new(big.Int).Add(a, b) }
func minus(a, b *big.Int) *big.Int { return new(big.Int).Sub(a, b) }
func times(a, b *big.Int) *big.Int { return new(big.Int).Mul(a, b) }

// over divides numbers that are not negative, and rounds down.
func over(a, b *big.Int) *big.Int { return new(big.Int).Quo(a, b) }

func atLeast(a, least *big.Int) *big.Int {
	if a.Cmp(least) < 0 {
		return least
	}
	return a
}

func atMost(a, greatest *big.Int) *big.Int {
	if a.Cmp(greatest) > 0 {
		return greatest
	}
	return a
}

// plain returns a number as an int, which it must be.
func plain(n *big.Int) int {
	if !n.IsInt64() {
		panic("no int: " + n.String())
	}
	return int(n.Int64())
}

func readList(total, room, focus int) (int, int) {
	all, rows := atLeast(num(total), num(0)), atLeast(num(room), num(0))
	from := minus(num(focus), over(rows, num(2)))
	from = atMost(from, atLeast(minus(all, rows), num(0)))
	from = atLeast(from, num(0))
	return plain(from), plain(atMost(plus(from, rows), all))
}

func readBar(total, room, from int) (int, int) {
	all, rows := atMost(num(total), num(twoTo30)), atMost(num(room), num(twoTo30))
	if rows.Sign() <= 0 {
		return 0, 0
	}
	if all.Cmp(rows) <= 0 {
		return 0, plain(rows)
	}
	size := atLeast(over(times(rows, rows), all), num(1))
	hidden := minus(all, rows)
	first := atMost(atLeast(num(from), num(0)), hidden)
	return plain(over(times(first, minus(rows, size)), hidden)), plain(size)
}

func readPage(total, room, focus, by int) int {
	all, rows := atMost(num(total), num(twoTo30)), atMost(num(room), num(twoTo30))
	if all.Sign() <= 0 {
		return 0
	}
	last := minus(all, num(1))
	pages := atMost(atLeast(num(by), num(-twoTo30)), num(twoTo30))
	way := times(pages, atLeast(minus(rows, num(1)), num(1)))
	focused := atMost(atLeast(num(focus), num(0)), last)
	return plain(atMost(atLeast(plus(focused, way), num(0)), last))
}

// Each call is held against the reading and against what follows from it.

func holdLine(t *testing.T, cursor, room int, widths []int) {
	t.Helper()
	kept := append([]int{}, widths...)
	from, to := Line(cursor, room, widths...)
	call := fmt.Sprintf("Line(%d, %d, %v) = %d, %d", cursor, room, widths, from, to)
	if a, b := readLine(cursor, room, widths); from != a || to != b {
		t.Fatalf("%s and not %d, %d", call, a, b)
	}
	if n := Column(cursor, from, widths...); n != readColumn(cursor, from, widths) {
		t.Errorf("%s, then Column = %d", call, n)
	}
	holdSeen(t, call, readCursor(cursor, len(widths)), from, to, room, widths)
	if fmt.Sprint(widths) != fmt.Sprint(kept) {
		t.Errorf("%s: widths were %v", call, kept)
	}
}

// holdSeen holds P15.4 for a line: the cursor has its columns within the room.
func holdSeen(t *testing.T, call string, cursor, from, to, room int, widths []int) {
	t.Helper()
	here := 1
	if cursor < len(widths) {
		here = total(widths[cursor : cursor+1])
	}
	if from < 0 || from > to || to > len(widths) || from > cursor {
		t.Fatalf("%s: no range of the line", call)
	}
	if total(widths[from:to]) > max(room, 0) {
		t.Errorf("%s: wider than the room", call)
	}
	if room < here {
		return
	}
	if to < cursor || cursor < len(widths) && to == cursor {
		t.Errorf("%s: the cursor is not seen", call)
	}
	if Column(cursor, from, widths...) > room-here {
		t.Errorf("%s: the cursor stands behind the room", call)
	}
}

func holdColumn(t *testing.T, cursor, from int, widths []int) {
	t.Helper()
	if n, want := Column(cursor, from, widths...), readColumn(cursor, from, widths); n != want {
		t.Fatalf("Column(%d, %d, %v) = %d and not %d", cursor, from, widths, n, want)
	}
}

func holdList(t *testing.T, total, room, focus int) {
	t.Helper()
	from, to := List(total, room, focus)
	call := fmt.Sprintf("List(%d, %d, %d) = %d, %d", total, room, focus, from, to)
	if a, b := readList(total, room, focus); from != a || to != b {
		t.Fatalf("%s and not %d, %d", call, a, b)
	}
	if room >= 1 && focus >= 0 && focus < total && (focus < from || focus >= to) {
		t.Errorf("%s: the focus is not seen (P15.4)", call)
	}
	if to-from != min(max(total, 0), max(room, 0)) {
		t.Errorf("%s: a row is left empty (P15.5)", call)
	}
	if from < 0 || to > max(total, 0) {
		t.Errorf("%s: no range of the list", call)
	}
}

func holdBar(t *testing.T, total, room, from int) {
	t.Helper()
	top, size := Bar(total, room, from)
	call := fmt.Sprintf("Bar(%d, %d, %d) = %d, %d", total, room, from, top, size)
	if a, b := readBar(total, room, from); top != a || size != b {
		t.Fatalf("%s and not %d, %d", call, a, b)
	}
	if room := min(room, twoTo30); room >= 1 && (size < 1 || top < 0 || top > room-size) {
		t.Errorf("%s: not within the bar", call)
	}
}

func holdPage(t *testing.T, total, room, focus, by int) {
	t.Helper()
	if n, want := Page(total, room, focus, by), readPage(total, room, focus, by); n != want {
		t.Fatalf("Page(%d, %d, %d, %d) = %d and not %d", total, room, focus, by, n, want)
	}
}

// holdRows holds the first rows, at most so many of them.
func holdRows(t *testing.T, total, room, focus, first int) {
	t.Helper()
	from, to := readList(min(total, twoTo30), min(room, twoTo30), focus)
	n := 0
	for row, item := range Rows(total, room, focus) {
		if row != n || item != from+n || item >= to {
			t.Fatalf("Rows(%d, %d, %d) yields %d, %d and not %d, %d of %d", total, room, focus, row, item, n, from+n, to)
		}
		n++
		if n == first {
			break
		}
	}
	if n != min(first, to-from) {
		t.Fatalf("Rows(%d, %d, %d) yields %d rows of %d to %d", total, room, focus, n, from, to)
	}
}

// TestLines holds every line of up to 8 clusters, each cursor and each room.
func TestLines(t *testing.T) {
	for n := range 9 {
		for bits := range 1 << n {
			widths := make([]int, n)
			for i := range widths {
				widths[i] = 1 + bits>>i&1
			}
			for cursor := -1; cursor <= n+1; cursor++ {
				for room := -1; room <= 2*n+2; room++ {
					holdLine(t, cursor, room, widths)
				}
				for from := -1; from <= n+2; from++ {
					holdColumn(t, cursor, from, widths)
				}
			}
		}
	}
}

// TestWidths holds every line of up to 3 clusters of any widths.
func TestWidths(t *testing.T) {
	kinds := []int{math.MinInt, -2, -1, 0, 1, 2, 3, 4, twoTo30, math.MaxInt}
	rows := [][]int{nil}
	for at := 0; at < len(rows); at++ {
		widths := rows[at]
		if len(widths) < 3 {
			for _, w := range kinds {
				rows = append(rows, append(append([]int{}, widths...), w))
			}
		}
		for _, cursor := range []int{math.MinInt, -1, 0, 1, 2, 3, 4, math.MaxInt} {
			for _, room := range []int{math.MinInt, -1, 0, 1, 2, 3, 4, 5, 6, 7, math.MaxInt} {
				holdLine(t, cursor, room, widths)
			}
			for _, from := range []int{math.MinInt, -1, 0, 1, 2, 3, 4, math.MaxInt} {
				holdColumn(t, cursor, from, widths)
			}
		}
	}
}

// TestLists holds all small lists, bars and pages.
func TestLists(t *testing.T) {
	for total := -2; total <= 14; total++ {
		for room := -2; room <= 16; room++ {
			for focus := -3; focus <= 18; focus++ {
				holdList(t, total, room, focus)
				holdBar(t, total, room, focus)
				holdRows(t, total, room, focus, 100)
				for by := -16; by <= 16; by++ {
					holdPage(t, total, room, focus, by)
				}
			}
		}
	}
}

// near returns the numbers around which what a call answers may turn.
func near() []int {
	numbers := []int{math.MinInt, math.MinInt + 1, math.MinInt / 2, math.MaxInt/2 + 1, math.MaxInt - 1, math.MaxInt}
	for _, n := range []int{0, 7, twoTo30 / 2, twoTo30, 2 * twoTo30, 4 * twoTo30} {
		for by := -2; by <= 2; by++ {
			numbers = append(numbers, n+by, -n+by)
		}
	}
	return numbers
}

// TestGreat holds lists, bars and pages of all numbers near an edge.
func TestGreat(t *testing.T) {
	numbers := near()
	for _, total := range numbers {
		for _, room := range numbers {
			for _, n := range numbers {
				holdList(t, total, room, n)
				holdBar(t, total, room, n)
				holdRows(t, total, room, n, 3)
				for _, by := range []int{math.MinInt, -twoTo30 - 1, -twoTo30, -3, -1, 0, 1, 2, twoTo30 - 1, twoTo30, twoTo30 + 1, math.MaxInt} {
					holdPage(t, total, room, n, by)
				}
			}
		}
	}
}

// dice is a row of numbers that is the same each time.
type dice uint64

func (d *dice) next() uint64 {
	*d = *d*6364136223846793005 + 1442695040888963407
	return uint64(*d>>32)<<32 | uint64(*d)>>33
}

// int is any int, of any length.
func (d *dice) int() int {
	return int(d.next()) >> (d.next() >> 7 % 64)
}

// TestAnyNumbers holds calls of numbers of all lengths.
func TestAnyNumbers(t *testing.T) {
	d := dice(15)
	for range 200000 {
		total, room, focus, by := d.int(), d.int(), d.int(), d.int()
		holdList(t, total, room, focus)
		holdBar(t, total, room, focus)
		holdPage(t, total, room, focus, by)
		holdRows(t, total, room, focus, 3)
	}
}

// TestLongLines holds long lines, whose room is of any length.
func TestLongLines(t *testing.T) {
	d := dice(4096)
	widths := make([]int, 4096)
	for range 200 {
		for i := range widths {
			widths[i] = int(d.next()>>9%4) - int(d.next()>>9%2)
		}
		n := int(d.next() >> 9 % 4097)
		holdLine(t, int(d.next()>>9%5000)-100, int(d.next()>>9%500), widths[:n])
		holdColumn(t, int(d.next()>>9%4097), int(d.next()>>9%4097), widths[:n])
	}
}
