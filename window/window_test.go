package window

import (
	"math"
	"slices"
	"testing"
)

// TestLine pins P15.1: which clusters of a line are shown.
func TestLine(t *testing.T) {
	five := []int{1, 1, 1, 1, 1}
	wide := []int{2, 2, 2, 2}
	mixed := []int{1, 2, 1, 2}
	for _, x := range []struct {
		cursor, room int
		widths       []int
		from, to     int
	}{
		// Example 1 of the chapter: behind the last cluster there is one column more.
		{5, 3, five, 3, 5},
		{5, 6, five, 0, 5},
		{5, 5, five, 1, 5},
		{5, 1, five, 5, 5},
		{4, 5, five, 0, 5},
		{4, 4, five, 1, 5},
		{4, 1, five, 4, 5},
		{0, 3, five, 0, 3},
		{2, 3, five, 0, 3},
		{3, 3, five, 1, 4},
		// What is behind the cursor is shown where there is room for it.
		{1, 4, five, 0, 4},
		{0, 1, five, 0, 1},
		{0, 100, five, 0, 5},
		{5, math.MaxInt, five, 0, 5},
		// A cursor that there is not.
		{-1, 3, five, 0, 3},
		{math.MinInt, 3, five, 0, 3},
		{6, 3, five, 3, 5},
		{math.MaxInt, 3, five, 3, 5},
		// No room.
		{3, 0, five, 3, 3},
		{3, -1, five, 3, 3},
		{3, math.MinInt, five, 3, 3},
		{-1, 0, five, 0, 0},
		{9, 0, five, 5, 5},
		// Wide clusters, of which none is shown by half.
		{0, 3, wide, 0, 1},
		{0, 4, wide, 0, 2},
		{2, 5, wide, 1, 3},
		{2, 6, wide, 0, 3},
		{2, 7, wide, 0, 3},
		{4, 4, wide, 3, 4},
		{4, 5, wide, 2, 4},
		// One that has no room.
		{1, 1, wide, 1, 1},
		{4, 1, wide, 4, 4},
		{1, 1, mixed, 1, 1},
		{2, 1, mixed, 2, 3},
		{0, 1, mixed, 0, 1},
		{1, 2, mixed, 1, 2},
		{1, 3, mixed, 0, 2},
		{3, 3, mixed, 2, 4},
		{3, 4, mixed, 2, 4},
		{3, 5, mixed, 1, 4},
		// Every number but 2 counts as 1.
		{3, 3, []int{0, 3, -2, 100}, 1, 4},
		{2, 2, []int{math.MaxInt, math.MinInt, -1, 4}, 1, 3},
		{3, 3, []int{2, 3, 2, 4}, 2, 4},
		// A line without clusters.
		{0, 1, nil, 0, 0},
		{5, 5, nil, 0, 0},
		{-5, 0, []int{}, 0, 0},
	} {
		if from, to := Line(x.cursor, x.room, x.widths...); from != x.from || to != x.to {
			t.Errorf("Line(%d, %d, %v) = %d, %d and not %d, %d", x.cursor, x.room, x.widths, from, to, x.from, x.to)
		}
	}
}

// TestColumn pins P15.1: the column of the cursor.
func TestColumn(t *testing.T) {
	widths := []int{1, 2, 0, -2, 2}
	for _, x := range []struct {
		cursor, from, want int
	}{
		{0, 0, 0}, {1, 0, 1}, {2, 0, 3}, {3, 0, 4}, {4, 0, 5}, {5, 0, 7},
		{5, 1, 6}, {5, 4, 2}, {5, 5, 0}, {2, 1, 2}, {3, 2, 1}, {2, 2, 0},
		// A range that does not begin ahead of the cursor.
		{2, 3, 0}, {0, 1, 0}, {5, 6, 0}, {9, 6, 0}, {9, 9, 0}, {5, math.MaxInt, 0},
		{5, -1, 0}, {5, math.MinInt, 0}, {-1, -1, 0},
		// A cursor that there is not.
		{6, 0, 7}, {math.MaxInt, 1, 6}, {9, 5, 0}, {-1, 0, 0}, {math.MinInt, 0, 0}, {-1, 1, 0},
	} {
		if n := Column(x.cursor, x.from, widths...); n != x.want {
			t.Errorf("Column(%d, %d) = %d and not %d", x.cursor, x.from, n, x.want)
		}
	}
	if n := Column(1, 0); n != 0 {
		t.Errorf("Column of no line = %d", n)
	}
}

// TestList pins P15.2: which items of a list are shown.
func TestList(t *testing.T) {
	for _, x := range []struct {
		total, room, focus, from, to int
	}{
		// Example 1 of the chapter.
		{10, 4, 9, 6, 10},
		{10, 4, 0, 0, 4},
		{10, 4, 2, 0, 4},
		{10, 4, 3, 1, 5},
		{10, 4, 8, 6, 10},
		{10, 4, 7, 5, 9},
		// Half of the room is rounded down.
		{10, 5, 2, 0, 5},
		{10, 5, 3, 1, 6},
		{10, 5, 7, 5, 10},
		{10, 1, 6, 6, 7},
		{10, 3, 6, 5, 8},
		// As many items as rows, one more and one less.
		{4, 4, 3, 0, 4},
		{5, 4, 4, 1, 5},
		{3, 4, 2, 0, 3},
		// A focus that there is not.
		{10, 4, -1, 0, 4},
		{10, 4, 10, 6, 10},
		{10, 4, math.MinInt, 0, 4},
		{10, 4, math.MaxInt, 6, 10},
		// No room, and no items.
		{10, 0, 3, 3, 3},
		{10, 0, -3, 0, 0},
		{10, 0, 30, 10, 10},
		{10, -7, 3, 3, 3},
		{10, math.MinInt, 3, 3, 3},
		{0, 4, 3, 0, 0},
		{-1, 4, 3, 0, 0},
		{math.MinInt, 4, 3, 0, 0},
		{-3, -3, -3, 0, 0},
		// Great numbers count as they are.
		{math.MaxInt, 4, math.MaxInt, math.MaxInt - 4, math.MaxInt},
		{math.MaxInt, 4, math.MaxInt - 3, math.MaxInt - 5, math.MaxInt - 1},
		{math.MaxInt, math.MaxInt, math.MinInt, 0, math.MaxInt},
		{math.MaxInt, math.MaxInt - 1, math.MaxInt, 1, math.MaxInt},
		{10, math.MaxInt, 9, 0, 10},
	} {
		if from, to := List(x.total, x.room, x.focus); from != x.from || to != x.to {
			t.Errorf("List(%d, %d, %d) = %d, %d and not %d, %d", x.total, x.room, x.focus, from, to, x.from, x.to)
		}
	}
}

// TestBar pins P15.3: the thumb of a scroll bar.
func TestBar(t *testing.T) {
	const great = 1 << 30
	for _, x := range []struct {
		total, room, from, top, size int
	}{
		{20, 10, 0, 0, 5},
		{20, 10, 1, 0, 5},
		{20, 10, 2, 1, 5},
		{20, 10, 9, 4, 5},
		{20, 10, 10, 5, 5},
		// Both divisions round down.
		{30, 10, 19, 6, 3},
		{30, 10, 20, 7, 3},
		{11, 10, 1, 1, 9},
		{11, 10, 0, 0, 9},
		// There is always a thumb.
		{100, 5, 0, 0, 1},
		{100, 5, 94, 3, 1},
		{100, 5, 95, 4, 1},
		{100, 1, 50, 0, 1},
		{2, 1, 1, 0, 1},
		// Items that there are not.
		{20, 10, -1, 0, 5},
		{20, 10, math.MinInt, 0, 5},
		{20, 10, 11, 5, 5},
		{20, 10, math.MaxInt, 5, 5},
		// All items are shown.
		{10, 10, 3, 0, 10},
		{9, 10, 3, 0, 10},
		{0, 10, 3, 0, 10},
		{-5, 10, 3, 0, 10},
		{math.MinInt, 10, 3, 0, 10},
		// No room.
		{20, 0, 3, 0, 0},
		{20, -1, 3, 0, 0},
		{20, math.MinInt, 3, 0, 0},
		{0, 0, 0, 0, 0},
		{-9, -9, 0, 0, 0},
		// Total and room count as at most 2^30.
		{great, great - 1, 1, 1, great - 2},
		{great + 1, great - 1, 1, 1, great - 2},
		{math.MaxInt, great - 1, 1, 1, great - 2},
		{math.MaxInt, great / 2, great / 2, great / 4, great / 4},
		{great + 5, great + 1, 5, 0, great},
		{math.MaxInt, math.MaxInt, 9, 0, great},
		{7, math.MaxInt, 9, 0, great},
		{great, great, 9, 0, great},
	} {
		if top, size := Bar(x.total, x.room, x.from); top != x.top || size != x.size {
			t.Errorf("Bar(%d, %d, %d) = %d, %d and not %d, %d", x.total, x.room, x.from, top, size, x.top, x.size)
		}
	}
}

// TestPage pins P15.3: the focus after moving by pages.
func TestPage(t *testing.T) {
	const great = 1 << 30
	for _, x := range []struct {
		total, room, focus, by, want int
	}{
		{20, 5, 3, 0, 3},
		{20, 5, 3, 1, 7},
		{20, 5, 3, 2, 11},
		{20, 5, 10, -1, 6},
		{20, 5, 15, 1, 19},
		{20, 5, 16, 1, 19},
		{20, 5, 4, -1, 0},
		{20, 5, 3, -1, 0},
		// The focus is clamped ahead of the move, too.
		{20, 5, -10, 1, 4},
		{20, 5, math.MinInt, 1, 4},
		{20, 5, 30, -1, 15},
		{20, 5, math.MaxInt, -1, 15},
		{20, 5, 20, 0, 19},
		{20, 5, -1, 0, 0},
		// A page is one row at least.
		{20, 2, 3, 4, 7},
		{20, 1, 3, 4, 7},
		{20, 0, 3, 4, 7},
		{20, -5, 3, 4, 7},
		{20, math.MinInt, 3, 4, 7},
		{20, 3, 3, 4, 11},
		// No items, and one.
		{0, 5, 3, 1, 0},
		{-1, 5, 3, 1, 0},
		{math.MinInt, 5, 3, 1, 0},
		{1, 5, 3, 1, 0},
		// Great numbers.
		{20, 5, 3, math.MaxInt, 19},
		{20, 5, 3, math.MinInt, 0},
		{20, math.MaxInt, 3, math.MaxInt, 19},
		{20, math.MaxInt, 19, math.MinInt, 0},
		{great, 1, 0, math.MaxInt, great - 1},
		{math.MaxInt, 1, 0, math.MaxInt, great - 1},
		{great + 1, 1, great, 0, great - 1},
		{great, math.MaxInt, 0, 1, great - 1},
		{great, great - 1, 0, 1, great - 2},
		{great, great - 1, great - 1, -1, 1},
		{great, 1, great - 1, -great, 0},
	} {
		if n := Page(x.total, x.room, x.focus, x.by); n != x.want {
			t.Errorf("Page(%d, %d, %d, %d) = %d and not %d", x.total, x.room, x.focus, x.by, n, x.want)
		}
	}
}

// TestRows pins P15.3: the rows with the items that they show.
func TestRows(t *testing.T) {
	const great = 1 << 30
	for _, x := range []struct {
		total, room, focus int
		items              []int
	}{
		{10, 3, 9, []int{7, 8, 9}},
		{10, 3, 0, []int{0, 1, 2}},
		{10, 4, 5, []int{3, 4, 5, 6}},
		{2, 4, 1, []int{0, 1}},
		{10, 1, 6, []int{6}},
		{10, 0, 6, nil},
		{10, -1, 6, nil},
		{0, 3, 0, nil},
		{-1, 3, 0, nil},
		// The total counts as at most 2^30.
		{math.MaxInt, 2, math.MaxInt, []int{great - 2, great - 1}},
		{great + 1, 2, great, []int{great - 2, great - 1}},
		{great, 2, great, []int{great - 2, great - 1}},
		{great - 1, 2, great, []int{great - 3, great - 2}},
	} {
		rows := Rows(x.total, x.room, x.focus)
		// An iterator may be ranged over more than once.
		for range 2 {
			var items []int
			for row, item := range rows {
				if row != len(items) {
					t.Errorf("Rows(%d, %d, %d) yields row %d behind %d rows", x.total, x.room, x.focus, row, len(items))
				}
				items = append(items, item)
				if len(items) > len(x.items) {
					break
				}
			}
			if !slices.Equal(items, x.items) {
				t.Errorf("Rows(%d, %d, %d) yields %v and not %v", x.total, x.room, x.focus, items, x.items)
			}
		}
	}
}

// TestRowsStop pins P15.3: nothing is yielded once the loop body has stopped.
func TestRowsStop(t *testing.T) {
	for most := 1; most <= 6; most++ {
		n := 0
		Rows(10, 5, 5)(func(row, item int) bool {
			n++
			return n < most
		})
		if n != min(most, 5) {
			t.Errorf("stopped behind %d rows, it yields %d", most, n)
		}
	}
	for row, item := range Rows(math.MaxInt, math.MaxInt, math.MaxInt) {
		if row != 0 || item != 0 {
			t.Errorf("the greatest list yields %d, %d", row, item)
		}
		break
	}
}

// TestRowsOfTheGreatestList pins P15.3: room counts as at most 2^30.
func TestRowsOfTheGreatestList(t *testing.T) {
	n, last := 0, 0
	Rows(math.MaxInt, math.MaxInt, 0)(func(row, item int) bool {
		n++
		last = item
		return true
	})
	if n != 1<<30 || last != 1<<30-1 {
		t.Errorf("%d rows, the last item %d", n, last)
	}
}

// TestWidthsAreTheCallers pins general rule 4: the widths are not written to.
func TestWidthsAreTheCallers(t *testing.T) {
	widths := []int{0, 1, 2, 3, -1}
	Line(3, 3, widths...)
	Column(3, 1, widths...)
	if !slices.Equal(widths, []int{0, 1, 2, 3, -1}) {
		t.Errorf("widths = %v", widths)
	}
}
