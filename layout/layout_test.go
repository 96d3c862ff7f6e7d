package layout

import (
	"fmt"
	"math"
	"slices"
	"testing"

	"placard/api"
)

// Short parts, of which a test needs some.

func fixed(n int) api.Part { return api.Part{Min: n, Max: n} }

func open(weight int) api.Part { return api.Part{Max: api.MaxSide, Weight: weight} }

func kept3(a, b, c int) []api.Part {
	return []api.Part{{Min: 2, Max: 2, Keep: a}, {Min: 2, Max: 2, Keep: b}, {Min: 2, Max: 2, Keep: c}}
}

func times(n int, part api.Part) []api.Part {
	return slices.Repeat([]api.Part{part}, n)
}

// TestCheck pins P16.1: which arguments are valid, at the edge and beyond it.
func TestCheck(t *testing.T) {
	ok := times(1, api.Part{Max: 1})
	for _, x := range []struct {
		room, gap int
		parts     []api.Part
		e         api.Errno
	}{
		{0, 0, ok, api.OK},
		{500, 9, ok, api.OK},
		{-1, 0, ok, api.ErrLayout},
		{501, 0, ok, api.ErrLayout},
		{math.MinInt, 0, ok, api.ErrLayout},
		{math.MaxInt, 0, ok, api.ErrLayout},
		{0, -1, ok, api.ErrLayout},
		{0, 10, ok, api.ErrLayout},
		{0, math.MinInt, ok, api.ErrLayout},
		{0, math.MaxInt, ok, api.ErrLayout},
		{5, 0, nil, api.ErrMany},
		{5, 0, []api.Part{}, api.ErrMany},
		{5, 0, times(64, api.Part{}), api.OK},
		{5, 0, times(65, api.Part{}), api.ErrMany},
		{5, 0, []api.Part{{}}, api.OK},
		{5, 0, []api.Part{{Min: 500, Max: 500, Weight: 100, Keep: 9}}, api.OK},
		{5, 0, []api.Part{{Min: -1, Max: 1}}, api.ErrArg},
		{5, 0, []api.Part{{Min: math.MinInt, Max: math.MaxInt}}, api.ErrArg},
		{5, 0, []api.Part{{Min: 2, Max: 1}}, api.ErrArg},
		{5, 0, []api.Part{{Min: 1, Max: 1}}, api.OK},
		{5, 0, []api.Part{{Max: 501}}, api.ErrArg},
		{5, 0, []api.Part{{Min: 501, Max: 501}}, api.ErrArg},
		{5, 0, []api.Part{{Max: -1}}, api.ErrArg},
		{5, 0, []api.Part{{Min: -2, Max: -1}}, api.ErrArg},
		{5, 0, []api.Part{{Max: 1, Weight: -1}}, api.ErrArg},
		{5, 0, []api.Part{{Max: 1, Weight: 101}}, api.ErrArg},
		{5, 0, []api.Part{{Max: 1, Weight: math.MaxInt}}, api.ErrArg},
		{5, 0, []api.Part{{Max: 1, Keep: -1}}, api.ErrArg},
		{5, 0, []api.Part{{Max: 1, Keep: 10}}, api.ErrArg},
		{5, 0, []api.Part{{Max: 1, Keep: math.MinInt}}, api.ErrArg},
		// Any part may be the wrong one, and what a part needs is not asked.
		{5, 0, append(times(63, api.Part{}), api.Part{Min: 1}), api.ErrArg},
		{0, 9, times(64, fixed(500)), api.OK},
		// Of several errors the one that is named first.
		{-1, 0, nil, api.ErrLayout},
		{0, 10, times(65, api.Part{Min: 1}), api.ErrLayout},
		{501, 0, times(1, api.Part{Min: 1}), api.ErrLayout},
		{5, 0, times(65, api.Part{Min: 1}), api.ErrMany},
	} {
		if e := Check(x.room, x.gap, x.parts...); e != x.e {
			t.Errorf("Check(%d, %d, %v) = %d and not %d", x.room, x.gap, x.parts, e, x.e)
		}
		if x.e == api.OK {
			continue
		}
		// What the other calls return beside an error is zero.
		stay, e := Stay(x.room, x.gap, x.parts...)
		if stay != nil || e != x.e {
			t.Errorf("Stay(%d, %d, %v) = %v, %d", x.room, x.gap, x.parts, stay, e)
		}
		sizes, e := Sizes(x.room, x.gap, x.parts...)
		if sizes != nil || e != x.e {
			t.Errorf("Sizes(%d, %d, %v) = %v, %d", x.room, x.gap, x.parts, sizes, e)
		}
		for _, align := range []int{Start, 7} {
			places, e := Places(x.room, x.gap, align, x.parts...)
			if places != nil || e != x.e {
				t.Errorf("Places(%d, %d, %d, %v) = %v, %d", x.room, x.gap, align, x.parts, places, e)
			}
		}
		for range Boxes(x.room, 5, x.gap, ok, x.parts) {
			t.Errorf("Boxes yields for columns %v in %d with %d", x.parts, x.room, x.gap)
		}
	}
}

// TestLeast pins P16.1: the room in which all parts are kept.
func TestLeast(t *testing.T) {
	for _, x := range []struct {
		gap   int
		parts []api.Part
		n     int
		e     api.Errno
	}{
		{0, []api.Part{{}}, 0, api.OK},
		{9, []api.Part{{Min: 3, Max: 5}}, 3, api.OK},
		{9, []api.Part{{Min: 3, Max: 5}, {Min: 4, Max: 4}}, 16, api.OK},
		{2, []api.Part{{}, {}, {}}, 4, api.OK},
		{0, []api.Part{{Min: 1, Max: 500, Weight: 100}, {Min: 2, Max: 3, Keep: 9}}, 3, api.OK},
		// It is not limited by the greatest room.
		{9, times(64, fixed(500)), 64*500 + 63*9, api.OK},
		{-1, times(1, fixed(1)), 0, api.ErrLayout},
		{10, nil, 0, api.ErrLayout},
		{9, nil, 0, api.ErrMany},
		{9, times(65, fixed(501)), 0, api.ErrMany},
		{9, times(64, fixed(501)), 0, api.ErrArg},
		{9, []api.Part{{Min: 3, Max: 5}, {Min: 6, Max: 5}}, 0, api.ErrArg},
	} {
		if n, e := Least(x.gap, x.parts...); n != x.n || e != x.e {
			t.Errorf("Least(%d, %v) = %d, %d and not %d, %d", x.gap, x.parts, n, e, x.n, x.e)
		}
	}
}

// TestStay pins P16.2: which parts are kept.
func TestStay(t *testing.T) {
	for _, x := range []struct {
		room, gap int
		parts     []api.Part
		stay      string
	}{
		{6, 0, kept3(0, 0, 0), "+++"},
		{5, 0, kept3(0, 0, 0), "++-"},
		{4, 0, kept3(0, 0, 0), "++-"},
		{3, 0, kept3(0, 0, 0), "+--"},
		{2, 0, kept3(0, 0, 0), "+--"},
		{1, 0, kept3(0, 0, 0), "---"},
		{0, 0, kept3(0, 0, 0), "---"},
		// The least Keep goes first, and of equal ones the last.
		{5, 0, kept3(1, 2, 3), "-++"},
		{3, 0, kept3(1, 2, 3), "--+"},
		{5, 0, kept3(9, 0, 5), "+-+"},
		{3, 0, kept3(9, 0, 5), "+--"},
		{5, 0, kept3(1, 1, 2), "+-+"},
		{3, 0, kept3(1, 1, 2), "--+"},
		{5, 0, kept3(0, 1, 0), "++-"},
		{3, 0, kept3(0, 1, 0), "-+-"},
		// The gaps are only between parts that are kept.
		{8, 1, kept3(0, 0, 0), "+++"},
		{7, 1, kept3(0, 0, 0), "++-"},
		{5, 1, kept3(5, 0, 5), "+-+"},
		{4, 1, kept3(5, 0, 5), "+--"},
		{2, 9, kept3(5, 0, 5), "+--"},
		// A part is dropped though a later one would have made room, and does not return.
		{5, 0, []api.Part{fixed(1), fixed(6)}, "+-"},
		{6, 0, []api.Part{fixed(6), fixed(1)}, "+-"},
		{5, 0, []api.Part{fixed(6), fixed(1)}, "--"},
		{5, 0, []api.Part{{Min: 1, Max: 1, Keep: 1}, {Min: 6, Max: 6, Keep: 2}}, "--"},
		// A part that needs nothing is kept in no room, unless for its gap.
		{0, 0, []api.Part{{}, {}}, "++"},
		{0, 1, []api.Part{{}, {}}, "+-"},
		{1, 1, []api.Part{{}, {}}, "++"},
		{0, 9, []api.Part{{Keep: 1}, {Keep: 2}, {Keep: 0}}, "-+-"},
		{500, 9, []api.Part{fixed(491), fixed(0)}, "++"},
		{500, 9, []api.Part{fixed(492), fixed(0)}, "+-"},
	} {
		stay, e := Stay(x.room, x.gap, x.parts...)
		if e != api.OK || signs(stay) != x.stay {
			t.Errorf("Stay(%d, %d, %v) = %s, %d and not %s", x.room, x.gap, x.parts, signs(stay), e, x.stay)
		}
	}
}

func signs(stay []bool) string {
	l := make([]byte, len(stay))
	for i, kept := range stay {
		l[i] = '-'
		if kept {
			l[i] = '+'
		}
	}
	return string(l)
}

// TestSizes pins P16.2: how the columns are distributed.
func TestSizes(t *testing.T) {
	example := []api.Part{{Min: 2, Max: 4, Weight: 1}, {Max: 9, Weight: 1}}
	for _, x := range []struct {
		room, gap int
		parts     []api.Part
		sizes     []int
	}{
		// Example 1 of the chapter.
		{10, 1, example, []int{4, 5}},
		{2, 1, example, []int{2, 0}},
		{500, 1, example, []int{4, 9}},
		// Equal shares, where the first part has what is odd.
		{0, 0, times(3, open(1)), []int{0, 0, 0}},
		{1, 0, times(3, open(1)), []int{1, 0, 0}},
		{2, 0, times(3, open(1)), []int{1, 1, 0}},
		{7, 0, times(3, open(1)), []int{3, 2, 2}},
		{7, 0, times(3, open(100)), []int{3, 2, 2}},
		{500, 0, times(3, open(1)), []int{167, 167, 166}},
		{500, 9, times(3, open(1)), []int{161, 161, 160}},
		// Shares by weight: the first column goes to the greatest weight.
		{1, 0, []api.Part{open(1), open(2)}, []int{0, 1}},
		{2, 0, []api.Part{open(1), open(2)}, []int{1, 1}},
		{3, 0, []api.Part{open(1), open(2)}, []int{1, 2}},
		{2, 0, []api.Part{open(2), open(1)}, []int{2, 0}},
		{3, 0, []api.Part{open(2), open(1)}, []int{2, 1}},
		{300, 0, []api.Part{open(1), open(2)}, []int{100, 200}},
		{100, 0, []api.Part{open(99), open(1)}, []int{99, 1}},
		{99, 0, []api.Part{open(1), open(100)}, []int{0, 99}},
		{100, 0, []api.Part{open(1), open(100)}, []int{1, 99}},
		{10, 0, []api.Part{open(2), open(3)}, []int{4, 6}},
		{6, 0, []api.Part{open(2), open(3)}, []int{2, 4}},
		{4, 0, []api.Part{open(2), open(4), open(3)}, []int{1, 2, 1}},
		// Shares that differ by little.
		{67, 0, []api.Part{open(99), open(100)}, []int{33, 34}},
		// What a part has at least is no share of it.
		{12, 0, []api.Part{{Min: 8, Max: 500, Weight: 1}, open(1)}, []int{10, 2}},
		{12, 0, []api.Part{open(1), {Min: 8, Max: 500, Weight: 1}}, []int{2, 10}},
		// A part that has its most leaves the rest to the others.
		{9, 0, []api.Part{{Max: 2, Weight: 9}, open(1), open(1)}, []int{2, 4, 3}},
		{9, 0, []api.Part{{Max: 2, Weight: 1}, {Max: 3, Weight: 1}}, []int{2, 3}},
		// A part without weight has its least.
		{9, 0, []api.Part{{Min: 1, Max: 5}, open(1)}, []int{1, 8}},
		{9, 0, []api.Part{{Min: 1, Max: 5}, {Min: 2, Max: 2, Weight: 3}}, []int{1, 2}},
		{9, 0, []api.Part{open(0)}, []int{0}},
		// What is dropped leaves its columns, and its gap, to the others.
		{9, 2, []api.Part{{Min: 4, Max: 9, Weight: 1, Keep: 1}, fixed(3), {Min: 1, Max: 2, Weight: 1, Keep: 1}}, []int{5, 0, 2}},
		{9, 0, []api.Part{fixed(10)}, []int{0}},
		{9, 0, []api.Part{{Min: 10, Max: 12, Weight: 1, Keep: 9}, open(1)}, []int{0, 0}},
	} {
		if sizes, e := Sizes(x.room, x.gap, x.parts...); e != api.OK || !slices.Equal(sizes, x.sizes) {
			t.Errorf("Sizes(%d, %d, %v) = %v, %d and not %v", x.room, x.gap, x.parts, sizes, e, x.sizes)
		}
	}
}

// TestPlaces pins P16.3: where the parts begin.
func TestPlaces(t *testing.T) {
	three := []api.Part{fixed(2), fixed(3), fixed(1)}
	dropped := []api.Part{{Min: 2, Max: 2}, {Min: 2, Max: 2, Keep: 1}, {Min: 9, Max: 9}, {Min: 3, Max: 3, Keep: 1}}
	for _, x := range []struct {
		room, gap, align int
		parts            []api.Part
		places           []int
	}{
		{6, 0, Start, three, []int{0, 2, 5}},
		{6, 0, Middle, three, []int{0, 2, 5}},
		{6, 0, End, three, []int{0, 2, 5}},
		{8, 1, End, three, []int{0, 3, 7}},
		{11, 1, Start, three, []int{0, 3, 7}},
		{11, 1, End, three, []int{3, 6, 10}},
		{11, 1, Middle, three, []int{1, 4, 8}},
		{12, 1, Middle, three, []int{2, 5, 9}},
		{9, 1, Middle, three, []int{0, 3, 7}},
		{500, 9, End, three, []int{476, 487, 499}},
		// There is no surplus where a part may grow.
		{11, 1, End, []api.Part{fixed(2), open(1)}, []int{0, 3}},
		{11, 1, End, []api.Part{open(1), fixed(2)}, []int{0, 9}},
		{11, 1, End, []api.Part{{Max: 4, Weight: 1}, fixed(2)}, []int{4, 9}},
		// A dropped part is at 0, and the others follow as if it were not there.
		{8, 1, Start, dropped, []int{0, 0, 0, 3}},
		{8, 1, Middle, dropped, []int{0, 1, 0, 4}},
		{8, 1, End, dropped, []int{0, 2, 0, 5}},
		{9, 1, Start, dropped, []int{0, 3, 0, 6}},
		{10, 1, End, dropped, []int{1, 4, 0, 7}},
		{5, 0, End, []api.Part{fixed(6)}, []int{0}},
		{5, 0, Middle, []api.Part{fixed(6), fixed(7)}, []int{0, 0}},
		// A part of no size has a place.
		{5, 2, Start, []api.Part{fixed(0), fixed(0), fixed(1)}, []int{0, 2, 4}},
		{5, 0, End, []api.Part{fixed(0), fixed(0)}, []int{5, 5}},
		{0, 0, End, []api.Part{fixed(0)}, []int{0}},
	} {
		places, e := Places(x.room, x.gap, x.align, x.parts...)
		if e != api.OK || !slices.Equal(places, x.places) {
			t.Errorf("Places(%d, %d, %d, %v) = %v, %d and not %v", x.room, x.gap, x.align, x.parts, places, e, x.places)
		}
	}
}

// TestAlign pins P16.3: which alignments there are.
func TestAlign(t *testing.T) {
	if Start != 0 || End != 1 || Middle != 2 {
		t.Error(Start, End, Middle)
	}
	for _, align := range []int{math.MinInt, -1, 3, math.MaxInt} {
		if places, e := Places(5, 0, align, fixed(1)); places != nil || e != api.ErrRange {
			t.Errorf("aligned by %d: %v, %d", align, places, e)
		}
	}
}

// box writes a box as its row, column, height and width.
func box(b api.Box) string {
	return fmt.Sprint([]int{b.Row, b.Col, b.H, b.W})
}

// TestBoxes pins P16.4: the boxes of kept rows and kept columns.
func TestBoxes(t *testing.T) {
	one := []api.Part{fixed(1)}
	for _, x := range []struct {
		w, h, gap  int
		rows, cols []api.Part
		boxes      []string
	}{
		{9, 5, 1, []api.Part{fixed(2), open(1)}, []api.Part{fixed(3), fixed(2), fixed(1)},
			[]string{"[0 0 2 3]", "[0 4 2 2]", "[0 7 2 1]", "[2 0 3 3]", "[2 4 3 2]", "[2 7 3 1]"}},
		// The gap is not between rows, and the surplus is behind.
		{9, 9, 9, times(3, fixed(1)), one, []string{"[0 0 1 1]", "[1 0 1 1]", "[2 0 1 1]"}},
		{20, 9, 9, one, times(2, fixed(1)), []string{"[0 0 1 1]", "[0 10 1 1]"}},
		// What is dropped has no box and no index.
		{9, 3, 0, []api.Part{{Min: 2, Max: 2}, {Min: 2, Max: 2, Keep: 1}}, []api.Part{fixed(10), {Min: 4, Max: 4, Keep: 1}},
			[]string{"[0 0 2 4]"}},
		{9, 3, 0, []api.Part{fixed(4), {Min: 2, Max: 2, Keep: 1}}, []api.Part{fixed(10), {Min: 1, Max: 1, Keep: 1}, {Min: 4, Max: 4, Keep: 2}},
			[]string{"[0 0 2 1]", "[0 1 2 4]"}},
		{0, 5, 0, one, one, nil},
		{5, 0, 0, one, one, nil},
		// A kept part of no size makes boxes.
		{0, 0, 0, []api.Part{{}}, []api.Part{{}}, []string{"[0 0 0 0]"}},
		{2, 1, 2, one, times(2, fixed(0)), []string{"[0 0 1 0]", "[0 2 1 0]"}},
		{500, 500, 9, []api.Part{open(1)}, []api.Part{open(1)}, []string{"[0 0 500 500]"}},
		// Wrong arguments.
		{501, 5, 0, one, one, nil},
		{-1, 5, 0, one, one, nil},
		{5, 501, 0, one, one, nil},
		{5, -1, 0, one, one, nil},
		{5, 5, 10, one, one, nil},
		{5, 5, -1, one, one, nil},
		{5, 5, 0, nil, one, nil},
		{5, 5, 0, one, nil, nil},
		{5, 5, 0, times(65, fixed(0)), one, nil},
		{5, 5, 0, one, times(65, fixed(0)), nil},
		{5, 5, 0, []api.Part{fixed(1), {Min: 2}}, one, nil},
		{5, 5, 0, one, []api.Part{fixed(1), {Keep: 10}}, nil},
	} {
		boxes := Boxes(x.w, x.h, x.gap, x.rows, x.cols)
		// An iterator may be ranged over more than once.
		for range 2 {
			var l []string
			for i, b := range boxes {
				if i != len(l) {
					t.Errorf("%d is the index behind %d boxes", i, len(l))
				}
				l = append(l, box(b))
			}
			if !slices.Equal(l, x.boxes) {
				t.Errorf("Boxes(%d, %d, %d, %v, %v) yields %v and not %v", x.w, x.h, x.gap, x.rows, x.cols, l, x.boxes)
			}
		}
	}
}

// TestBoxesStop pins P16.4: nothing is yielded once the loop body has stopped.
func TestBoxesStop(t *testing.T) {
	for most := 1; most <= 8; most++ {
		n := 0
		Boxes(9, 9, 0, times(2, fixed(1)), times(3, fixed(1)))(func(int, api.Box) bool {
			n++
			return n < most
		})
		if n != min(most, 6) {
			t.Errorf("stopped behind %d boxes, it yields %d", most, n)
		}
	}
}

// TestManyBoxes pins P16.4: the most boxes that there are.
func TestManyBoxes(t *testing.T) {
	n := 0
	for i, b := range Boxes(127, 64, 1, times(64, fixed(1)), times(64, fixed(1))) {
		if i != n || b != (api.Box{Row: n / 64, Col: n % 64 * 2, H: 1, W: 1}) {
			t.Fatalf("%d: %d, %v", n, i, b)
		}
		n++
	}
	if n != 64*64 {
		t.Errorf("%d boxes", n)
	}
}

// TestPartsAreTheCallers pins general rule 4: parts are neither written to nor kept.
func TestPartsAreTheCallers(t *testing.T) {
	rows := []api.Part{{Min: 1, Max: 5, Weight: 1}, {Min: 9, Max: 9}}
	cols := []api.Part{{Min: 2, Max: 5, Weight: 2, Keep: 1}, {Min: 1, Max: 1}}
	boxes := Boxes(4, 8, 1, rows, cols)
	for _, parts := range [][]api.Part{rows, cols} {
		kept := slices.Clone(parts)
		Check(4, 1, parts...)
		Least(1, parts...)
		Stay(4, 1, parts...)
		Sizes(4, 1, parts...)
		Places(4, 1, End, parts...)
		if !slices.Equal(parts, kept) {
			t.Errorf("%v were %v", parts, kept)
		}
	}
	clear(rows)
	clear(cols)
	for i, b := range boxes {
		if want := []string{"[0 0 5 2]", "[0 3 5 1]"}; box(b) != want[i] {
			t.Errorf("box %d = %v", i, b)
		}
	}
}

// TestResultsAreNew pins general rule 4: two results share nothing.
func TestResultsAreNew(t *testing.T) {
	parts := times(3, fixed(1))
	stay, _ := Stay(9, 1, parts...)
	sizes, _ := Sizes(9, 1, parts...)
	places, _ := Places(9, 1, Start, parts...)
	clear(stay)
	clear(sizes)
	clear(places)
	if stay, _ := Stay(9, 1, parts...); signs(stay) != "+++" {
		t.Error(stay)
	}
	if sizes, _ := Sizes(9, 1, parts...); !slices.Equal(sizes, []int{1, 1, 1}) {
		t.Error(sizes)
	}
	if places, _ := Places(9, 1, Start, parts...); !slices.Equal(places, []int{0, 2, 4}) {
		t.Error(places)
	}
}
