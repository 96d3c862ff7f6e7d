package diff

import (
	"math"
	"slices"
	"testing"

	"placard/api"
	"placard/frame"
)

// P10.1: Spans, All, Changed

func TestExample(t *testing.T) {
	row := func(s string) api.Frame {
		b, _ := frame.New(3, 1)
		b.Text(0, 0, s, api.Style{})
		return b.Frame()
	}
	if l, e := Spans(row("abc"), row("axc")); e != api.OK || !slices.Equal(l, []Span{{0, 1, 2}}) {
		t.Errorf("Spans = %v, %d", l, e)
	}
}

func TestSpans(t *testing.T) {
	for _, x := range []struct {
		a, b string
		want []Span
	}{
		{"a", "a", nil},
		{"a", "b", []Span{{0, 0, 1}}},
		{"....", "....", nil},
		{"....", "a...", []Span{{0, 0, 1}}},
		{"....", "...a", []Span{{0, 3, 4}}},
		{"....", "aaaa", []Span{{0, 0, 4}}},
		{"....", "a.a.", []Span{{0, 0, 1}, {0, 2, 3}}},
		{"....", "aa.a", []Span{{0, 0, 2}, {0, 3, 4}}},
		{".a.|a.a|.a.", "aaa|aaa|aaa", []Span{{0, 0, 1}, {0, 2, 3}, {1, 1, 2}, {2, 0, 1}, {2, 2, 3}}},
		{"..a|a..", "...|...", []Span{{0, 2, 3}, {1, 0, 1}}},
		// a style is a change
		{"..._", "_...", []Span{{0, 0, 1}, {0, 3, 4}}},
		// a wide cell changes as a whole
		{"aWa", "aVa", []Span{{0, 1, 3}}},
		{"aWa", "aUa", []Span{{0, 1, 3}}},
		{"aUa", "aMa", []Span{{0, 1, 3}}},
		{"aWa", "a..a", []Span{{0, 1, 3}}},
		{"a..a", "aWa", []Span{{0, 1, 3}}},
		{"aWa", "aaaa", []Span{{0, 1, 3}}},
		{"WW", "WV", []Span{{0, 2, 4}}},
		{"WW", "VW", []Span{{0, 0, 2}}},
		{"WW", "VV", []Span{{0, 0, 4}}},
		{"VaV", "WaW", []Span{{0, 0, 2}, {0, 3, 5}}},
		// and wide cells that overlap change one another
		{"WWWa", "aWWW", []Span{{0, 0, 7}}},
		{"aWWW", "WWWa", []Span{{0, 0, 7}}},
		{"aWa", "W.a", []Span{{0, 0, 3}}},
		{"aWa", "aaW", []Span{{0, 1, 4}}},
	} {
		a, b := picture(x.a, 0, 0, true), picture(x.b, 0, 0, true)
		columns := 0
		for _, s := range x.want {
			columns += s.To - s.From
		}
		holdSpans(t, x.a+" to "+x.b, a, b, x.want, columns)
	}
}

// holdSpans holds all that tells the spans between two frames against them.
func holdSpans(t *testing.T, what string, a, b api.Frame, want []Span, columns int) {
	t.Helper()
	if l, e := Spans(a, b); e != api.OK || !slices.Equal(l, want) {
		t.Fatalf("%s: Spans = %v, %d, not %v", what, l, e, want)
	}
	next := 0
	for i, s := range All(a, b) {
		if i != next || i >= len(want) || s != want[i] {
			t.Fatalf("%s: All yields %d, %v", what, i, s)
		}
		next++
	}
	if next != len(want) {
		t.Fatalf("%s: All yields %d spans", what, next)
	}
	if n := Changed(a, b); n != columns {
		t.Fatalf("%s: Changed = %d, not %d", what, n, columns)
	}
}

func TestSpansOfEachRow(t *testing.T) {
	for w, letters := range map[int]string{1: ".abe_", 2: ".abe_WVUM", 3: ".aeWVU", 4: ".bWV", 5: "aWV"} {
		all := pictures(w, letters)
		for _, p := range all {
			for _, q := range all {
				a, b := picture(p, 0, 0, true), picture(q, 0, w-1, false)
				holdSpans(t, p+" to "+q, a, b, readSpans(a, b), readChanged(a, b))
			}
		}
	}
}

func TestSpansOfDice(t *testing.T) {
	d := dice(7)
	for i := range 600 {
		w, rows := 1+d.below(30), 1+d.below(8)
		a := d.frame(w, rows)
		b := d.near(a)
		if i%3 == 0 {
			b = d.frame(w, rows)
		}
		holdSpans(t, "dice", a, b, readSpans(a, b), readChanged(a, b))
		holdSpans(t, "dice, back", b, a, readSpans(a, b), readChanged(a, b))
	}
}

func TestSpansAtTheLimits(t *testing.T) {
	for _, x := range []struct{ w, rows int }{{1, 1}, {500, 1}, {1, 60}, {500, 60}} {
		a, e := Blank(x.w, x.rows)
		if e != api.OK {
			t.Fatalf("Blank(%d, %d): %d", x.w, x.rows, e)
		}
		b := copied(a)
		for row := range b.Rows {
			b.Rows[row] = slices.Repeat(pictureRow("a"), x.w)
		}
		var want []Span
		for row := range x.rows {
			want = append(want, Span{row, 0, x.w})
		}
		holdSpans(t, "all", a, b, want, x.w*x.rows)
		b = copied(a)
		b.Rows[x.rows-1][x.w-1] = drawing['a']
		holdSpans(t, "the last one", a, b, []Span{{x.rows - 1, x.w - 1, x.w}}, 1)
	}
}

// A cursor is none of the columns.
func TestSpansLeaveOutTheCursor(t *testing.T) {
	a := valid()
	for row := range 3 {
		for col := range 4 {
			b := valid()
			b.Row, b.Col, b.Seen = row, col, false
			holdSpans(t, "another cursor", a, b, nil, 0)
		}
	}
}

func TestAllStops(t *testing.T) {
	a, b := picture("....|....|....", 0, 0, true), picture("a.a.|.a.a|a.a.", 0, 0, true)
	spans, _ := Spans(a, b)
	if len(spans) != 6 {
		t.Fatalf("Spans = %v", spans)
	}
	all := All(a, b)
	for stop := range 7 {
		var got []Span
		for i, s := range all {
			if i == stop {
				break
			}
			got = append(got, s)
		}
		if !slices.Equal(got, spans[:stop]) {
			t.Errorf("All, stopped at %d: %v", stop, got)
		}
	}
}

// P10.1: Blank

func TestBlank(t *testing.T) {
	for _, x := range []struct{ w, rows int }{{1, 1}, {500, 60}, {500, 1}, {1, 60}, {499, 59}, {4, 3}} {
		f, e := Blank(x.w, x.rows)
		if e != api.OK || frame.Check(f) != api.OK || len(f.Rows) != x.rows {
			t.Fatalf("Blank(%d, %d): %d rows, %d", x.w, x.rows, len(f.Rows), e)
		}
		if f.Row != 0 || f.Col != 0 || !f.Seen {
			t.Errorf("Blank(%d, %d): the cursor is at %d, %d, %v", x.w, x.rows, f.Row, f.Col, f.Seen)
		}
		for _, cells := range f.Rows {
			if !slices.Equal(cells, slices.Repeat([]api.Cell{{S: " ", W: 1}}, x.w)) {
				t.Fatalf("Blank(%d, %d) has a row %v", x.w, x.rows, cells)
			}
		}
	}
}

func TestBlankRefuses(t *testing.T) {
	bad := []int{math.MinInt, -1 << 32, -1, 0, 501, 1 << 32, 1<<32 + 1, math.MaxInt}
	for _, n := range bad {
		for _, other := range append(bad, 1, 60) {
			holdNoBlank(t, n, other)
			holdNoBlank(t, other, n)
		}
	}
	for _, rows := range []int{61, 62, 100, 500} {
		holdNoBlank(t, 1, rows)
		holdNoBlank(t, 500, rows)
	}
}

func holdNoBlank(t *testing.T, w, rows int) {
	t.Helper()
	f, e := Blank(w, rows)
	if e != api.ErrDiff || f.Rows != nil || f.Row != 0 || f.Col != 0 || f.Seen {
		t.Errorf("Blank(%d, %d) = %v, %d", w, rows, f, e)
	}
}

// P10.1: what is refused

// holdRefused holds all that two frames give against ErrDiff.
func holdRefused(t *testing.T, what string, a, b api.Frame) {
	t.Helper()
	if l, e := Spans(a, b); e != api.ErrDiff || l != nil {
		t.Errorf("%s: Spans = %v, %d", what, l, e)
	}
	if s, e := Diff(a, b); e != api.ErrDiff || s != "" {
		t.Errorf("%s: Diff = %q, %d", what, s, e)
	}
	if n := Changed(a, b); n != 0 {
		t.Errorf("%s: Changed = %d", what, n)
	}
	for i, s := range All(a, b) {
		t.Errorf("%s: All yields %d, %v", what, i, s)
	}
}

func TestNotValid(t *testing.T) {
	if api.ErrDiff != 100 {
		t.Fatal("ErrDiff is not 100")
	}
	other := picture("....|....|....", 0, 0, false)
	for name, f := range notValid() {
		holdRefused(t, name+", first", f, other)
		holdRefused(t, name+", second", other, f)
		holdRefused(t, name+", both", f, f)
		if s, e := Whole(f); e != api.ErrDiff || s != "" {
			t.Errorf("%s: Whole = %q, %d", name, s, e)
		}
	}
	if l, e := Spans(valid(), other); e != api.OK || len(l) == 0 {
		t.Errorf("valid frames: Spans = %v, %d", l, e)
	}
}

func TestOtherSizes(t *testing.T) {
	for _, x := range []struct{ w, rows int }{{3, 3}, {5, 3}, {4, 2}, {4, 4}, {3, 4}, {6, 2}, {12, 1}, {1, 1}, {500, 60}} {
		f, _ := Blank(x.w, x.rows)
		holdRefused(t, "another size, second", valid(), f)
		holdRefused(t, "another size, first", f, valid())
	}
}

// Rule 4: what is given stays as it is, and what is answered is the caller's.

func TestNothingIsShared(t *testing.T) {
	a, b := valid(), picture("Wa.|U..|.e_a", 2, 3, false)
	one, other := copied(a), copied(b)
	spans, _ := Spans(a, b)
	want := slices.Clone(spans)
	all := All(a, b)
	Diff(a, b)
	Whole(a)
	if !frame.Same(a, one) || !frame.Same(b, other) {
		t.Error("a frame that was given has changed")
	}
	for row := range b.Rows {
		copy(b.Rows[row], a.Rows[row])
		clear(a.Rows[row])
	}
	spans[0] = Span{9, 9, 9}
	got := []Span{}
	for _, s := range all {
		got = append(got, s)
	}
	if !slices.Equal(got, want) {
		t.Errorf("All hangs on frames that changed behind it: %v, not %v", got, want)
	}
	f, _ := Blank(4, 3)
	f.Rows[0][0] = drawing['b']
	g, _ := Blank(4, 3)
	if !frame.Same(g, picture("....|....|....", 0, 0, true)) {
		t.Error("a blank frame hangs on another one")
	}
	f.Rows[1][0] = drawing['b']
	if g.Rows[1][0] != drawing['.'] || f.Rows[2][0] != drawing['.'] {
		t.Error("the rows of blank frames are one")
	}
}
