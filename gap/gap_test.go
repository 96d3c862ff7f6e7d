package gap

import (
	"iter"
	"math"
	"slices"
	"strings"
	"testing"

	"placard/api"
)

// outside returns numbers that are no index into n items.
func outside(n int) []int {
	return []int{math.MinInt, -1 << 32, -1<<32 + 1, -2, -1, n, n + 1, n + 2, 1 << 32, 1<<32 + 1, math.MaxInt}
}

// filled returns a buffer of a text of one byte a cluster, with the cursor at a
// place.
func filled(t *testing.T, most int, text string, cursor int) *Buffer {
	t.Helper()
	b, e := New(most)
	if e != api.OK {
		t.Fatalf("New(%d): %d", most, e)
	}
	if e := b.Insert(strings.Split(text, "")...); text != "" && e != api.OK {
		t.Fatalf("Insert of %q: %d", text, e)
	}
	b.Move(cursor)
	return b
}

// is holds a buffer's line and cursor.
func is(t *testing.T, b *Buffer, text string, cursor int) {
	t.Helper()
	if b.Text() != text || b.Cursor() != cursor {
		t.Errorf("it is %q with the cursor at %d, not %q and %d", b.Text(), b.Cursor(), text, cursor)
	}
}

// P12.1

func TestNew(t *testing.T) {
	if api.ErrGap != 120 || api.MaxLine != 4096 {
		t.Fatal("the chapter has other numbers")
	}
	for _, most := range []int{1, 2, 3, 4095, 4096} {
		w := newTwin(t, most)
		for range 2 {
			w.holdCall(t, inserting("a"))
		}
	}
	for _, most := range []int{math.MinInt, -4096, -1, 0, 4097, 4098, 1 << 32, 1<<32 + 1, math.MaxInt} {
		if b, e := New(most); b != nil || e != api.ErrGap {
			t.Errorf("New(%d) = %v, %d", most, b, e)
		}
	}
}

// The chapter's example.
func TestExample(t *testing.T) {
	b, _ := New(3)
	b.Insert("a", "b")
	b.Move(1)
	b.Insert("c")
	is(t, b, "acb", 2)
	if e := b.Insert("d"); e != api.ErrMany {
		t.Errorf("Insert of a fourth one: %d", e)
	}
	is(t, b, "acb", 2)
	if gone := b.Delete(0, 2); !slices.Equal(gone, []string{"a", "c"}) {
		t.Errorf("Delete(0, 2) = %q", gone)
	}
	is(t, b, "b", 0)
}

// notClusters are texts that are none, each for a reason of its own.
func notClusters() []string {
	return []string{
		"", "ab", " a", "a ", "中a", "中中", "\u0301", "\u0301a", "e\u0301e", "\x00", "\n", "\t", "\x7f", "\u009f",
		"a\n", "\na", "a\x00", "\xff", "a\xff", "\xe4\xb8", "中\xb8", "\xed\xa0\x80", "\xf4\x90\x80\x80", "\xc0\x80",
		"a" + strings.Repeat("\u0301", 32), "中" + strings.Repeat("\u0301", 31), strings.Repeat("a", 5000),
	}
}

// someClusters are clusters of each sort, and of the greatest size.
func someClusters() []string {
	return []string{
		"a", " ", "é", "e\u0301", "e\u0301\u0302", "\ufffd", "中", "中\u0301", "\U0001F600", "한", "~",
		"é" + strings.Repeat("\u0301", 31), "中" + strings.Repeat("\u0301", 30), "a" + strings.Repeat("\u0301", 31),
	}
}

func TestInsertClusters(t *testing.T) {
	w := newTwin(t, 100)
	for _, s := range someClusters() {
		w.holdCall(t, inserting(s))
		w.holdCall(t, inserting(s, s))
		w.holdCall(t, moving(w.b.Len()/2))
	}
	w = newTwin(t, 14)
	w.holdCall(t, inserting(someClusters()...))
	if n, columns := w.b.Len(), 0; n != 14 {
		t.Errorf("there are %d clusters", n)
	} else {
		for _, one := range w.b.Widths() {
			columns += one
		}
		if columns != 19 {
			t.Errorf("they take %d columns", columns)
		}
	}
}

// A text that is no cluster is refused, wherever it stands among others, and
// also where there would be too many; then nothing is inserted.
func TestInsertRefuses(t *testing.T) {
	for _, s := range notClusters() {
		for _, clusters := range [][]string{
			{s}, {s, "a"}, {"a", s}, {"a", s, "b"}, {"a", "b", "c", s}, {"a", "b", "c", "d", s}, {s, "a", "b", "c", "d", "e"},
		} {
			b := filled(t, 5, "xy", 1)
			if e := b.Insert(clusters...); e != api.ErrArg {
				t.Errorf("Insert(%.40q) = %d", clusters, e)
			}
			is(t, b, "xy", 1)
		}
	}
	for n, text := range []string{"", "x", "xy", "xyz"} {
		b := filled(t, 3, text, n/2)
		tooMany := strings.Split(strings.Repeat("a", 4-n), "")
		if e := b.Insert(tooMany...); e != api.ErrMany {
			t.Errorf("Insert of %d behind %d of 3: %d", len(tooMany), n, e)
		}
		is(t, b, text, n/2)
		if e := b.Insert(tooMany[1:]...); e != api.OK {
			t.Errorf("Insert of %d behind %d of 3: %d", len(tooMany)-1, n, e)
		}
		is(t, b, text[:n/2]+strings.Repeat("a", 3-n)+text[n/2:], n/2+3-n)
	}
	b := filled(t, 1, "x", 1)
	if e := b.Insert(); e != api.OK {
		t.Errorf("Insert of nothing into a full line: %d", e)
	}
	if e := b.Insert(make([]string, 1<<20)...); e != api.ErrArg {
		t.Errorf("Insert of a million empty texts: %d", e)
	}
	if e := b.Insert(slices.Repeat([]string{"a"}, 1<<20)...); e != api.ErrMany {
		t.Errorf("Insert of a million clusters: %d", e)
	}
	is(t, b, "x", 1)
}

func TestReplace(t *testing.T) {
	for cursor := range 4 {
		for at := range 3 {
			for _, s := range someClusters() {
				b := filled(t, 3, "xyz", cursor)
				if e := b.Replace(at, s); e != api.OK {
					t.Errorf("Replace(%d, %q) = %d", at, s, e)
				}
				is(t, b, "xyz"[:at]+s+"xyz"[at+1:], cursor)
			}
			for _, s := range notClusters() {
				b := filled(t, 3, "xyz", cursor)
				if e := b.Replace(at, s); e != api.ErrArg {
					t.Errorf("Replace(%d, %.40q) = %d", at, s, e)
				}
				is(t, b, "xyz", cursor)
			}
		}
	}
}

// An index where there is no cluster is told first.
func TestReplaceNowhere(t *testing.T) {
	for n, text := range []string{"", "x", "xy"} {
		for _, at := range outside(n) {
			for _, s := range []string{"a", "", "ab", "\xff"} {
				b := filled(t, 5, text, 1)
				if e := b.Replace(at, s); e != api.ErrRange {
					t.Errorf("%q: Replace(%d, %q) = %d", text, at, s, e)
				}
				is(t, b, text, min(1, n))
			}
		}
	}
}

// P12.2

func TestMove(t *testing.T) {
	for _, c := range []struct{ to, want int }{
		{math.MinInt, 0}, {-1 << 32, 0}, {-1, 0}, {0, 0}, {1, 1}, {2, 2}, {3, 3}, {4, 3}, {5, 3}, {6, 3}, {1 << 32, 3}, {1<<32 + 1, 3}, {math.MaxInt, 3},
	} {
		for cursor := range 4 {
			b := filled(t, 5, "xyz", cursor)
			if got := b.Move(c.to); got != c.want {
				t.Errorf("Move(%d) from %d = %d", c.to, cursor, got)
			}
			is(t, b, "xyz", c.want)
		}
	}
	b, _ := New(5)
	for _, to := range []int{math.MinInt, -1, 0, 1, 5, math.MaxInt} {
		if got := b.Move(to); got != 0 {
			t.Errorf("Move(%d) in an empty line = %d", to, got)
		}
	}
}

func TestDelete(t *testing.T) {
	for _, c := range []struct {
		from, to, cursor int
		gone, left       string
		then             int
	}{
		{1, 3, 0, "bc", "ade", 0},
		{1, 3, 1, "bc", "ade", 1},
		{1, 3, 2, "bc", "ade", 1},
		{1, 3, 3, "bc", "ade", 1},
		{1, 3, 4, "bc", "ade", 2},
		{1, 3, 5, "bc", "ade", 3},
		{0, 5, 3, "abcde", "", 0},
		{math.MinInt, math.MaxInt, 5, "abcde", "", 0},
		{-1, 1, 5, "a", "bcde", 4},
		{-3, 2, 1, "ab", "cde", 0},
		{4, 6, 5, "e", "abcd", 4},
		{4, math.MaxInt, 0, "e", "abcd", 0},
		{2, 2, 1, "", "abcde", 1},
		{3, 1, 4, "", "abcde", 4},
		{5, 9, 5, "", "abcde", 5},
		{6, 9, 2, "", "abcde", 2},
		{-9, -1, 2, "", "abcde", 2},
		{-9, 0, 2, "", "abcde", 2},
		{math.MaxInt, math.MinInt, 2, "", "abcde", 2},
		{math.MaxInt, math.MaxInt, 2, "", "abcde", 2},
		{math.MinInt, math.MinInt, 2, "", "abcde", 2},
	} {
		b := filled(t, 7, "abcde", c.cursor)
		if got := b.Delete(c.from, c.to); strings.Join(got, "") != c.gone || len(got) != len(c.gone) {
			t.Errorf("Delete(%d, %d) = %q, not %q", c.from, c.to, got, c.gone)
		}
		is(t, b, c.left, c.then)
		if n, room := b.Len(), b.Room(); n != len(c.left) || room != 7-n {
			t.Errorf("behind Delete(%d, %d): Len %d, Room %d", c.from, c.to, n, room)
		}
	}
}

// P12.1 to P12.3 at the greatest line.
func TestLongest(t *testing.T) {
	w := newTwin(t, api.MaxLine)
	greatest := "中" + strings.Repeat("\u0301", 30) // 63 bytes: another mark would be one too many
	w.holdCall(t, inserting(slices.Repeat([]string{"a"}, 4095)...))
	w.holdCall(t, moving(1000))
	w.holdCall(t, inserting("b", "c"))
	w.holdCall(t, inserting(greatest))
	w.holdCall(t, inserting("d"))
	w.holdCall(t, moving(math.MaxInt))
	w.holdCall(t, finding("d"))
	w.holdCall(t, replacing(4095, "b"))
	w.holdCall(t, replacing(4096, "b"))
	w.holdCall(t, deleting(4094, 4097))
	w.holdCall(t, inserting("e", "f", "g"))
	w.holdCall(t, inserting("e", "f"))
	w.holdCall(t, deleting(1, 4095))
	w.holdCall(t, moving(0))
	w.holdCall(t, inserting(slices.Repeat([]string{greatest}, 4094)...))
	w.holdCall(t, finding("f"))
	w.holdCall(t, deleting(math.MinInt, math.MaxInt))
	w.holdCall(t, inserting("a"))
}

// One cluster at a time, at each place.
func TestTyping(t *testing.T) {
	for _, at := range []func(n int) int{
		func(n int) int { return n },
		func(n int) int { return 0 },
		func(n int) int { return n / 2 },
	} {
		w := newTwin(t, 300)
		for n := range 302 {
			w.holdCall(t, moving(at(n)))
			w.holdCall(t, inserting(string(rune('a'+n%26))))
		}
		for n := 300; n >= 0; n-- {
			w.holdCall(t, deleting(at(n), at(n)+1))
		}
	}
}

// P12.4

// The iterators yield what stood there when the ranging began, whatever is done
// meanwhile; the next time they yield what stands there then.
func TestIteratorsBegin(t *testing.T) {
	for cursor := range 5 {
		b := filled(t, 8, "abcd", cursor)
		all, back := b.All(), b.Back()
		b.Replace(0, "x")
		meddle := func() { b.Delete(0, 2); b.Insert("y"); b.Move(0); b.Replace(0, "z") }
		if got := yielded(all, meddle); got != "0x1b2c3d" {
			t.Errorf("All yields %s", got)
		}
		b.Delete(0, 8)
		b.Insert("p", "q", "r", "s")
		b.Move(cursor)
		if got := yielded(back, meddle); got != "3s2r1q0p"[2*(4-cursor):] {
			t.Errorf("Back from %d yields %s", cursor, got)
		}
		b.Delete(0, 8)
		if got := yielded(all, nil) + yielded(back, nil); got != "" {
			t.Errorf("the iterators of an empty line yield %s", got)
		}
		b.Insert("t")
		if got := yielded(all, nil) + yielded(back, nil) + yielded(all, nil); got != "0t0t0t" {
			t.Errorf("the iterators yield %s", got)
		}
	}
}

// yielded writes what an iterator yields while something is done.
func yielded(seq iter.Seq2[int, string], meanwhile func()) string {
	var all strings.Builder
	for i, s := range seq {
		all.WriteString(string(rune('0'+i)) + s)
		if meanwhile != nil {
			meanwhile()
		}
	}
	return all.String()
}

func TestIteratorsStop(t *testing.T) {
	b := filled(t, 8, "abcde", 4)
	for stop := 1; stop <= 4; stop++ {
		for _, seq := range []iter.Seq2[int, string]{b.All(), b.Back()} {
			n := 0
			seq(func(int, string) bool {
				n++
				return n < stop
			})
			if n != stop {
				t.Errorf("an iterator that is stopped behind %d yields %d", stop, n)
			}
		}
	}
}

func TestFind(t *testing.T) {
	for _, c := range []struct {
		cursor int
		texts  []string
		want   int
		ok     bool
	}{
		{0, nil, 0, false},
		{0, []string{"a"}, 0, true},
		{0, []string{"a", "b", "a", "b", "c"}, 0, true},
		{0, []string{"a", "b", "a", "b", "c", "a"}, 0, false},
		{0, []string{"a", "b", "c"}, 2, true},
		{0, []string{"b"}, 1, true},
		{1, []string{"a"}, 2, true},
		{1, []string{"a", "b", "a"}, 0, false},
		{2, []string{"b"}, 3, true},
		{3, []string{"a"}, 0, false},
		{4, []string{"c"}, 4, true},
		{4, []string{"c", "a"}, 0, false},
		{5, []string{"c"}, 0, false},
		{5, nil, 0, false},
		{0, []string{""}, 0, false},
		{0, []string{"ab"}, 0, false},
		{0, []string{"a", ""}, 0, false},
		{0, []string{"", "a"}, 0, false},
		{0, []string{"A"}, 0, false},
		{0, []string{"a\u0301"}, 0, false},
		{0, []string{"\xff"}, 0, false},
		{0, make([]string, 1<<20), 0, false},
		{0, append([]string{"a", "b", "a", "b", "c"}, make([]string, 1<<20)...), 0, false},
	} {
		b := filled(t, 5, "ababc", c.cursor)
		if got, ok := b.Find(c.texts...); got != c.want || ok != c.ok {
			t.Errorf("Find(%.40q) from %d = %d, %v", c.texts[:min(6, len(c.texts))], c.cursor, got, ok)
		}
		is(t, b, "ababc", c.cursor)
	}
}

// Find tells clusters as wholes: a base is not its cluster, and two encodings
// that look the same are two.
func TestFindWholes(t *testing.T) {
	b, _ := New(9)
	b.Insert("e\u0301", "é", "e", "中", "中\u0301")
	b.Move(0)
	for i, s := range b.Line() {
		if got, ok := b.Find(s); got != i || !ok {
			t.Errorf("Find(%q) = %d, %v", s, got, ok)
		}
	}
}

// A copy and what it was made of go their own ways.
func TestFork(t *testing.T) {
	for cursor := range 4 {
		b := filled(t, 5, "abc", cursor)
		f := b.Fork()
		is(t, f, "abc", cursor)
		if f.Room() != 2 || f.Len() != 3 {
			t.Errorf("of a copy, Room is %d and Len %d", f.Room(), f.Len())
		}
		b.Replace(0, "x")
		b.Insert("y", "z")
		b.Delete(2, 4)
		is(t, f, "abc", cursor)
		was, at := b.Text(), b.Cursor()
		f.Insert("p")
		f.Replace(1, "q")
		f.Delete(2, 9)
		f.Move(0)
		is(t, b, was, at)
		if e := f.Insert("p", "q", "r", "s"); e != api.ErrMany {
			t.Errorf("a copy takes more than most: %d", e)
		}
		g := f.Fork().Fork()
		g.Delete(0, 9)
		if f.Len() != 2 || g.Len() != 0 {
			t.Errorf("of a copy of a copy: %d and %d", f.Len(), g.Len())
		}
	}
}

// General rule 4: nothing is shared with arguments and answers.
func TestNothingShared(t *testing.T) {
	b, _ := New(9)
	given := []string{"a", "b", "c", "d"}
	b.Insert(given...)
	given[0] = "x"
	is(t, b, "abcd", 4)
	line, widths := b.Line(), b.Widths()
	line[1], widths[1] = "y", 7
	_ = append(line, "more")
	is(t, b, "abcd", 4)
	if !slices.Equal(b.Widths(), []int{1, 1, 1, 1}) {
		t.Errorf("Widths = %v", b.Widths())
	}
	gone := b.Delete(0, 2)
	b.Insert("p", "q", "r")
	if !slices.Equal(gone, []string{"a", "b"}) {
		t.Errorf("what was deleted is %q now", gone)
	}
	if len(gone) != cap(gone) {
		t.Errorf("what was deleted has a capacity of %d", cap(gone))
	}
	was := b.Text()
	gone[0], gone[1] = "z", "z"
	_ = append(gone, "more", "more")
	is(t, b, was, b.Cursor())
	find := []string{"c", "d"}
	b.Find(find...)
	if !slices.Equal(find, []string{"c", "d"}) || !slices.Equal(given, []string{"x", "b", "c", "d"}) {
		t.Errorf("arguments were changed to %q and %q", find, given)
	}
}

// What is no buffer: nil, composed, or copied from one that was made.
func TestInvalid(t *testing.T) {
	made := filled(t, 5, "abc", 1)
	copied := *made
	forked := *made.Fork()
	type composed struct{ Buffer }
	inside := composed{*made}
	for name, b := range map[string]*Buffer{
		"nil": nil, "zero": {}, "a copy": &copied, "a copy of a copy": &forked, "a part": &inside.Buffer,
	} {
		holdInvalid(t, name, b)
	}
	is(t, made, "abc", 1)
}

func holdInvalid(t *testing.T, name string, b *Buffer) {
	t.Helper()
	for _, clusters := range [][]string{nil, {"a"}, {""}, {"a", "b", "c", "d", "e", "f"}} {
		if e := b.Insert(clusters...); e != api.ErrNil {
			t.Errorf("%s: Insert(%q) = %d", name, clusters, e)
		}
	}
	for _, at := range []int{-1, 0, 1, 9} {
		for _, s := range []string{"a", ""} {
			if e := b.Replace(at, s); e != api.ErrNil {
				t.Errorf("%s: Replace(%d, %q) = %d", name, at, s, e)
			}
		}
		if s, ok := b.At(at); s != "" || ok {
			t.Errorf("%s: At(%d) = %q, %v", name, at, s, ok)
		}
		if n, gone := b.Move(at), b.Delete(0, at); n != 0 || len(gone) != 0 {
			t.Errorf("%s: Move and Delete answer %d and %q", name, n, gone)
		}
	}
	if b.Text() != "" || len(b.Line()) != 0 || len(b.Widths()) != 0 {
		t.Errorf("%s: it has a line", name)
	}
	if b.Cursor() != 0 || b.Len() != 0 || b.Room() != 0 || b.Fork() != nil {
		t.Errorf("%s: %d, %d, %d, %v", name, b.Cursor(), b.Len(), b.Room(), b.Fork())
	}
	if b.All() == nil || b.Back() == nil || yielded(b.All(), nil)+yielded(b.Back(), nil) != "" {
		t.Errorf("%s: the iterators yield something", name)
	}
	for _, texts := range [][]string{nil, {"a"}, {"b"}, {""}} {
		if i, ok := b.Find(texts...); i != 0 || ok {
			t.Errorf("%s: Find(%q) = %d, %v", name, texts, i, ok)
		}
	}
}
