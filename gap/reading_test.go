package gap

import (
	"fmt"
	"slices"
	"strings"
	"testing"

	"placard/api"
	"placard/cluster"
)

// The chapter, read a second time: a row of clusters in which the cursor itself
// stands, as the one item that is no cluster.

const mark = "\a"

type reading struct {
	most int
	row  []string
}

func newReading(most int) reading {
	return reading{most, []string{mark}}
}

func (r reading) cursor() int {
	return slices.Index(r.row, mark)
}

func (r reading) line() []string {
	return slices.DeleteFunc(slices.Clone(r.row), func(s string) bool { return s == mark })
}

// at is where in the row the cluster stands that has an index; -1 for none.
func (r reading) at(index int) int {
	for i, s := range r.row {
		if s == mark {
			continue
		}
		if index == 0 {
			return i
		}
		index--
	}
	return -1
}

func (r *reading) insert(clusters ...string) api.Errno {
	for _, s := range clusters {
		if l := cluster.Cut(s); len(l) != 1 || l[0] != s {
			return 1
		}
	}
	if len(clusters)+len(r.row)-1 > r.most {
		return 3
	}
	r.row = slices.Insert(r.row, r.cursor(), clusters...)
	return 0
}

func (r *reading) move(to int) int {
	line := r.line()
	to = r.clamped(to)
	r.row = slices.Insert(line, to, mark)
	return to
}

func (r reading) clamped(to int) int {
	if to < 0 {
		return 0
	}
	if to > len(r.row)-1 {
		return len(r.row) - 1
	}
	return to
}

// remove takes clusters out of the row, and leaves the cursor where it stands.
func (r *reading) remove(from, to int) []string {
	var gone, left []string
	from, to = r.clamped(from), r.clamped(to)
	index := 0
	for _, s := range r.row {
		out := s != mark && index >= from && index < to
		if s != mark {
			index++
		}
		if out {
			gone = append(gone, s)
		} else {
			left = append(left, s)
		}
	}
	r.row = left
	return gone
}

func (r *reading) replace(index int, s string) api.Errno {
	i := r.at(index)
	if i < 0 || index < 0 {
		return 5
	}
	if !cluster.Is(s) {
		return 1
	}
	r.row[i] = s
	return 0
}

// find looks for the texts in the row behind the cursor, with an end behind each
// item, lest two of them look like one.
func (r reading) find(texts ...string) (int, bool) {
	ends := func(l []string) string {
		var all strings.Builder
		for _, s := range l {
			fmt.Fprintf(&all, "%q\n", s)
		}
		return all.String()
	}
	behind := "\n" + ends(r.row[r.cursor()+1:])
	i := strings.Index(behind, "\n"+ends(texts))
	if i < 0 || len(texts) == 0 {
		return 0, false
	}
	return r.cursor() + strings.Count(behind[:i], "\n"), true
}

func (r reading) clone() reading {
	return reading{r.most, slices.Clone(r.row)}
}

// twin is a buffer beside what it must be.
type twin struct {
	b *Buffer
	r reading
}

func newTwin(t *testing.T, most int) *twin {
	t.Helper()
	b, e := New(most)
	if b == nil || e != api.OK {
		t.Fatalf("New(%d) = %v, %d", most, b, e)
	}
	w := &twin{b, newReading(most)}
	w.hold(t)
	return w
}

func (w *twin) fork() *twin {
	return &twin{w.b.Fork(), w.r.clone()}
}

func (w *twin) String() string {
	if len(w.r.row) > 20 {
		return fmt.Sprintf("%d clusters, the cursor at %d", len(w.r.row)-1, w.r.cursor())
	}
	return fmt.Sprintf("%q of %d", w.r.row, w.r.most)
}

// hold holds all that a buffer tells.
func (w *twin) hold(t *testing.T) {
	t.Helper()
	line := w.r.line()
	if got := w.b.Line(); !slices.Equal(got, line) {
		t.Fatalf("%v: Line = %q", w, got)
	}
	if got := w.b.Text(); got != strings.Join(line, "") {
		t.Errorf("%v: Text = %q", w, got)
	}
	if got := cluster.Cut(w.b.Text()); !slices.Equal(got, line) {
		t.Errorf("%v: the clusters of Text are %q", w, got)
	}
	if got := w.b.Cursor(); got != w.r.cursor() {
		t.Errorf("%v: Cursor = %d", w, got)
	}
	if n, room := w.b.Len(), w.b.Room(); n != len(line) || room != w.r.most-len(line) || room < 0 {
		t.Errorf("%v: Len = %d, Room = %d", w, n, room)
	}
	w.holdWidths(t)
	w.holdAt(t)
	w.holdIterators(t)
	w.holdSlots(t)
}

func (w *twin) holdWidths(t *testing.T) {
	t.Helper()
	var want []int
	for _, s := range w.r.line() {
		want = append(want, cluster.Columns(s))
	}
	if got := w.b.Widths(); !slices.Equal(got, want) {
		t.Errorf("%v: Widths = %v", w, got)
	}
}

func (w *twin) holdAt(t *testing.T) {
	t.Helper()
	for i, want := range w.r.line() {
		if s, ok := w.b.At(i); s != want || !ok {
			t.Errorf("%v: At(%d) = %q, %v", w, i, s, ok)
		}
	}
	for _, i := range outside(len(w.r.line())) {
		if s, ok := w.b.At(i); s != "" || ok {
			t.Errorf("%v: At(%d) = %q, %v", w, i, s, ok)
		}
	}
}

func (w *twin) holdIterators(t *testing.T) {
	t.Helper()
	line, next := w.r.line(), 0
	for i, s := range w.b.All() {
		if i != next || i >= len(line) || s != line[i] {
			t.Errorf("%v: All yields %d, %q", w, i, s)
		}
		next++
	}
	if next != len(line) {
		t.Errorf("%v: All yields %d clusters", w, next)
	}
	next = w.r.cursor()
	for i, s := range w.b.Back() {
		next--
		if i != next || i < 0 || s != line[i] {
			t.Errorf("%v: Back yields %d, %q", w, i, s)
		}
	}
	if next != 0 {
		t.Errorf("%v: Back stops ahead of %d", w, next)
	}
}

// holdSlots holds that nothing is kept that is gone from the line, and no more
// slots than the line may ever fill.
func (w *twin) holdSlots(t *testing.T) {
	t.Helper()
	if len(w.b.all) > w.r.most {
		t.Errorf("%v: %d slots", w, len(w.b.all))
	}
	for _, s := range w.b.all[w.b.from:w.b.to] {
		if s != "" {
			t.Errorf("%v: the gap keeps %q", w, s)
		}
	}
}

// call is something done to a buffer and to its reading; it tells what differs
// in the answers.
type call struct {
	name string
	do   func(w *twin) string
}

func inserting(clusters ...string) call {
	return call{fmt.Sprintf("Insert(%q)", clusters), func(w *twin) string {
		return unlike(w.b.Insert(clusters...), w.r.insert(clusters...))
	}}
}

func moving(to int) call {
	return call{fmt.Sprintf("Move(%d)", to), func(w *twin) string {
		return unlike(w.b.Move(to), w.r.move(to))
	}}
}

func deleting(from, to int) call {
	return call{fmt.Sprintf("Delete(%d, %d)", from, to), func(w *twin) string {
		got, want := w.b.Delete(from, to), w.r.remove(from, to)
		if len(got) != cap(got) {
			return "the answer has spare capacity"
		}
		return unlike(fmt.Sprintf("%q", got), fmt.Sprintf("%q", want))
	}}
}

func replacing(at int, s string) call {
	return call{fmt.Sprintf("Replace(%d, %q)", at, s), func(w *twin) string {
		return unlike(w.b.Replace(at, s), w.r.replace(at, s))
	}}
}

func finding(texts ...string) call {
	return call{fmt.Sprintf("Find(%q)", texts), func(w *twin) string {
		got, ok := w.b.Find(texts...)
		want, wantOK := w.r.find(texts...)
		return unlike([2]any{got, ok}, [2]any{want, wantOK})
	}}
}

func unlike[T comparable](got, want T) string {
	if got == want {
		return ""
	}
	return fmt.Sprint("it answers ", got, ", not ", want)
}

// holdCall holds a call and what it leaves behind.
func (w *twin) holdCall(t *testing.T, c call) {
	t.Helper()
	before := w.String()
	if s := c.do(w); s != "" {
		t.Errorf("%s: %s: %s", before, c.name, s)
	}
	w.hold(t)
	if t.Failed() {
		t.Fatalf("%s: %s", before, c.name)
	}
}

// smallCalls are all calls with indices up to n + 1, and each sort of text.
func smallCalls(n int) []call {
	l := []call{inserting(), inserting("a"), inserting("中"), inserting("a", "中"), inserting("中", "a", "a"),
		inserting(""), inserting("a", "aa"), inserting("\u0301", "a", "a", "a", "a", "a"), inserting("a", "a", "a", "a", "中")}
	for from := -2; from <= n+1; from++ {
		l = append(l, moving(from), replacing(from, "a"), replacing(from, "中"), replacing(from, "a\u0301\u0301b"))
		for to := -2; to <= n+1; to++ {
			l = append(l, deleting(from, to))
		}
	}
	for _, texts := range rowsOf([]string{"a", "中", "a中", ""}, 3) {
		l = append(l, finding(texts...))
	}
	return l
}

// rowsOf returns all rows of up to n items.
func rowsOf(items []string, n int) [][]string {
	all := [][]string{nil}
	for last := all; n > 0; n-- {
		var longer [][]string
		for _, row := range last {
			for _, s := range items {
				longer = append(longer, append(slices.Clone(row), s))
			}
		}
		all = append(all, longer...)
		last = longer
	}
	return all
}

// P12.1 to P12.5: every call in every state that a small buffer can come to,
// wherever its gap is and however wide.
func TestEveryState(t *testing.T) {
	for most := 1; most <= 4; most++ {
		calls := smallCalls(most)
		first := newTwin(t, most)
		seen := map[string]bool{first.key(): true}
		for open := []*twin{first}; len(open) > 0; open = open[1:] {
			for _, c := range calls {
				w := open[0].fork()
				w.holdCall(t, c)
				if key := w.key(); !seen[key] {
					seen[key] = true
					open = append(open, w)
				}
			}
			open[0].hold(t)
		}
		// All lines of two sorts of clusters, with all their cursors.
		if want := most<<(most+1) + 1; len(seen) < want {
			t.Errorf("of %d states only %d were come to", want, len(seen))
		}
	}
}

// key tells a buffer's slots.
func (w *twin) key() string {
	return fmt.Sprintf("%q %d %d", w.b.all, w.b.from, w.b.to)
}

// dice yields numbers that are the same in each run.
type dice uint64

func (d *dice) below(n int) int {
	*d = *d*6364136223846793005 + 1442695040888963407
	return int(uint64(*d) >> 33 % uint64(n))
}

// text returns a cluster, or now and then what is none.
func (d *dice) text() string {
	if d.below(60) == 0 {
		return []string{"", "ab", "\u0301", "\n", "a\n", "\xff", "a\xff", "中中", "a" + strings.Repeat("\u0301", 32)}[d.below(9)]
	}
	return []string{"a", "b", "é", "e\u0301", "中", "한\u0301", "\ufffd", "a" + strings.Repeat("\u0301", 31)}[d.below(8)]
}

func (d *dice) texts(most int) []string {
	var l []string
	for range d.below(most + 1) {
		l = append(l, d.text())
	}
	return l
}

// call returns one that a line of n clusters may meet; those that make it longer
// are as likely as those that make it shorter.
func (d *dice) call(n int) call {
	index := func() int { return d.below(n+5) - 2 }
	switch d.below(9) {
	case 0, 1:
		return moving(index())
	case 2:
		from := index()
		return deleting(from, from+d.below(5))
	case 3:
		if d.below(20) == 0 {
			return deleting(index(), index())
		}
		return replacing(index(), d.text())
	case 4, 5:
		return finding(d.texts(3)...)
	}
	return inserting(d.texts(2)...)
}

// P12.1 to P12.5: long rows of calls.
func TestWalks(t *testing.T) {
	d := dice(1)
	for _, most := range []int{1, 2, 3, 5, 8, 13, 40, 100, 4096} {
		w := newTwin(t, most)
		for range 3000 {
			if d.below(200) == 0 {
				old := w
				w = w.fork()
				old.hold(t)
			}
			w.holdCall(t, d.call(w.b.Len()))
		}
	}
}

// P12.6: what is deleted is inserted again where it was.
func TestInverse(t *testing.T) {
	d := dice(2)
	for range 4000 {
		b, _ := New(20)
		for range 6 {
			b.Insert(d.texts(6)...)
			b.Move(d.below(20))
		}
		line := b.Line()
		from := d.below(b.Len() + 1)
		to := from + d.below(b.Len()-from+1)
		gone := b.Delete(from, to)
		b.Move(from)
		if e := b.Insert(gone...); e != api.OK || !slices.Equal(b.Line(), line) || b.Cursor() != to {
			t.Fatalf("%q: Delete(%d, %d), and inserted again: %d, %q", line, from, to, e, b.Line())
		}
		for to := -1; to <= len(line)+1; to++ {
			b.Move(to)
			if !slices.Equal(b.Line(), line) {
				t.Fatalf("%q: Move(%d) made %q of it", line, to, b.Line())
			}
		}
	}
}
