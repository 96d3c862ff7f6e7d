package editor

import (
	"fmt"
	"slices"
	"strings"
	"testing"
	"unicode/utf8"

	"placard/api"
	"placard/cluster"
	"placard/width"
)

// The chapter, read a second time: a line is what is left and what is right of
// the cursor, every call makes a new one of it, and what is noted are lines.

type split struct {
	left, right []string
}

func (s split) all() []string {
	return slices.Concat(s.left, s.right)
}

func (s split) text() string {
	return strings.Join(s.all(), "")
}

// at splits the same clusters elsewhere.
func (s split) at(n int) split {
	all := s.all()
	return split{all[:n:n], all[n:]}
}

func (s split) String() string {
	return strings.Join(s.left, "") + "|" + strings.Join(s.right, "")
}

type reading struct {
	most int
	split
	kills []string
	past  []split // the most recent one last
	// What the last call did: it killed; or it yanked, which kill, and how the
	// line would be without it.
	killed, yanked bool
	which          int
	without        split
}

// sorts writes a w for each cluster that belongs to a word, and a point for each
// other one.
func sorts(clusters []string) string {
	var all strings.Builder
	for _, c := range clusters {
		if strings.IndexByte("0123456789ABCDEFGHIJKLMNOPQRSTUVWXYZabcdefghijklmnopqrstuvwxyz", c[0]) >= 0 || c[0] > 127 {
			all.WriteByte('w')
		} else {
			all.WriteByte('.')
		}
	}
	return all.String()
}

func (r reading) wordLeft() int {
	return len(strings.TrimRight(strings.TrimRight(sorts(r.left), "."), "w"))
}

func (r reading) wordRight() int {
	return len(r.all()) - len(strings.TrimLeft(strings.TrimLeft(sorts(r.right), "."), "w"))
}

// become takes another line, and notes the one before if it was another one.
func (r *reading) become(s split) bool {
	changed := s.text() != r.text()
	if changed {
		r.past = append(slices.Clone(r.past), r.split)
		r.past = r.past[max(0, len(r.past)-64):]
	}
	r.split = s
	return changed
}

func (r *reading) forget() {
	r.killed, r.yanked, r.which, r.without = false, false, 0, split{}
}

func (r *reading) insert(s string) bool {
	r.forget()
	left := slices.Clone(r.left)
	for _, c := range s {
		if width.Of(c) > 0 {
			break
		}
		if n := len(left); n > 0 && width.Mark(c) && len(left[n-1])+utf8.RuneLen(c) <= 64 {
			left[n-1] += string(c)
		}
	}
	left = append(left, cluster.Cut(cluster.Flat(s))...)
	if len(left)+len(r.right) > r.most {
		return false
	}
	return r.become(split{left, r.right})
}

func (r *reading) set(s string) bool {
	r.forget()
	l := cluster.Cut(cluster.Flat(s))
	if len(l) > r.most {
		l = l[:r.most]
	}
	return strings.Join(l, "") != r.text() && r.become(split{l, nil})
}

// moveTo moves the cursor, if there is such a place.
func (r *reading) moveTo(to int) bool {
	if to < 0 || to > len(r.all()) || to == len(r.left) {
		return false
	}
	r.split = r.at(to)
	return true
}

func (r *reading) do(a api.Act) bool {
	old := *r
	r.forget()
	l, n, all := len(r.left), len(r.all()), r.all()
	switch a {
	case 1:
		return r.moveTo(l - 1)
	case 2:
		return r.moveTo(l + 1)
	case 3:
		return r.moveTo(r.wordLeft())
	case 4:
		return r.moveTo(r.wordRight())
	case 5:
		return r.moveTo(0)
	case 6:
		return r.moveTo(n)
	case 7:
		return l > 0 && r.become(split{r.left[:l-1], r.right})
	case 8:
		return l < n && r.become(split{r.left, r.right[1:]})
	case 9, 11:
		return r.killRight(map[api.Act]int{9: n, 11: r.wordRight()}[a]-l, old.killed)
	case 10, 12:
		return r.killLeft(map[api.Act]int{10: 0, 12: r.wordLeft()}[a], old.killed)
	case 13:
		return len(r.kills) > 0 && r.yank(r.split, 0)
	case 14:
		return old.yanked && len(r.kills) > 1 && r.yank(old.without, (old.which+1)%len(r.kills))
	case 15:
		return r.undo()
	case 16:
		if l == 0 || n < 2 {
			return false
		}
		if l == n {
			l--
		}
		all[l-1], all[l] = all[l], all[l-1]
		r.become(split{all, nil}.at(l + 1))
		return true
	case 17:
		return r.become(split{})
	}
	return false
}

func (r *reading) killRight(n int, more bool) bool {
	gone := strings.Join(r.right[:n], "")
	if more && gone != "" {
		r.kills = append([]string{r.kills[0] + gone}, r.kills[1:]...)
	}
	return r.killedOf(gone, more, split{r.left, r.right[n:]})
}

func (r *reading) killLeft(from int, more bool) bool {
	gone := strings.Join(r.left[from:], "")
	if more && gone != "" {
		r.kills = append([]string{gone + r.kills[0]}, r.kills[1:]...)
	}
	return r.killedOf(gone, more, split{r.left[:from], r.right})
}

func (r *reading) killedOf(gone string, more bool, s split) bool {
	if gone == "" {
		return false
	}
	if !more {
		r.kills = append([]string{gone}, r.kills[:min(15, len(r.kills))]...)
	}
	r.killed = true
	return r.become(s)
}

// yank makes a line of one without what was yanked.
func (r *reading) yank(without split, which int) bool {
	l := cluster.Cut(r.kills[which])
	if len(l)+len(without.all()) > r.most {
		return false
	}
	r.become(split{slices.Concat(without.left, l), without.right})
	r.yanked, r.which, r.without = true, which, without
	return true
}

func (r *reading) undo() bool {
	if len(r.past) == 0 {
		return false
	}
	r.split = r.past[len(r.past)-1]
	r.past = r.past[:len(r.past)-1]
	return true
}

// twin is an editor beside what it must be.
type twin struct {
	e *Editor
	r reading
}

func newTwin(t *testing.T, most int) *twin {
	t.Helper()
	e, f := New(most)
	if e == nil || f != api.OK {
		t.Fatalf("New(%d) = %v, %d", most, e, f)
	}
	w := &twin{e, reading{most: most}}
	w.hold(t)
	return w
}

// fork needs no clone of the reading, which never writes into its lists.
func (w *twin) fork() *twin {
	return &twin{w.e.Fork(), w.r}
}

func (w *twin) String() string {
	if n := len(w.r.all()); n > 60 {
		return fmt.Sprintf("%d clusters, the cursor at %d", n, len(w.r.left))
	}
	return fmt.Sprintf("%q of %d, kills %q, undo list %q", w.r.split, w.r.most, w.r.kills, w.r.past)
}

// hold holds all that an editor tells.
func (w *twin) hold(t *testing.T) {
	t.Helper()
	line := w.r.all()
	if got := w.e.Line(); !slices.Equal(got, line) {
		t.Fatalf("%v: Line = %q", w, got)
	}
	if got := w.e.Text(); got != w.r.text() {
		t.Errorf("%v: Text = %q", w, got)
	}
	if cursor, n := w.e.Cursor(), w.e.Len(); cursor != len(w.r.left) || n != len(line) || n > w.r.most {
		t.Errorf("%v: Cursor = %d, Len = %d", w, cursor, n)
	}
	if got := w.e.Kills(); !slices.Equal(got, w.r.kills) || len(got) > api.MaxKill {
		t.Errorf("%v: Kills = %q", w, got)
	}
	widths := w.e.Widths()
	if len(widths) != len(line) {
		t.Fatalf("%v: Widths = %v", w, widths)
	}
	for i, c := range line {
		if widths[i] != cluster.Width(c) {
			t.Errorf("%v: %q is %d wide", w, c, widths[i])
		}
	}
	n := len(w.r.past)
	if got := w.e.Undos(); got != n || got > api.MaxUndo {
		t.Errorf("%v: Undos = %d", w, got)
	}
	for i := -1; i <= n; i++ {
		want := ""
		if i >= 0 && i < n {
			want = w.r.past[n-1-i].text()
		}
		if got := w.e.Before(i); got != want {
			t.Errorf("%v: Before(%d) = %q, not %q", w, i, got, want)
		}
	}
}

// call is something done to an editor and to its reading.
type call struct {
	name     string
	do, must func(w *twin) bool
}

func inserting(s string) call {
	return call{fmt.Sprintf("Insert(%q)", s), func(w *twin) bool { return w.e.Insert(s) }, func(w *twin) bool { return w.r.insert(s) }}
}

func setting(s string) call {
	return call{fmt.Sprintf("Set(%q)", s), func(w *twin) bool { return w.e.Set(s) }, func(w *twin) bool { return w.r.set(s) }}
}

func doing(a api.Act) call {
	return call{fmt.Sprintf("Do(%d)", a), func(w *twin) bool { return w.e.Do(a) }, func(w *twin) bool { return w.r.do(a) }}
}

// holdCall holds a call and what it leaves behind; P13.5: one that returns false
// leaves the line and the cursor.
func (w *twin) holdCall(t *testing.T, c call) bool {
	t.Helper()
	before, text, cursor := w.String(), w.e.Text(), w.e.Cursor()
	got, want := c.do(w), c.must(w)
	if got != want {
		t.Errorf("%s: %s = %v", before, c.name, got)
	}
	if !got && (w.e.Text() != text || w.e.Cursor() != cursor) {
		t.Errorf("%s: %s is refused and changes it", before, c.name)
	}
	w.hold(t)
	if t.Failed() {
		t.Fatalf("%s: %.200s", before, c.name)
	}
	return got
}

// smallCalls are all actions, and texts of each sort.
func smallCalls() []call {
	var l []call
	for a := api.NoAct; a <= api.Newer+1; a++ {
		l = append(l, doing(a))
	}
	return append(l, inserting("a"), inserting("\u0301"), inserting(" \tb"), setting("a b"))
}

// P13.1 to P13.5: every row of three calls, behind each of some.
func TestEveryRow(t *testing.T) {
	calls := smallCalls()
	var follow func(w *twin, n int)
	follow = func(w *twin, n int) {
		for _, c := range calls {
			next := w.fork()
			next.holdCall(t, c)
			if n > 1 {
				follow(next, n-1)
			}
		}
	}
	for _, first := range [][]call{
		{},
		{setting("a b"), doing(api.GoLeft)},
		{setting("aa  bb"), doing(api.WordLeft), doing(api.GoLeft)},
		{setting("cd ef"), doing(api.KillBack), doing(api.GoLeft), doing(api.KillHome)},
		{setting("ab"), doing(api.KillEnd), doing(api.KillHome), setting("a"), doing(api.KillBack), doing(api.Yank)},
		{setting("cd"), doing(api.KillHome), setting("cd"), doing(api.KillBack), setting("e"), doing(api.KillHome)},
	} {
		for most := 3; most <= 7; most += 2 {
			w := newTwin(t, most)
			for _, c := range first {
				w.holdCall(t, c)
			}
			follow(w, 3)
			w.hold(t)
		}
	}
}

// dice yields numbers that are the same in each run.
type dice uint64

func (d *dice) below(n int) int {
	*d = *d*6364136223846793005 + 1442695040888963407
	return int(uint64(*d) >> 33 % uint64(n))
}

// text returns what may be typed or pasted.
func (d *dice) text(most int) string {
	pieces := []string{
		"a", "B", "9", " ", " ", "-", "é", "中", "한", "e\u0301", "\u0301", "\u0302", "\u20d0", "\U000e0100",
		"\t", "\n", "\r", "\x00", "\x1b", "\u0085", "\xff", "\xe4\xb8", "\xed\xa0\x80", "\ufffd", strings.Repeat("\u0303", 29),
	}
	var all strings.Builder
	for range d.below(most + 1) {
		all.WriteString(pieces[d.below(len(pieces))])
	}
	return all.String()
}

// call returns one; those that make the line longer are about as likely as those
// that make it shorter.
func (d *dice) call() call {
	switch d.below(12) {
	case 0, 1, 2, 3:
		return inserting(d.text(6))
	case 4:
		if d.below(8) == 0 {
			return setting(d.text(30))
		}
		return inserting("a b")
	case 5, 6:
		return doing([]api.Act{api.KillEnd, api.KillWord, api.KillBack, api.KillHome}[d.below(4)])
	case 7, 8:
		return doing([]api.Act{api.Yank, api.YankPop, api.YankPop, api.Undo}[d.below(4)])
	}
	return doing(api.Act(d.below(22) - 1))
}

// P13.1 to P13.5: long rows of calls.
func TestWalks(t *testing.T) {
	d := dice(1)
	for _, most := range []int{1, 2, 3, 5, 8, 13, 40, 100, 4096} {
		w := newTwin(t, most)
		for range 4000 {
			if d.below(200) == 0 {
				old := w
				w = w.fork()
				old.hold(t)
			}
			w.holdCall(t, d.call())
		}
	}
}

// P13.5: as many Undo as there are entries lead back to the oldest one, by all
// others.
func TestUndoAll(t *testing.T) {
	d := dice(2)
	for most := range 12 {
		for range 60 {
			w := newTwin(t, most+1)
			for range d.below(150) {
				w.holdCall(t, d.call())
			}
			for n := w.e.Undos(); n > 0; n-- {
				text, oldest := w.e.Before(0), w.r.past[0].String()
				if !w.holdCall(t, doing(api.Undo)) || w.e.Text() != text || w.e.Undos() != n-1 {
					t.Fatalf("Undo of entry %d led to %q, not %q", n, w.e.Text(), text)
				}
				if got := shown(w.e); n == 1 && got != oldest {
					t.Errorf("the oldest entry is %q, not %q", got, oldest)
				}
			}
			if w.holdCall(t, doing(api.Undo)) {
				t.Error("Undo of no entry succeeds")
			}
		}
	}
}

// P13.6: text that was killed, by one action or by several, and is yanked at
// once, stands again where it was.
func TestKillAndYank(t *testing.T) {
	d := dice(3)
	for range 3000 {
		w := newTwin(t, 1+d.below(20))
		for range 4 {
			w.holdCall(t, inserting(d.text(8)))
			w.holdCall(t, doing(api.Act(1+d.below(6))))
		}
		text, killed := w.e.Text(), false
		for range 1 + d.below(4) {
			if w.holdCall(t, doing(api.KillEnd+api.Act(d.below(4)))) {
				killed = true
			} else if killed {
				break
			}
		}
		if killed && (!w.holdCall(t, doing(api.Yank)) || w.e.Text() != text) {
			t.Fatalf("%q was killed, and %q yanked", text, w.e.Text())
		}
	}
}
