package history

import (
	"fmt"
	"math"
	"slices"
	"strings"
	"testing"
	"unicode/utf8"

	"placard/api"
	"placard/cluster"
)

// The chapter, read a second time: a history is the text that Save returns, and a
// walk is two piles, of the lines that are to come and of what has been passed, at
// the bottom of which the draft lies.

type reading struct {
	most   int
	saved  string
	toCome []string // the next one last
	passed []string // the current one last; empty if there is no walk
}

func isLine(s string) bool {
	n := len(cluster.Cut(s))
	return cluster.Flat(s) == s && n >= 1 && n <= 4096
}

// lines returns all of them, the most recent one first.
func (r reading) lines() []string {
	l := strings.Split(r.saved, "\n")
	l = l[:len(l)-1]
	slices.Reverse(l)
	return l
}

func (r *reading) add(s string) bool {
	r.leave()
	line, text := cluster.Flat(s), "\n"+r.saved
	if !isLine(line) || strings.HasSuffix(text, "\n"+line+"\n") {
		return false
	}
	text = strings.Replace(text, "\n"+line+"\n", "\n", 1) + line + "\n"
	r.saved = text[1:]
	if strings.Count(r.saved, "\n") > r.most {
		_, r.saved, _ = strings.Cut(r.saved, "\n")
	}
	return true
}

func (r *reading) older(draft, beginning string) (string, bool) {
	if len(r.passed) == 0 {
		var members []string
		for _, line := range r.lines() {
			if line != draft && len(line) >= len(beginning) && line[:len(beginning)] == beginning {
				members = append([]string{line}, members...)
			}
		}
		if members == nil {
			return "", false
		}
		r.toCome, r.passed = members, []string{draft}
	}
	if len(r.toCome) == 0 {
		return "", false
	}
	return move(&r.toCome, &r.passed), true
}

// move puts what lies on a pile onto another one.
func move(from, to *[]string) string {
	n := len(*from) - 1
	s := (*from)[n]
	*from, *to = (*from)[:n:n], append(*to, s)
	return s
}

func (r *reading) newer() (string, bool) {
	if len(r.passed) == 0 {
		return "", false
	}
	move(&r.passed, &r.toCome)
	s := r.passed[len(r.passed)-1]
	if len(r.passed) == 1 {
		r.leave()
	}
	return s, true
}

func (r *reading) leave() bool {
	walks := len(r.passed) > 0
	r.toCome, r.passed = nil, nil
	return walks
}

func (r reading) find(text string, from int) (int, bool) {
	for i, line := range r.lines() {
		if i >= from && (text == "" || len(strings.Split(line, text)) > 1) {
			return i, true
		}
	}
	return 0, false
}

func readLoad(most int, s string) (reading, api.Errno) {
	r := reading{most: most, saved: s}
	if most <= 0 || most >= 257 {
		return reading{}, 140
	}
	if s != "" && s[len(s)-1] != 10 {
		return reading{}, 7
	}
	lines := r.lines()
	for _, line := range lines {
		if !isLine(line) {
			return reading{}, 7
		}
	}
	slices.Sort(lines)
	if n := len(lines); len(slices.Compact(lines)) < n {
		return reading{}, 1
	} else if n > most {
		return reading{}, 3
	}
	return r, 0
}

func (r reading) clone() reading {
	r.toCome, r.passed = slices.Clone(r.toCome), slices.Clone(r.passed)
	return r
}

// twin is a history beside what it must be.
type twin struct {
	h *History
	r reading
}

func newTwin(t *testing.T, most int) *twin {
	t.Helper()
	h, e := New(most)
	if h == nil || e != api.OK {
		t.Fatalf("New(%d) = %v, %d", most, h, e)
	}
	w := &twin{h, reading{most: most}}
	w.hold(t)
	return w
}

func (w *twin) fork() *twin {
	return &twin{w.h.Fork(), w.r.clone()}
}

func (w *twin) String() string {
	if len(w.r.saved) > 200 {
		return fmt.Sprintf("%d lines, passed %d, to come %d", len(w.r.lines()), len(w.r.passed), len(w.r.toCome))
	}
	return fmt.Sprintf("%q of %d, passed %q, to come %q", w.r.lines(), w.r.most, w.r.passed, w.r.toCome)
}

// hold holds all that a history tells.
func (w *twin) hold(t *testing.T) {
	t.Helper()
	lines := w.r.lines()
	if s := w.h.Save(); s != w.r.saved {
		t.Fatalf("%v: Save = %q", w, s)
	}
	if n := w.h.Len(); n != len(lines) || n > w.r.most {
		t.Errorf("%v: Len = %d", w, n)
	}
	for i, want := range lines {
		if s, ok := w.h.Line(i); s != want || !ok {
			t.Errorf("%v: Line(%d) = %q, %v", w, i, s, ok)
		}
	}
	for _, i := range outside(len(lines)) {
		if s, ok := w.h.Line(i); s != "" || ok {
			t.Errorf("%v: Line(%d) = %q, %v", w, i, s, ok)
		}
	}
	next := 0
	for i, s := range w.h.All() {
		if i != next || i >= len(lines) || s != lines[i] {
			t.Errorf("%v: All yields %d, %q", w, i, s)
		}
		next++
	}
	if next != len(lines) {
		t.Errorf("%v: All yields %d lines", w, next)
	}
	w.holdBounds(t)
}

// holdBounds holds P14.6, and that nothing is kept that is gone.
func (w *twin) holdBounds(t *testing.T) {
	t.Helper()
	lines := slices.Collect(func(yield func(string) bool) {
		for _, line := range w.h.All() {
			if !yield(line) {
				return
			}
		}
	})
	slices.Sort(lines)
	if n := len(lines); n > w.r.most || len(slices.Compact(lines)) != n {
		t.Errorf("%v: more than there may be, or one of them twice", w)
	}
	for _, s := range w.h.lines[len(w.h.lines):cap(w.h.lines)] {
		if s != "" {
			t.Errorf("%v: %q is kept", w, s)
		}
	}
	if walks := len(w.r.passed) > 0; (w.h.walk.has != nil) != walks || !walks && w.h.walk.draft != "" {
		t.Errorf("%v: what is kept of a walk", w)
	}
}

// holdWalk holds P14.5 from where a walk is: all the way back, and forth again.
func (w *twin) holdWalk(t *testing.T) {
	t.Helper()
	f := w.fork()
	if len(f.r.passed) == 0 {
		return
	}
	way := slices.Clone(f.r.passed)
	for range f.r.toCome {
		s, ok := f.h.Older("a", "b")
		if !ok || slices.Contains(way[1:], s) {
			t.Fatalf("%v: Older = %q, %v", w, s, ok)
		}
		way = append(way, s)
	}
	if s, ok := f.h.Older("", ""); s != "" || ok {
		t.Errorf("%v: one more Older = %q, %v", w, s, ok)
	}
	for i := len(way) - 2; i >= 0; i-- {
		if s, ok := f.h.Newer(); s != way[i] || !ok {
			t.Errorf("%v: Newer = %q, %v and not %q", w, s, ok, way[i])
		}
	}
	if s, ok := f.h.Newer(); s != "" || ok {
		t.Errorf("%v: one more Newer = %q, %v", w, s, ok)
	}
	f.r.leave()
	f.hold(t)
}

// holdLoad holds P14.7.
func (w *twin) holdLoad(t *testing.T) {
	t.Helper()
	h, e := Load(w.r.most, w.h.Save())
	if e != api.OK {
		t.Fatalf("%v: Load of Save = %d", w, e)
	}
	f := &twin{h, w.r.clone()}
	f.r.leave()
	f.hold(t)
}

// call is something done to a history and to its reading; it tells what differs in
// the answers.
type call struct {
	name string
	do   func(w *twin) string
}

type answer struct {
	s  string
	ok bool
}

func adding(s string) call {
	return call{fmt.Sprintf("Add(%q)", s), func(w *twin) string {
		return unlike(w.h.Add(s), w.r.add(s))
	}}
}

func older(draft, beginning string) call {
	return call{fmt.Sprintf("Older(%q, %q)", draft, beginning), func(w *twin) string {
		s, ok := w.h.Older(draft, beginning)
		want, wantOK := w.r.older(draft, beginning)
		return unlike(answer{s, ok}, answer{want, wantOK})
	}}
}

func newer() call {
	return call{"Newer()", func(w *twin) string {
		s, ok := w.h.Newer()
		want, wantOK := w.r.newer()
		return unlike(answer{s, ok}, answer{want, wantOK})
	}}
}

func leaving() call {
	return call{"Leave()", func(w *twin) string {
		return unlike(w.h.Leave(), w.r.leave())
	}}
}

func finding(text string, from int) call {
	return call{fmt.Sprintf("Find(%q, %d)", text, from), func(w *twin) string {
		i, ok := w.h.Find(text, from)
		want, wantOK := w.r.find(text, from)
		return unlike([2]any{i, ok}, [2]any{want, wantOK})
	}}
}

func unlike[T comparable](got, want T) string {
	if got == want {
		return ""
	}
	return fmt.Sprintf("it answers %q, not %q", fmt.Sprint(got), fmt.Sprint(want))
}

// holdCall holds a call and what it leaves behind.
func (w *twin) holdCall(t *testing.T, c call) {
	t.Helper()
	before := w.String()
	if s := c.do(w); s != "" {
		t.Errorf("%s: %s: %s", before, c.name, s)
	}
	w.hold(t)
	if t.Failed() {
		t.Fatalf("%s: %s", before, c.name)
	}
}

// key tells all that a history keeps.
func (w *twin) key() string {
	return fmt.Sprintf("%q %q %q %d %q", w.h.lines, w.r.passed, w.r.toCome, w.h.walk.at, w.h.walk.draft)
}

// smallCalls are calls that are about few short lines.
func smallCalls() []call {
	l := []call{newer(), leaving(), adding(""), adding("a\a")}
	for _, s := range []string{"a", "ab", "b", "ba"} {
		l = append(l, adding(s))
	}
	for _, draft := range []string{"", "a", "ab", "b", "abc"} {
		for _, beginning := range []string{"", "a", "b", "ba", "abc"} {
			l = append(l, older(draft, beginning))
		}
	}
	for from := -2; from <= 5; from++ {
		for _, text := range []string{"", "a", "b", "ab", "c"} {
			l = append(l, finding(text, from))
		}
	}
	return l
}

// P14.1 to P14.7: every call in every state that four lines can make.
func TestEveryState(t *testing.T) {
	calls := smallCalls()
	for most := 1; most <= 5; most++ {
		first := newTwin(t, most)
		seen := map[string]bool{first.key(): true}
		for open := []*twin{first}; len(open) > 0; open = open[1:] {
			for _, c := range calls {
				w := open[0].fork()
				w.holdCall(t, c)
				if key := w.key(); !seen[key] {
					seen[key] = true
					open = append(open, w)
				}
			}
			open[0].hold(t)
			open[0].holdWalk(t)
			open[0].holdLoad(t)
		}
		if len(seen) < 20*most {
			t.Errorf("of at most %d lines only %d states were come to", most, len(seen))
		}
	}
}

// rowsOf returns all rows of up to n items, as texts.
func rowsOf(items []string, n int) []string {
	all := []string{""}
	for last := all; n > 0; n-- {
		var longer []string
		for _, row := range last {
			for _, s := range items {
				longer = append(longer, row+s)
			}
		}
		all = append(all, longer...)
		last = longer
	}
	return all
}

// P14.4: every short text is loaded, or refused for the first reason that there is.
func TestLoadEverything(t *testing.T) {
	how := map[api.Errno]int{}
	for _, s := range rowsOf([]string{"a", "b", "\n", "\t", "\u0301", "\xff"}, 6) {
		for _, most := range []int{0, 1, 2, 3, 256, 257} {
			h, e := Load(most, s)
			r, want := readLoad(most, s)
			how[want]++
			if e != want || (h != nil) != (want == api.OK) {
				t.Fatalf("Load(%d, %q) = %v, %d and not %d", most, s, h, e, want)
			}
			if h != nil {
				(&twin{h, r}).hold(t)
			}
		}
	}
	for _, e := range []api.Errno{0, 1, 3, 7, 140} {
		if how[e] < 10 {
			t.Errorf("only %d texts for %d", how[e], e)
		}
	}
}

// dice yields numbers that are the same in each run.
type dice uint64

func (d *dice) below(n int) int {
	*d = *d*6364136223846793005 + 1442695040888963407
	return int(uint64(*d) >> 33 % uint64(n))
}

// text returns a line, or now and then what is none, or is another one once it is
// flat.
func (d *dice) text() string {
	if d.below(30) == 0 {
		return []string{"", "\a", "\u0301", "\x1b\x00", strings.Repeat("x", 4097)}[d.below(5)]
	}
	var s strings.Builder
	for range 1 + d.below(4) {
		s.WriteString([]string{"a", "b", "c", " ", "é", "e\u0301", "中", "\t", "\n", "\xff", "\ufffd"}[d.below(11)])
	}
	return s.String()
}

// piece returns a part of a text, which may break a rune.
func (d *dice) piece() string {
	s := d.text()
	s = s[:min(len(s), 9)]
	from := d.below(len(s) + 1)
	if d.below(2) == 0 {
		from = 0
	}
	return s[from : from+d.below(len(s)-from+1)]
}

// call returns one that a history may meet.
func (d *dice) call(r reading) call {
	draft, lines := d.text(), r.lines()
	if len(lines) > 0 && d.below(2) == 0 {
		draft = lines[d.below(len(lines))]
	}
	switch d.below(20) {
	case 0, 1, 2:
		return adding(d.text())
	case 3:
		return adding(draft)
	case 4:
		return leaving()
	case 5, 6:
		return finding(d.piece(), d.below(len(lines)+4)-2)
	case 7, 8, 9, 10, 11:
		return newer()
	}
	if len(lines) > 0 && d.below(2) == 0 {
		line := lines[d.below(len(lines))]
		return older(draft, line[:d.below(min(len(line), 3)+1)])
	}
	return older(draft, d.piece())
}

// P14.1 to P14.7: long rows of calls.
func TestWalks(t *testing.T) {
	d := dice(1)
	for _, most := range []int{1, 2, 3, 7, 40, 255, 256} {
		w := newTwin(t, most)
		for i := range 6000 {
			if d.below(100) == 0 {
				old := w
				w = w.fork()
				old.hold(t)
			}
			if i < 2*most {
				w.holdCall(t, adding(d.text()))
			}
			w.holdCall(t, d.call(w.r))
			if i%50 == 0 {
				w.holdWalk(t)
				w.holdLoad(t)
			}
		}
	}
}

// outside returns numbers that are no index into n items.
func outside(n int) []int {
	return []int{math.MinInt, -1 << 32, -1<<32 + 1, -2, -1, n, n + 1, n + 2, 1 << 32, 1<<32 + 1, math.MaxInt}
}

// P14.1 to P14.4: each rune alone is a line or none.
func TestEveryRune(t *testing.T) {
	for r := rune(0); r <= utf8.MaxRune; r++ {
		if r > 0x3000 && r%61 != 0 {
			continue
		}
		s := string(r)
		h, _ := New(1)
		added := h.Add(s)
		loaded, e := Load(1, s+"\n")
		want := cluster.Is(s)
		flat := want || r == 9 || r == 10 || r == 13
		if added != flat || (e == api.OK) != want || (loaded != nil) != want {
			t.Fatalf("%q: Add = %v, Load = %d", s, added, e)
		}
		if flat && !want {
			s = " "
		}
		if text := h.Save(); flat && text != s+"\n" {
			t.Fatalf("%q: Save = %q", s, text)
		}
	}
}
