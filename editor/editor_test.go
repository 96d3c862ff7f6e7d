package editor

import (
	"math"
	"reflect"
	"slices"
	"strconv"
	"strings"
	"testing"

	"placard/api"
)

// edited returns an editor of a line whose cursor is where the bar stands.
func edited(t *testing.T, most int, line string) *Editor {
	t.Helper()
	e, f := New(most)
	if f != api.OK {
		t.Fatalf("New(%d): %d", most, f)
	}
	left, right, _ := strings.Cut(line, "|")
	e.Insert(right)
	e.Do(api.GoHome)
	e.Insert(left)
	if got := shown(e); got != line {
		t.Fatalf("it is %q, not %q", got, line)
	}
	return e
}

// shown writes a line with a bar for its cursor.
func shown(e *Editor) string {
	line, cursor := e.Line(), e.Cursor()
	return strings.Join(line[:cursor], "") + "|" + strings.Join(line[cursor:], "")
}

// holdLine holds a line, its cursor, and how long its undo list is.
func holdLine(t *testing.T, e *Editor, line string, undos int) {
	t.Helper()
	if got := shown(e); got != line {
		t.Errorf("it is %q, not %q", got, line)
	}
	if got := e.Undos(); got != undos {
		t.Errorf("%q: Undos = %d, not %d", line, got, undos)
	}
}

// holdDo holds a row of actions that all succeed.
func holdDo(t *testing.T, e *Editor, acts ...api.Act) {
	t.Helper()
	for _, a := range acts {
		if before := shown(e); !e.Do(a) {
			t.Errorf("%q: Do(%d) fails", before, a)
		}
	}
}

func holdKills(t *testing.T, e *Editor, kills ...string) {
	t.Helper()
	if got := e.Kills(); !slices.Equal(got, kills) {
		t.Errorf("Kills = %q, not %q", got, kills)
	}
}

// P13.1

func TestNew(t *testing.T) {
	if api.ErrEditor != 130 || api.MaxLine != 4096 || api.MaxKill != 16 || api.MaxUndo != 64 {
		t.Fatal("the chapter has other numbers")
	}
	for _, most := range []int{1, 2, 3, 4095, 4096} {
		w := newTwin(t, most)
		w.holdCall(t, inserting(strings.Repeat("a", most+1)))
		w.holdCall(t, inserting(strings.Repeat("a", most)))
		w.holdCall(t, inserting("a"))
	}
	for _, most := range []int{math.MinInt, -4096, -1, 0, 4097, 4098, 1 << 32, 1<<32 + 1, math.MaxInt} {
		if e, f := New(most); e != nil || f != api.ErrEditor {
			t.Errorf("New(%d) = %v, %d", most, e, f)
		}
	}
}

// The chapter's example.
func TestExample(t *testing.T) {
	e := edited(t, 20, "ab cd|")
	holdDo(t, e, api.KillBack, api.KillBack, api.Yank)
	holdKills(t, e, "ab cd")
	holdLine(t, e, "ab cd|", 4)
}

// full returns a cluster of so many bytes, an even number.
func full(bytes int) string {
	return "é" + strings.Repeat("\u0301", bytes/2-1)
}

// notes returns how many entries a call adds that changes the line, or not.
func notes(changed bool) int {
	if changed {
		return 1
	}
	return 0
}

func TestInsert(t *testing.T) {
	for _, c := range []struct {
		line, text, then string
		ok               bool
	}{
		{"|", "ab", "ab|", true},
		{"a|b", "中 e\u0301", "a中 e\u0301|b", true},
		{"a|b", "", "a|b", false},
		{"|ab", "x", "x|ab", true},
		// Marks join the cluster ahead of the cursor, up to the first base.
		{"a|b", "\u0301", "a\u0301|b", true},
		{"中|", "\u0301\u200d\ufe0f", "中\u0301\u200d\ufe0f|", true},
		{"a\u0301|b", "\u0302\u0303x\u0304", "a\u0301\u0302\u0303x\u0304|b", true},
		{"ab|", "x\u0301", "abx\u0301|", true},
		{"|ab", "\u0301", "|ab", false},
		{"|ab", "\u0301x", "x|ab", true},
		{"|", "\u0301\u0302", "|", false},
		{"a|b", "\u0301 ", "a\u0301 |b", true},
		// Controls are left out.
		{"a|b", "\x00\x07\x1b\x7f\u0085", "a|b", false},
		{"a|b", "\x07\u0301\x1b\u0302", "a\u0301\u0302|b", true},
		{"a|b", "\x07x\x07\u0301\x7fy", "ax\u0301y|b", true},
		// Some of them are spaces; they are no base yet where marks are joined.
		{"a|b", "\t\n\r", "a   |b", true},
		{"a|b", "\r\nx", "a  x|b", true},
		{"a|b", "\u0301\tx", "a\u0301 x|b", true},
		{"a|b", "\t\u0301", "a\u0301 \u0301|b", true},
		{"a|b", "\n\u0301x\u0302", "a\u0301 \u0301x\u0302|b", true},
		{"|b", "\t\u0301", " \u0301|b", true},
		{"a|b", "\x0b\x0c\u0301", "a\u0301|b", true},
		// What is no encoding is a base.
		{"a|b", "\xff", "a\ufffd|b", true},
		{"a|b", "\xff\u0301", "a\ufffd\u0301|b", true},
		{"a|b", "\u0301\xe4\xb8", "a\u0301\ufffd\ufffd|b", true},
		{"a|b", "\xcc", "a\ufffd|b", true},
		{"a|b", "\xed\xa0\x80", "a\ufffd\ufffd\ufffd|b", true},
		// A mark for which the cluster has no room is left out by itself.
		{full(62) + "|b", "\u0301", full(64) + "|b", true},
		{full(64) + "|b", "\u0301", full(64) + "|b", false},
		{full(62) + "|b", "\u0301\u0301", full(64) + "|b", true},
		{full(62) + "|b", "\u20d0\u0301", full(64) + "|b", true},
		{full(62) + "|b", "\u20d0", full(62) + "|b", false},
		{full(64) + "|b", "\u0301x", full(64) + "x|b", true},
		{"|", full(66), full(64) + "|", true},
	} {
		e := edited(t, 20, c.line)
		n := e.Undos()
		if ok := e.Insert(c.text); ok != c.ok {
			t.Errorf("%q: Insert(%q) = %v", c.line, c.text, ok)
		}
		holdLine(t, e, c.then, n+notes(c.ok))
		if left, right, _ := strings.Cut(c.line, "|"); c.ok && e.Before(0) != left+right {
			t.Errorf("%q: Insert(%q) noted %q", c.line, c.text, e.Before(0))
		}
	}
}

// Where there is no room for all clusters, nothing changes, and no mark joins.
func TestInsertRoom(t *testing.T) {
	for _, c := range []struct {
		line, text, then string
		ok               bool
	}{
		{"ab|c", "d", "abd|c", true},
		{"ab|c", "中", "ab中|c", true},
		{"ab|c", "de", "ab|c", false},
		{"ab|c", "\u0301d", "ab\u0301d|c", true},
		{"ab|c", "\u0301de", "ab|c", false},
		{"ab|c", "\r\n", "ab|c", false},
		{"ab|c", "\x07\n", "ab |c", true},
		{"ab|cd", "e", "ab|cd", false},
		{"ab|cd", "\u0301", "ab\u0301|cd", true},
		{"ab|cd", "\u0301e", "ab|cd", false},
		{"ab|cd", "\u0301\x07", "ab\u0301|cd", true},
		{"ab|cd", "", "ab|cd", false},
		{"abcd|", strings.Repeat("e", 1<<20), "abcd|", false},
		{"|", "abcd", "abcd|", true},
		{"|", "abcde", "|", false},
	} {
		e := edited(t, 4, c.line)
		n := e.Undos()
		if ok := e.Insert(c.text); ok != c.ok {
			t.Errorf("%q: Insert(%.20q) = %v", c.line, c.text, ok)
		}
		holdLine(t, e, c.then, n+notes(c.ok))
	}
}

func TestSet(t *testing.T) {
	for _, c := range []struct {
		line, text, then string
		ok               bool
	}{
		{"|", "abc", "abc|", true},
		{"x|y", "abc", "abc|", true},
		{"x|y", "", "|", true},
		{"x|y", "\x07\u0301", "|", true},
		{"|", "", "|", false},
		{"|", "\x07\u0301", "|", false},
		{"|xy", "xy", "|xy", false},
		{"x|y", "\u0301x\x07y", "x|y", false},
		{"x|y", "xY", "xY|", true},
		{"x|y", "yx", "yx|", true},
		{"x|y", "xyz", "xyz|", true},
		{"x|y", "x", "x|", true},
		{"x|y", "x\u0301y", "x\u0301y|", true},
		{"x|é", "xe\u0301", "xe\u0301|", true},
		{"x|", "a\tb\n", "a b |", true},
		{"x|", "\xff\u0301", "\ufffd\u0301|", true},
		{"x|", "abcd", "abcd|", true},
		{"x|", "abcdefgh", "abcd|", true},
		{"x|", "中e\u0301 한x", "中e\u0301 한|", true},
		{"ab|cd", "abcdefgh", "ab|cd", false},
		{"ab|cd", "abc", "abc|", true},
		{"ab|cd", strings.Repeat("abcd", 1<<18), "ab|cd", false},
	} {
		e := edited(t, 4, c.line)
		n := e.Undos()
		if ok := e.Set(c.text); ok != c.ok {
			t.Errorf("%q: Set(%.20q) = %v", c.line, c.text, ok)
		}
		holdLine(t, e, c.then, n+notes(c.ok))
	}
}

// P13.2

// holdActs holds single actions: a line, and what becomes of it; the same where
// the action fails.
func holdActs(t *testing.T, a api.Act, lines ...[2]string) {
	t.Helper()
	for _, c := range lines {
		e := edited(t, 20, c[0])
		n, text := e.Undos(), e.Text()
		if ok := e.Do(a); ok != (c[0] != c[1]) {
			t.Errorf("%q: Do(%d) = %v", c[0], a, ok)
		}
		holdLine(t, e, c[1], n+notes(e.Text() != text))
		if e.Text() != text && e.Before(0) != text {
			t.Errorf("%q: Do(%d) noted %q", c[0], a, e.Before(0))
		}
	}
}

func TestMovements(t *testing.T) {
	holdActs(t, api.GoLeft, [2]string{"|", "|"}, [2]string{"|ab", "|ab"}, [2]string{"a|b", "|ab"}, [2]string{"ab|", "a|b"},
		[2]string{"中e\u0301|", "中|e\u0301"})
	holdActs(t, api.GoRight, [2]string{"|", "|"}, [2]string{"|ab", "a|b"}, [2]string{"a|b", "ab|"}, [2]string{"ab|", "ab|"},
		[2]string{"|e\u0301中", "e\u0301|中"})
	holdActs(t, api.GoHome, [2]string{"|", "|"}, [2]string{"|ab", "|ab"}, [2]string{"a|b", "|ab"}, [2]string{"ab|", "|ab"})
	holdActs(t, api.GoEnd, [2]string{"|", "|"}, [2]string{"|ab", "ab|"}, [2]string{"a|b", "ab|"}, [2]string{"ab|", "ab|"})
	holdActs(t, api.WordLeft, [2]string{"|", "|"}, [2]string{"|ab", "|ab"}, [2]string{"ab|", "|ab"}, [2]string{"a|b", "|ab"},
		[2]string{"ab cd|", "ab |cd"}, [2]string{"ab c|d", "ab |cd"}, [2]string{"ab |cd", "|ab cd"}, [2]string{"ab| cd", "|ab cd"},
		[2]string{"ab -, |", "|ab -, "}, [2]string{" - |", "| - "}, [2]string{" -a|", " -|a"}, [2]string{"| a", "| a"},
		[2]string{"a 中é9Z|", "a |中é9Z"}, [2]string{"a \u0301|", "|a \u0301"}, [2]string{"-a\u0301b|", "-|a\u0301b"})
	holdActs(t, api.WordRight, [2]string{"|", "|"}, [2]string{"ab|", "ab|"}, [2]string{"|ab", "ab|"}, [2]string{"a|b", "ab|"},
		[2]string{"|ab cd", "ab| cd"}, [2]string{"a|b cd", "ab| cd"}, [2]string{"ab| cd", "ab cd|"}, [2]string{"ab |cd", "ab cd|"},
		[2]string{"| -, ab", " -, ab|"}, [2]string{"| - ", " - |"}, [2]string{"|a- ", "a|- "}, [2]string{"a |", "a |"},
		[2]string{"|中é9Z a", "中é9Z| a"}, [2]string{"| \u0301a", " \u0301a|"}, [2]string{"|a\u0301b-", "a\u0301b|-"})
}

// Each byte that a cluster may begin with.
func TestWords(t *testing.T) {
	for r := rune(0); r < 0x1100; r++ {
		holdWord(t, r)
	}
	for r := rune(0x1100); r <= 0x10ffff; r += 997 {
		holdWord(t, r)
	}
}

// holdWord holds whether a base belongs to a word.
func holdWord(t *testing.T, r rune) {
	t.Helper()
	const ofWords = "0123456789ABCDEFGHIJKLMNOPQRSTUVWXYZabcdefghijklmnopqrstuvwxyz"
	e, _ := New(9)
	if e.Insert("-" + string(r)); e.Len() != 2 {
		return // a control or a mark
	}
	want := 0
	if r >= 128 || strings.ContainsRune(ofWords, r) {
		want = 1
	}
	e.Do(api.WordLeft)
	if e.Cursor() != want {
		t.Errorf("behind -%c, the previous word boundary is %d", r, e.Cursor())
	}
	e.Set(string(r) + "-a")
	e.Do(api.GoHome)
	e.Do(api.WordRight)
	if e.Cursor() != 3-2*want {
		t.Errorf("ahead of %c-a, the next word boundary is %d", r, e.Cursor())
	}
}

func TestErase(t *testing.T) {
	holdActs(t, api.EraseBack, [2]string{"|", "|"}, [2]string{"|ab", "|ab"}, [2]string{"a|b", "|b"}, [2]string{"ab|", "a|"},
		[2]string{"中e\u0301|x", "中|x"}, [2]string{"aa|a", "a|a"})
	holdActs(t, api.EraseHere, [2]string{"|", "|"}, [2]string{"|ab", "|b"}, [2]string{"a|b", "a|"}, [2]string{"ab|", "ab|"},
		[2]string{"x|e\u0301中", "x|中"}, [2]string{"a|aa", "a|a"})
	holdActs(t, api.Clear, [2]string{"|", "|"}, [2]string{"|ab", "|"}, [2]string{"a|b", "|"}, [2]string{"ab|", "|"}, [2]string{" |", "|"})
	e := edited(t, 9, "ab|cd")
	holdDo(t, e, api.EraseBack, api.EraseHere, api.Clear)
	holdKills(t, e)
}

func TestKill(t *testing.T) {
	holdActs(t, api.KillEnd, [2]string{"|", "|"}, [2]string{"ab|", "ab|"}, [2]string{"a|b c", "a|"}, [2]string{"|ab c", "|"})
	holdActs(t, api.KillHome, [2]string{"|", "|"}, [2]string{"|ab", "|ab"}, [2]string{"a b|c", "|c"}, [2]string{"a bc|", "|"})
	holdActs(t, api.KillWord, [2]string{"|", "|"}, [2]string{"ab|", "ab|"}, [2]string{"a|b cd", "a| cd"}, [2]string{"ab| cd ", "ab| "},
		[2]string{"a| - ", "a|"}, [2]string{"|中 x", "| x"})
	holdActs(t, api.KillBack, [2]string{"|", "|"}, [2]string{"|ab", "|ab"}, [2]string{"ab c|d", "ab |d"}, [2]string{" ab |cd", " |cd"},
		[2]string{" - |a", "|a"}, [2]string{"x 中|", "x |"})
	for a, want := range map[api.Act]string{api.KillEnd: "c- de\u0301", api.KillHome: " 中b", api.KillWord: "c", api.KillBack: "中b"} {
		e := edited(t, 20, " 中b|c- de\u0301")
		holdDo(t, e, a)
		holdKills(t, e, want)
	}
}

// Kills in a row are one kill, in the order that the text had.
func TestKillsInARow(t *testing.T) {
	for _, c := range []struct {
		acts []api.Act
		kill string
	}{
		{[]api.Act{api.KillWord, api.KillWord}, "c de"},
		{[]api.Act{api.KillWord, api.KillEnd}, "c de f"},
		{[]api.Act{api.KillBack, api.KillBack}, "a b"},
		{[]api.Act{api.KillBack, api.KillHome}, "-a b"},
		{[]api.Act{api.KillWord, api.KillBack}, "bc"},
		{[]api.Act{api.KillBack, api.KillWord}, "bc"},
		{[]api.Act{api.KillHome, api.KillEnd}, "-a bc de f"},
		{[]api.Act{api.KillEnd, api.KillHome}, "-a bc de f"},
		{[]api.Act{api.KillEnd, api.KillBack, api.KillBack}, "a bc de f"},
		{[]api.Act{api.KillBack, api.KillWord, api.KillBack, api.KillWord}, "a bc de"},
	} {
		e := edited(t, 20, "-a b|c de f")
		n := e.Undos()
		holdDo(t, e, c.acts...)
		holdKills(t, e, c.kill)
		holdDo(t, e, api.Yank)
		if e.Text() != "-a bc de f" || e.Undos() != n+len(c.acts)+1 {
			t.Errorf("%v, and yanked: %q, Undos %d", c.acts, e.Text(), e.Undos())
		}
	}
}

// between returns calls that neither kill nor yank; some succeed.
func between() map[string]func(e *Editor) {
	calls := map[string]func(e *Editor){
		"Insert of nothing":     func(e *Editor) { e.Insert("") },
		"Insert of a cluster":   func(e *Editor) { e.Insert("x") },
		"Insert of a mark":      func(e *Editor) { e.Insert("\u0301") },
		"Insert without room":   func(e *Editor) { e.Insert(strings.Repeat("x", 99)) },
		"Set of the same":       func(e *Editor) { e.Set(e.Text()) },
		"Set of something else": func(e *Editor) { e.Set("ab cde") },
	}
	for a := api.Act(-1); a <= api.Newer+1; a++ {
		if a < api.KillEnd || a > api.YankPop {
			calls["Do("+strconv.Itoa(int(a))+")"] = func(e *Editor) { e.Do(a) }
		}
	}
	return calls
}

// telling calls only return information.
func telling(e *Editor) {
	e.Text()
	e.Line()
	e.Widths()
	e.Cursor()
	e.Len()
	e.Kills()
	e.Undos()
	e.Before(0)
	e.Fork().Do(api.Clear)
}

// Whatever is called between two kills, they are two, also where that fails.
func TestKillsApart(t *testing.T) {
	calls := between()
	calls["a kill of nothing"] = func(e *Editor) { e.Do(api.KillEnd); e.Do(api.KillEnd) }
	calls["Yank"] = func(e *Editor) { e.Do(api.Yank) }
	calls["YankPop"] = func(e *Editor) { e.Do(api.YankPop) }
	for name, call := range calls {
		e := edited(t, 20, "ab cd |ef gh")
		holdDo(t, e, api.KillBack)
		call(e)
		kills := e.Kills()
		if e.Len() == 0 {
			continue // Clear leaves nothing to kill
		}
		if e.Cursor() > 0 {
			holdDo(t, e, api.KillHome)
		} else {
			holdDo(t, e, api.KillEnd)
		}
		if got := e.Kills(); len(got) != 2 || len(kills) != 1 || got[1] != kills[0] {
			t.Errorf("%s: of the kills %q became %q", name, kills, got)
		}
	}
	e := edited(t, 8, "ab |cd")
	e.Do(api.KillBack)
	telling(e)
	e.Do(api.KillEnd)
	holdKills(t, e, "ab cd")
}

// killing returns an editor with an empty line, and so many kills that the
// most recent one is the first.
func killing(t *testing.T, most int, kills ...string) *Editor {
	t.Helper()
	e := edited(t, most, "|")
	for _, s := range slices.Backward(kills) {
		e.Set(s)
		holdDo(t, e, api.KillHome)
	}
	holdKills(t, e, kills...)
	return e
}

// P13.4: of 17 kills the oldest one goes; a kill that is joined removes none.
func TestMostKills(t *testing.T) {
	var all []string
	for i := range 20 {
		all = append(all, string(rune('a'+i))+" -")
	}
	e := killing(t, 5, all[4:]...)
	for i := 3; i >= 0; i-- {
		e.Set(all[i])
		holdDo(t, e, api.KillBack)
		holdKills(t, e, all[i:i+16]...)
	}
	e.Set("p-q")
	holdDo(t, e, api.KillBack)
	holdKills(t, e, append([]string{"q"}, all[:15]...)...)
	holdDo(t, e, api.KillBack)
	holdKills(t, e, append([]string{"p-q"}, all[:15]...)...)
	holdDo(t, e, slices.Concat([]api.Act{api.Yank}, slices.Repeat([]api.Act{api.YankPop}, 15))...)
	holdLine(t, e, all[14]+"|", e.Undos())
	holdDo(t, e, api.YankPop)
	holdLine(t, e, "p-q|", e.Undos())
}

func TestYank(t *testing.T) {
	e := edited(t, 6, "a|b")
	if e.Do(api.Yank) || e.Do(api.YankPop) {
		t.Error("what was never killed is yanked")
	}
	holdLine(t, e, "a|b", 2)
	e = killing(t, 6, "中e\u0301", "xyz")
	e.Set("ab")
	e.Do(api.GoLeft)
	n := e.Undos()
	holdDo(t, e, api.Yank)
	holdLine(t, e, "a中e\u0301|b", n+1)
	holdDo(t, e, api.Yank)
	holdLine(t, e, "a中e\u0301中e\u0301|b", n+2)
	if e.Do(api.Yank) {
		t.Error("Yank has no room and succeeds")
	}
	holdLine(t, e, "a中e\u0301中e\u0301|b", n+2)
	holdKills(t, e, "中e\u0301", "xyz")
	holdDo(t, e, api.EraseBack, api.EraseBack, api.Undo, api.Undo, api.Undo)
	holdLine(t, e, "a中e\u0301|b", n+1)
}

func TestYankPop(t *testing.T) {
	e := killing(t, 7, "one", "é-", "xyzw")
	e.Set("ab")
	e.Do(api.GoLeft)
	n := e.Undos()
	holdDo(t, e, api.Yank)
	for i, want := range []string{"aone|b", "aé-|b", "axyzw|b", "aone|b", "aé-|b"} {
		if i > 0 {
			holdDo(t, e, api.YankPop)
		}
		holdLine(t, e, want, n+1+i)
	}
	holdKills(t, e, "one", "é-", "xyzw")
	// A new Yank begins with the most recent one again.
	holdDo(t, e, api.Yank)
	holdLine(t, e, "aé-one|b", n+6)
	holdDo(t, e, api.YankPop)
	holdLine(t, e, "aé-é-|b", n+7)
	if e.Do(api.YankPop) {
		t.Error("YankPop has no room and succeeds")
	}
	holdLine(t, e, "aé-é-|b", n+7)
	// That one yanked nothing, so it is not gone on from.
	if e.Do(api.YankPop) {
		t.Error("YankPop succeeds behind one that failed")
	}
	holdLine(t, e, "aé-é-|b", n+7)
	holdDo(t, e, api.Undo)
	holdLine(t, e, "aé-one|b", n+6)
}

// The room that YankPop has is what the yanked text leaves.
func TestYankPopRoom(t *testing.T) {
	for room, ok := range []bool{false, false, false, false, true, true} {
		e := killing(t, 10, "abc", "defg")
		e.Set(strings.Repeat("x", 10-room))
		if room < 3 {
			if e.Do(api.Yank) || e.Do(api.YankPop) {
				t.Errorf("for 3 clusters there is a room of %d", room)
			}
			continue
		}
		holdDo(t, e, api.Yank)
		if got := e.Do(api.YankPop); got != ok {
			t.Errorf("a room of %d for 4 clusters: YankPop = %v", room, got)
		}
	}
}

func TestYankPopNeeds(t *testing.T) {
	e := killing(t, 9, "ab")
	holdDo(t, e, api.Yank)
	if e.Do(api.YankPop) {
		t.Error("YankPop goes on to a second kill where there is one")
	}
	holdLine(t, e, "ab|", e.Undos())
	for name, call := range between() {
		e := killing(t, 8, "cd", "ab")
		holdDo(t, e, api.Yank)
		call(e)
		before := shown(e)
		if e.Do(api.YankPop) || shown(e) != before {
			t.Errorf("behind Yank and %s, YankPop makes %q of %q", name, shown(e), before)
		}
	}
	e = killing(t, 9, "cd", "ab")
	holdDo(t, e, api.Yank)
	telling(e)
	holdDo(t, e, api.YankPop)
	telling(e)
	holdDo(t, e, api.YankPop)
	holdLine(t, e, "cd|", e.Undos())
	e = killing(t, 9, "cd", "ab")
	e.Insert("x y")
	holdDo(t, e, api.KillBack)
	if e.Do(api.YankPop) {
		t.Error("YankPop succeeds behind a kill")
	}
}

// YankPop of a kill that is the same succeeds, and notes nothing.
func TestYankPopOfTheSame(t *testing.T) {
	e := killing(t, 9, "ab", "ab", "c")
	holdDo(t, e, api.Yank)
	n := e.Undos()
	holdDo(t, e, api.YankPop)
	holdLine(t, e, "ab|", n)
	holdDo(t, e, api.YankPop)
	holdLine(t, e, "c|", n+1)
}

func TestSwap(t *testing.T) {
	holdActs(t, api.Swap, [2]string{"|", "|"}, [2]string{"|a", "|a"}, [2]string{"a|", "a|"}, [2]string{"|ab", "|ab"},
		[2]string{"a|b", "ba|"}, [2]string{"ab|", "ba|"}, [2]string{"|abc", "|abc"}, [2]string{"a|bc", "ba|c"}, [2]string{"ab|c", "acb|"},
		[2]string{"abc|", "acb|"}, [2]string{"e\u0301|中x", "中e\u0301|x"}, [2]string{"xe\u0301中|", "x中e\u0301|"}, [2]string{"a|ab", "aa|b"})
	// Two clusters that are the same: it succeeds, and notes nothing.
	for line, then := range map[string]string{"a|a": "aa|", "aa|": "aa|", "中|中b": "中中|b"} {
		e := edited(t, 20, line)
		n := e.Undos()
		holdDo(t, e, api.Swap)
		holdLine(t, e, then, n)
	}
}

func TestUndo(t *testing.T) {
	e := edited(t, 20, "|")
	if e.Do(api.Undo) {
		t.Error("Undo of nothing succeeds")
	}
	e.Insert("ab cd")
	holdDo(t, e, api.GoLeft, api.EraseBack, api.GoHome, api.KillWord, api.GoRight, api.Yank, api.Swap)
	e.Set("x")
	holdDo(t, e, api.Clear)
	e.Insert("y\u0301")
	e.Insert("\u0302")
	for i, want := range []string{"y\u0301", "", "x", " adb", " abd", " d", "ab d", "ab cd", ""} {
		if got := e.Before(i); got != want {
			t.Errorf("Before(%d) = %q, not %q", i, got, want)
		}
	}
	for _, i := range []int{math.MinInt, -1 << 32, -1, 9, 10, 64, 1 << 32, math.MaxInt} {
		if got := e.Before(i); got != "" {
			t.Errorf("Before(%d) = %q", i, got)
		}
	}
	for i, want := range []string{"y\u0301|", "|", "x|", " adb|", " ab|d", " |d", "|ab d", "ab c|d", "|"} {
		holdDo(t, e, api.Undo)
		holdLine(t, e, want, 8-i)
	}
	if e.Do(api.Undo) {
		t.Error("Undo of nothing more succeeds")
	}
	holdKills(t, e, "ab")
}

// P13.4, P13.5: of 65 entries the oldest one goes.
func TestMostUndos(t *testing.T) {
	e := edited(t, 200, "|")
	for i := range 150 {
		e.Insert(string(rune('a' + i%26)))
		if got := e.Undos(); got != min(i+1, 64) {
			t.Errorf("behind %d changes, Undos is %d", i+1, got)
		}
	}
	for i := range 64 {
		if got := len(e.Before(i)); got != 149-i {
			t.Errorf("the text of entry %d has %d clusters", i, got)
		}
	}
	if e.Before(63) == "" || e.Before(64) != "" {
		t.Errorf("the last entries are %q and %q", e.Before(63), e.Before(64))
	}
	holdDo(t, e, slices.Repeat([]api.Act{api.Undo}, 64)...)
	if e.Len() != 86 || e.Cursor() != 86 || e.Undos() != 0 || e.Do(api.Undo) {
		t.Errorf("64 times Undo lead to %d clusters", e.Len())
	}
}

// Undo brings the cursor back to where it was ahead of the change.
func TestUndoCursor(t *testing.T) {
	for _, change := range []func(e *Editor) bool{
		func(e *Editor) bool { return e.Insert("xy") },
		func(e *Editor) bool { return e.Insert("\u0301") },
		func(e *Editor) bool { return e.Set("xy") },
		func(e *Editor) bool { return e.Do(api.EraseBack) },
		func(e *Editor) bool { return e.Do(api.EraseHere) },
		func(e *Editor) bool { return e.Do(api.KillEnd) },
		func(e *Editor) bool { return e.Do(api.KillHome) },
		func(e *Editor) bool { return e.Do(api.KillWord) },
		func(e *Editor) bool { return e.Do(api.KillBack) },
		func(e *Editor) bool { return e.Do(api.Swap) },
		func(e *Editor) bool { return e.Do(api.Clear) },
	} {
		e := edited(t, 20, "ab c|de f")
		n := e.Undos()
		if !change(e) || e.Undos() != n+1 {
			t.Errorf("it became %q, and Undos %d", shown(e), e.Undos())
		}
		e.Do(api.GoHome)
		e.Do(api.WordRight)
		holdDo(t, e, api.Undo)
		holdLine(t, e, "ab c|de f", n)
	}
}

func TestOtherActs(t *testing.T) {
	for _, a := range []api.Act{
		api.NoAct, api.Older, api.Newer, 20, 21, 64, 255, 256, -1, -17, 1 << 32, 1<<32 + 1, math.MinInt, math.MaxInt,
	} {
		holdActs(t, a, [2]string{"|", "|"}, [2]string{"ab c|d", "ab c|d"})
		e := killing(t, 9, "cd", "ab")
		holdDo(t, e, api.Yank)
		if e.Do(a) || e.Do(api.YankPop) {
			t.Errorf("behind Do(%d), YankPop succeeds", a)
		}
	}
}

// P13.3

func TestAccessors(t *testing.T) {
	e := edited(t, 20, "|")
	if e.Text() != "" || len(e.Line()) != 0 || len(e.Widths()) != 0 || e.Cursor() != 0 || e.Len() != 0 {
		t.Errorf("it begins with %q", shown(e))
	}
	if len(e.Kills()) != 0 || e.Undos() != 0 || e.Before(0) != "" {
		t.Errorf("it begins with the kills %q, and %d entries", e.Kills(), e.Undos())
	}
	e.Insert("a中e\u0301\ufffd한\u0302")
	e.Do(api.GoLeft)
	if got := e.Text(); got != "a中e\u0301\ufffd한\u0302" {
		t.Errorf("Text = %q", got)
	}
	if got := e.Line(); !slices.Equal(got, []string{"a", "中", "e\u0301", "\ufffd", "한\u0302"}) {
		t.Errorf("Line = %q", got)
	}
	if got := e.Widths(); !slices.Equal(got, []int{1, 2, 1, 1, 2}) {
		t.Errorf("Widths = %d", got)
	}
	if cursor, n := e.Cursor(), e.Len(); cursor != 4 || n != 5 {
		t.Errorf("Cursor = %d, Len = %d", cursor, n)
	}
}

// A copy has all that the other one has, and then they go their own ways.
func TestFork(t *testing.T) {
	e := killing(t, 9, "cd", "ab")
	holdDo(t, e, api.Yank)
	f := e.Fork()
	holdDo(t, f, api.YankPop)
	holdLine(t, f, "ab|", 6)
	holdLine(t, e, "cd|", 5)
	holdDo(t, e, api.YankPop, api.GoHome, api.KillWord)
	g := e.Fork()
	e.Set("x")
	holdDo(t, e, api.KillHome)
	g.Insert("p-")
	g.Do(api.GoLeft)
	h := g.Fork()
	holdDo(t, g, api.KillEnd, api.KillHome)
	holdKills(t, e, "x", "ab", "cd", "ab")
	holdKills(t, f, "cd", "ab")
	holdKills(t, g, "p-", "ab", "cd", "ab")
	holdKills(t, h, "ab", "cd", "ab")
	holdLine(t, h, "p|-", 8)
	i := g.Fork()
	i.Insert("no more than 9")
	i.Insert("at most 9")
	if i.Len() != 9 || i.Insert("x") {
		t.Errorf("a copy takes %q", i.Text())
	}
	holdDo(t, f, slices.Repeat([]api.Act{api.Undo}, 6)...)
	holdLine(t, f, "|", 0)
	holdLine(t, g, "|", 10)
	if g.Before(0) != "p" || e.Before(0) != "x" || h.Before(0) != "" || f.Do(api.Undo) {
		t.Errorf("the entries are %q, %q and %q", g.Before(0), e.Before(0), h.Before(0))
	}
	// A copy of one that killed goes on with that kill.
	e = edited(t, 9, "a b|")
	holdDo(t, e, api.KillBack)
	f = e.Fork()
	holdDo(t, f, api.KillBack)
	holdKills(t, f, "a b")
	holdKills(t, e, "b")
	holdDo(t, e, api.KillBack)
	holdKills(t, e, "a b")
}

// General rule 4: nothing is shared with answers.
func TestNothingShared(t *testing.T) {
	e := killing(t, 9, "cd", "ab")
	e.Insert("xyz")
	line, widths, kills := e.Line(), e.Widths(), e.Kills()
	line[0], widths[0], kills[0] = "!", 7, "!"
	_, _, _ = append(line, "!"), append(widths, 7), append(kills, "!")
	if e.Text() != "xyz" || e.Widths()[0] != 1 {
		t.Errorf("it became %q", e.Text())
	}
	holdKills(t, e, "cd", "ab")
	line, kills = e.Line(), e.Kills()
	holdDo(t, e, api.KillHome, api.Yank, api.Swap)
	if !slices.Equal(line, []string{"x", "y", "z"}) || !slices.Equal(kills, []string{"cd", "ab"}) {
		t.Errorf("answers became %q and %q", line, kills)
	}
}

// Only Insert, Set and Do change a line: none of the gap buffer's other methods
// can be called on an editor, nor can its buffer be reached.
func TestNoOtherMethods(t *testing.T) {
	var names []string
	methods := reflect.TypeFor[*Editor]()
	for i := range methods.NumMethod() {
		names = append(names, methods.Method(i).Name)
	}
	want := []string{"Before", "Cursor", "Do", "Fork", "Insert", "Kills", "Len", "Line", "Set", "Text", "Undos", "Widths"}
	if !slices.Equal(names, want) {
		t.Errorf("the methods are %q", names)
	}
	for i := range methods.Elem().NumField() {
		if f := methods.Elem().Field(i); f.IsExported() {
			t.Errorf("the field %s can be changed", f.Name)
		}
	}
}

// What is no editor: nil, composed, or copied from one that was made.
func TestInvalid(t *testing.T) {
	made := killing(t, 9, "cd", "ab")
	made.Insert("ab cd")
	holdDo(t, made, api.GoLeft)
	copied, forked := *made, *made.Fork()
	type composed struct{ Editor }
	inside := composed{*made}
	for name, e := range map[string]*Editor{
		"nil": nil, "zero": {}, "a copy": &copied, "a copy of a copy": &forked, "a part": &inside.Editor,
	} {
		holdInvalid(t, name, e)
	}
	holdLine(t, made, "ab c|d", 5)
	holdKills(t, made, "cd", "ab")
}

func holdInvalid(t *testing.T, name string, e *Editor) {
	t.Helper()
	for range 2 {
		for _, s := range []string{"", "a", "\u0301", "ab cd", "\xff"} {
			if e.Insert(s) || e.Set(s) {
				t.Errorf("%s: it takes %q", name, s)
			}
		}
		for a := api.Act(-1); a <= 21; a++ {
			if e.Do(a) {
				t.Errorf("%s: Do(%d) succeeds", name, a)
			}
		}
		if e.Text() != "" || len(e.Line()) != 0 || len(e.Widths()) != 0 || e.Cursor() != 0 || e.Len() != 0 {
			t.Errorf("%s: it has a line", name)
		}
		if len(e.Kills()) != 0 || e.Undos() != 0 || e.Before(0) != "" || e.Before(-1) != "" || e.Fork() != nil {
			t.Errorf("%s: it has kills %q, %d entries, or a copy", name, e.Kills(), e.Undos())
		}
	}
}

// P13.1 to P13.4 at the greatest line, of the greatest clusters.
func TestLongest(t *testing.T) {
	w := newTwin(t, api.MaxLine)
	greatest := strings.Repeat(full(64), 4000)
	w.holdCall(t, inserting(greatest))
	w.holdCall(t, inserting(strings.Repeat("a", 97)))
	w.holdCall(t, inserting(strings.Repeat("a", 96)))
	w.holdCall(t, inserting("\u0301b"))
	w.holdCall(t, inserting("\u0301"))
	for _, a := range []api.Act{
		api.WordLeft, api.KillEnd, api.Yank, api.Yank, api.GoHome, api.KillWord, api.Undo, api.KillEnd, api.Yank, api.YankPop,
		api.Clear, api.Yank, api.Swap, api.Undo, api.Undo,
	} {
		w.holdCall(t, doing(a))
	}
	w.holdCall(t, setting(strings.Repeat("中", 5000)))
	w.holdCall(t, setting(strings.Repeat("中", 4096)))
	w.holdCall(t, setting(strings.Repeat("中", 4095)+"한"))
	for range 70 {
		w.holdCall(t, doing(api.EraseBack))
	}
	w.holdCall(t, inserting(strings.Repeat("中", 71)))
	w.holdCall(t, inserting(strings.Repeat("中", 70)))
}
