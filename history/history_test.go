package history

import (
	"fmt"
	"iter"
	"math"
	"reflect"
	"slices"
	"strconv"
	"strings"
	"testing"
	"time"

	"placard/api"
)

// entered returns a history to which lines were added in this order.
func entered(t *testing.T, most int, lines ...string) *History {
	t.Helper()
	h, e := New(most)
	if h == nil || e != api.OK {
		t.Fatalf("New(%d) = %v, %d", most, h, e)
	}
	for _, s := range lines {
		if !h.Add(s) {
			t.Fatalf("Add(%q) = false", s)
		}
	}
	return h
}

// holdLines holds a history's lines, the most recent one first.
func holdLines(t *testing.T, h *History, lines ...string) {
	t.Helper()
	var got []string
	for i := range h.Len() {
		line, _ := h.Line(i)
		got = append(got, line)
	}
	if !slices.Equal(got, lines) {
		t.Errorf("the lines are %q, not %q", got, lines)
	}
}

// none stands for a line that there is not.
const none = "\x00none"

func holdOlder(t *testing.T, h *History, draft, beginning string, lines ...string) {
	t.Helper()
	for _, want := range lines {
		s, ok := h.Older(draft, beginning)
		if !ok && s == "" {
			s = none
		}
		if s != want || ok != (want != none) {
			t.Errorf("Older(%q, %q) = %q, %v and not %q", draft, beginning, s, ok, want)
		}
	}
}

func holdNewer(t *testing.T, h *History, lines ...string) {
	t.Helper()
	for _, want := range lines {
		s, ok := h.Newer()
		if !ok && s == "" {
			s = none
		}
		if s != want || ok != (want != none) {
			t.Errorf("Newer() = %q, %v and not %q", s, ok, want)
		}
	}
}

func holdNoWalk(t *testing.T, h *History) {
	t.Helper()
	holdNewer(t, h, none)
	if h.Leave() {
		t.Error("there is a walk")
	}
}

// P14.1

func TestNew(t *testing.T) {
	if api.ErrHistory != 140 || api.MaxHistory != 256 || api.MaxLine != 4096 {
		t.Fatal("the chapter has other numbers")
	}
	for _, most := range []int{1, 2, 255, 256} {
		h := entered(t, most)
		holdLines(t, h)
		holdNoWalk(t, h)
		if l, e := Load(most, ""); l == nil || e != api.OK || l.Len() != 0 {
			t.Errorf("Load(%d, \"\") = %v, %d", most, l, e)
		}
	}
	for _, most := range []int{math.MinInt, -256, -1, 0, 257, 258, 1 << 32, 1<<32 + 1, math.MaxInt} {
		if h, e := New(most); h != nil || e != api.ErrHistory {
			t.Errorf("New(%d) = %v, %d", most, h, e)
		}
		for _, s := range []string{"", "a\n", "a", "\n", "a\na\n", "a\nb\n"} {
			if h, e := Load(most, s); h != nil || e != api.ErrHistory {
				t.Errorf("Load(%d, %q) = %v, %d", most, s, h, e)
			}
		}
	}
}

// The chapter's example.
func TestExample(t *testing.T) {
	h := entered(t, 9, "ls", "cat x", "cd")
	holdOlder(t, h, "dr", "c", "cd", "cat x", none)
	holdNewer(t, h, "cd", "dr")
}

const marks = "\u0301\u0301\u0301\u0301\u0301\u0301\u0301\u0301\u0301\u0301\u0301\u0301\u0301\u0301\u0301\u0301" +
	"\u0301\u0301\u0301\u0301\u0301\u0301\u0301\u0301\u0301\u0301\u0301\u0301\u0301\u0301\u0301"

func TestAddFlat(t *testing.T) {
	for s, want := range map[string]string{
		"a": "a", " ": " ", "a b ": "a b ", "\t": " ", "\n": " ", "\r": " ", "a\tb\r\n": "a b  ", "\x0b\x0c": "",
		"": "", "\a": "", "\x00\x1b\x7f\u0085": "", "\u0301": "", "\u0301a": "a", "\u0301\n\u0301": " \u0301",
		"e\u0301": "e\u0301", "中": "中", "\xff": "\ufffd", "\xe4\xb8": "\ufffd\ufffd", "\ufffd": "\ufffd", "\u200b": "",
		"ab" + marks + "\u0301\u0301c": "ab" + marks + "c", "a\x1b[1mb": "a[1mb", "a\ab": "ab", "\u00ad": "\u00ad",
		strings.Repeat("x", 4096): strings.Repeat("x", 4096), strings.Repeat("x", 4097): "",
		strings.Repeat("中", 4096): strings.Repeat("中", 4096), strings.Repeat("中", 4095) + "\taé": "",
		strings.Repeat("a"+marks, 4096): strings.Repeat("a"+marks, 4096), strings.Repeat("a"+marks, 4096) + "b": "",
		strings.Repeat("x", 4096) + "\a\u0301": strings.Repeat("x", 4096) + "\u0301",
		strings.Repeat("\t", 4096):             strings.Repeat(" ", 4096), strings.Repeat("\t", 4097): "",
	} {
		h := entered(t, 2, "first")
		if ok := h.Add(s); ok != (want != "") {
			t.Errorf("Add(%.20q) = %v", s, ok)
		}
		if want == "" {
			holdLines(t, h, "first")
			continue
		}
		holdLines(t, h, want, "first")
		if h.Add(s) || h.Add(want) {
			t.Errorf("%.20q is added twice", s)
		}
		holdLines(t, h, want, "first")
	}
}

func TestAddAgain(t *testing.T) {
	h := entered(t, 4, "a", "b", "c", "d")
	for _, x := range []struct {
		s     string
		ok    bool
		lines string
	}{
		{"d", false, "dcba"}, {"c", true, "cdba"}, {"a", true, "acdb"}, {"a", false, "acdb"}, {"\aa", false, "acdb"},
		{"b", true, "bacd"}, {"e", true, "ebac"}, {"d", true, "deba"}, {"c", true, "cdeb"}, {"b\x00", true, "bcde"},
		{"", false, "bcde"}, {"\u0301", false, "bcde"}, {"A", true, "Abcd"},
	} {
		if ok := h.Add(x.s); ok != x.ok {
			t.Errorf("Add(%q) = %v", x.s, ok)
		}
		holdLines(t, h, strings.Split(x.lines, "")...)
	}
	one := entered(t, 1, "a", "b", "a")
	if one.Add("a") {
		t.Error("the only line is added again")
	}
	holdLines(t, one, "a")
}

func TestAddMost(t *testing.T) {
	for _, most := range []int{1, 2, 3, 255, 256} {
		h := entered(t, most)
		for i := range most + 5 {
			if !h.Add(strconv.Itoa(i)) {
				t.Fatalf("Add of %d = false", i)
			}
			if want := min(i+1, most); h.Len() != want {
				t.Fatalf("of at most %d there are %d, not %d", most, h.Len(), want)
			}
		}
		for i := range most {
			if line, ok := h.Line(i); line != strconv.Itoa(most+4-i) || !ok {
				t.Errorf("of %d lines, Line(%d) = %q, %v", most, i, line, ok)
			}
		}
	}
}

// Add ends the walk even if it adds nothing.
func TestAddEndsWalk(t *testing.T) {
	for _, s := range []string{"new", "b", "a", "c", "", "\a", strings.Repeat("x", 4097)} {
		h := entered(t, 9, "a", "b", "c")
		holdOlder(t, h, "draft", "", "c", "b")
		added := h.Add(s)
		holdNoWalk(t, h)
		if !added {
			holdLines(t, h, "c", "b", "a")
		}
		first, _ := h.Line(0)
		holdOlder(t, h, "other", "", first)
		holdNewer(t, h, "other", none)
	}
}

// P14.2

func TestOlder(t *testing.T) {
	lines := []string{"a b", "git", "go", "中文", "g", "git log", "go on", "Go"}
	for _, x := range []struct {
		draft, beginning string
		way              []string
	}{
		{"", "", []string{"Go", "go on", "git log", "g", "中文", "go", "git", "a b"}},
		{"g", "g", []string{"go on", "git log", "go", "git"}},
		{"draft", "g", []string{"go on", "git log", "g", "go", "git"}},
		{"go", "go", []string{"go on"}},
		{"go", "git", []string{"git log", "git"}},
		{"git log", "git log", nil},
		{"", "git log", []string{"git log"}},
		{"", "git log ", nil},
		{"", "o", nil},
		{"中文", "", []string{"Go", "go on", "git log", "g", "go", "git", "a b"}},
		{"中", "中", []string{"中文"}},
		{"", "\xe4", []string{"中文"}},
		{"", "\xe4\xb8\xad\xe6", []string{"中文"}},
		{"", "\xff", nil},
		{"a\tb", "a", []string{"a b"}},
		{"a b", "a", nil},
		{"", "a\tb", nil},
		{"a b\a", "a", []string{"a b"}},
		{"", "\a", nil},
		{"a b\n", "a", []string{"a b"}},
		{"\x00\xff\n", "Go", []string{"Go"}},
	} {
		h := entered(t, 9, lines...)
		if x.way == nil {
			holdOlder(t, h, x.draft, x.beginning, none)
			holdNoWalk(t, h)
			continue
		}
		holdOlder(t, h, x.draft, x.beginning, x.way...)
		holdOlder(t, h, x.draft, x.beginning, none, none)
		slices.Reverse(x.way)
		holdNewer(t, h, x.way[1:]...)
		holdNewer(t, h, x.draft)
		holdNoWalk(t, h)
		slices.Reverse(lines)
		holdLines(t, h, lines...)
		slices.Reverse(lines)
	}
}

// During a walk what Older is given does not matter.
func TestOlderArguments(t *testing.T) {
	h := entered(t, 9, "ab", "ac", "b", "ad")
	holdOlder(t, h, "draft", "a", "ad")
	holdOlder(t, h, "ac", "b", "ac")
	holdOlder(t, h, "other", "z", "ab")
	holdOlder(t, h, "", "", none)
	holdNewer(t, h, "ac")
	holdOlder(t, h, "ab", "b", "ab")
	holdNewer(t, h, "ac", "ad", "draft", none)
	holdOlder(t, h, "ad", "b", "b", none)
	holdNewer(t, h, "ad", none)
}

// Where there is no older line, Older changes nothing.
func TestOlderNone(t *testing.T) {
	h := entered(t, 9)
	holdOlder(t, h, "draft", "", none)
	holdNoWalk(t, h)
	h = entered(t, 9, "a", "b")
	holdOlder(t, h, "one", "c", none)
	holdOlder(t, h, "two", "", "b", "a", none, none)
	holdNewer(t, h, "b")
	holdOlder(t, h, "", "", "a", none)
	if !h.Leave() {
		t.Error("there was no walk")
	}
	holdNoWalk(t, h)
	holdLines(t, h, "b", "a")
}

func TestLeave(t *testing.T) {
	h := entered(t, 9, "a", "b", "c")
	if h.Leave() {
		t.Error("there was a walk")
	}
	holdOlder(t, h, "one", "", "c", "b")
	if !h.Leave() || h.Leave() {
		t.Error("Leave")
	}
	holdNoWalk(t, h)
	holdOlder(t, h, "two", "b", "b")
	holdNewer(t, h, "two")
	holdNoWalk(t, h)
	holdOlder(t, h, "three", "", "c")
	holdLines(t, h, "c", "b", "a")
}

// What only tells of a history leaves its walk as it is.
func TestTelling(t *testing.T) {
	h := entered(t, 9, "a", "b", "c")
	holdOlder(t, h, "draft", "", "c")
	for _, want := range []string{"b", "a", none} {
		h.Find("a", 0)
		h.Find("z", 0)
		h.Line(2)
		h.Line(-1)
		h.Save()
		for range h.All() {
		}
		holdOlder(t, h.Fork(), "", "", want)
		h.Fork().Leave()
		holdOlder(t, h, "", "", want)
	}
	holdNewer(t, h, "b", "c", "draft", none)
}

// P14.3

func TestFind(t *testing.T) {
	h := entered(t, 9, "中文 a", "cab", "b", "ab ab")
	for _, x := range []struct {
		text string
		from int
		i    int
		ok   bool
	}{
		{"ab", 0, 0, true}, {"ab", -1, 0, true}, {"ab", math.MinInt, 0, true}, {"ab", 1, 2, true}, {"ab", 2, 2, true}, {"ab", 3, 0, false},
		{"b", 0, 0, true}, {"b", 1, 1, true}, {"b", 2, 2, true}, {"ab ab", 0, 0, true}, {"ab ab ", 0, 0, false}, {"b a", 0, 0, true},
		{"", -5, 0, true}, {"", 0, 0, true}, {"", 2, 2, true}, {"", 3, 3, true}, {"", 4, 0, false}, {"", math.MaxInt, 0, false},
		{"", 1 << 32, 0, false}, {"a", 3, 3, true}, {"a", math.MaxInt, 0, false}, {"中", 0, 3, true}, {"文 ", 1, 3, true},
		{"\xb8", 0, 3, true}, {"\xff", 0, 0, false}, {"A", 0, 0, false}, {"\n", 0, 0, false}, {"ab\n", 0, 0, false}, {"b\tab", 0, 0, false},
		{"abc", 0, 0, false}, {"z", -1, 0, false}, {" ", 1, 3, true},
	} {
		if i, ok := h.Find(x.text, x.from); i != x.i || ok != x.ok {
			t.Errorf("Find(%q, %d) = %d, %v", x.text, x.from, i, ok)
		}
	}
	for _, from := range []int{-1, 0, 1} {
		if i, ok := entered(t, 1).Find("", from); i != 0 || ok {
			t.Errorf("without lines, Find(\"\", %d) = %d, %v", from, i, ok)
		}
	}
}

func TestLine(t *testing.T) {
	h := entered(t, 9)
	for n := range 4 {
		if h.Len() != n {
			t.Errorf("Len = %d, not %d", h.Len(), n)
		}
		for _, i := range outside(n) {
			if s, ok := h.Line(i); s != "" || ok {
				t.Errorf("of %d, Line(%d) = %q, %v", n, i, s, ok)
			}
		}
		for i := range n {
			if s, ok := h.Line(i); s != strconv.Itoa(n-1-i) || !ok {
				t.Errorf("of %d, Line(%d) = %q, %v", n, i, s, ok)
			}
		}
		h.Add(strconv.Itoa(n))
	}
}

// yielded writes what an iterator yields while something is done.
func yielded(seq iter.Seq2[int, string], meanwhile func()) string {
	var all strings.Builder
	for i, s := range seq {
		all.WriteString(strconv.Itoa(i) + s)
		if meanwhile != nil {
			meanwhile()
		}
	}
	return all.String()
}

// The iterator yields what the lines were when the ranging began, whatever is done
// meanwhile; the next time it yields what they are then.
func TestAllBegins(t *testing.T) {
	h := entered(t, 3)
	all := h.All()
	if got := yielded(all, nil); got != "" {
		t.Errorf("without lines it yields %s", got)
	}
	for _, s := range []string{"a", "b", "c"} {
		h.Add(s)
	}
	if got := yielded(all, nil) + yielded(all, nil); got != "0c1b2a0c1b2a" {
		t.Errorf("it yields %s", got)
	}
	n := 0
	if got := yielded(all, func() { n++; h.Add("a"); h.Add(strings.Repeat("x", n)) }); got != "0c1b2a" {
		t.Errorf("while lines are added, it yields %s", got)
	}
	if got := yielded(all, func() { h.Older("", ""); h.Leave(); h.Add("z") }); got != "0xxx1a2xx" {
		t.Errorf("behind that it yields %s", got)
	}
	holdLines(t, h, "z", "xxx", "a")
	var inside string
	yielded(all, func() { inside += yielded(all, func() { h.Add("y") }) + "," })
	if inside != "0z1xxx2a,0y1z2xxx,0y1z2xxx," {
		t.Errorf("inside each other they yield %s", inside)
	}
}

func TestAllStops(t *testing.T) {
	h := entered(t, 9, "a", "b", "c", "d")
	for stop := 1; stop <= 4; stop++ {
		n := 0
		h.All()(func(int, string) bool {
			n++
			return n < stop
		})
		if n != stop {
			t.Errorf("stopped behind %d, it yields %d", stop, n)
		}
	}
}

// P14.4

func TestSaveLoad(t *testing.T) {
	long := strings.Repeat("x", 4096)
	for _, s := range []string{
		"", "a\n", "a\nb\n", "b\na\n", "ls\ncat x\ncd\n", " \n", " \n  \n", "e\u0301 中\n", "\ufffd\n", "a b\nab\n", "a\nA\n",
		long + "\n", strings.Repeat("中"+marks[:60], 4096) + "\n", long + "\ny\n", "a" + marks + "\n",
	} {
		h, e := Load(3, s)
		if h == nil || e != api.OK {
			t.Errorf("Load(%.20q) = %v, %d", s, h, e)
			continue
		}
		if got := h.Save(); got != s {
			t.Errorf("%.20q is saved as %.20q", s, got)
		}
		lines := strings.Split(strings.TrimSuffix(s, "\n"), "\n")
		slices.Reverse(lines)
		if s == "" {
			lines = nil
		}
		holdLines(t, h, lines...)
		holdNoWalk(t, h)
		holdLines(t, entered(t, 3, strings.Split(s, "\n")[:len(lines)]...), lines...)
	}
}

func TestLoadRefuses(t *testing.T) {
	for e, texts := range map[api.Errno][]string{
		api.ErrForm: {
			"a", "a\nb", "\n", "a\n\n", "\na\n", "a\n\nb\n", "\n\n", "a\r\n", "a\tb\n", "\a\n", "a\x00\n", "\u0301\n", "\u0301a\n", "\xff\n",
			"a\xc3\n", "a" + marks + "\u0301\n", strings.Repeat("x", 4097) + "\n", "a\n" + strings.Repeat("中", 4097) + "\n", "a\u0085b\n", "\u200b\n",
			// What the others would refuse, too.
			"a\na", "a\na\n\n", "a\na\n\t\n", "a\nb\nc\nd", "a\nb\nc\nd\n\a\n", "a\na\nb\nc\nd\ne\n\n", "a\r\na\r\n",
		},
		api.ErrArg:  {"a\na\n", "a\nb\na\n", "b\na\na\n", "a\nb\nc\na\n", "a\nb\nc\nd\nd\n", "a\na\nb\nc\nd\n", " \n \n"},
		api.ErrMany: {"a\nb\nc\nd\n", "a\nb\nc\nd\ne\n"},
	} {
		for _, s := range texts {
			if h, got := Load(3, s); h != nil || got != e {
				t.Errorf("Load(%.20q) = %v, %d and not %d", s, h, got, e)
			}
		}
	}
}

// numbered returns n lines, each with its line feed.
func numbered(n int) string {
	var s strings.Builder
	for i := range n {
		s.WriteString(strconv.Itoa(i) + "\n")
	}
	return s.String()
}

func TestLoadMost(t *testing.T) {
	for _, most := range []int{1, 2, 255, 256} {
		for n := most - 1; n <= most+1; n++ {
			h, e := Load(most, numbered(n))
			if want := map[bool]api.Errno{true: api.ErrMany}[n > most]; e != want || (h != nil) != (e == api.OK) {
				t.Errorf("Load of %d lines of %d = %v, %d", n, most, h, e)
			}
			if h == nil {
				continue
			}
			if last, _ := h.Line(0); h.Len() != n || n > 0 && last != strconv.Itoa(n-1) {
				t.Errorf("of %d lines the first is %q", h.Len(), last)
			}
			// What is loaded has the limit that was given, too.
			if !h.Add("new") || h.Len() != min(n+1, most) {
				t.Errorf("one more than %d of %d are %d", n, most, h.Len())
			}
		}
	}
}

// However many lines a text has, it is known which error goes first.
func TestLoadMany(t *testing.T) {
	began := time.Now()
	s := numbered(200000)
	for e, text := range map[api.Errno]string{api.ErrMany: s, api.ErrArg: s + "0\n", api.ErrForm: s + "0\n\n"} {
		if h, got := Load(256, text); h != nil || got != e {
			t.Errorf("Load = %v, %d and not %d", h, got, e)
		}
	}
	if d := time.Since(began); d > time.Minute {
		t.Errorf("it took %v", d)
	}
}

func TestFork(t *testing.T) {
	h := entered(t, 3, "a", "b", "c")
	f := h.Fork()
	if f == nil || f == h {
		t.Fatal("no copy")
	}
	holdLines(t, f, "c", "b", "a")
	holdNoWalk(t, f)
	if !f.Add("d") || !f.Add("b") {
		t.Error("the copy takes no line")
	}
	holdLines(t, f, "b", "d", "c")
	holdLines(t, h, "c", "b", "a")
	if !h.Add("a") {
		t.Error("what was copied takes no line")
	}
	holdLines(t, h, "a", "c", "b")
	holdLines(t, f, "b", "d", "c")
	holdLines(t, entered(t, 3).Fork())
}

// A copy has the same walk, and each goes on by itself.
func TestForkWalks(t *testing.T) {
	h := entered(t, 9, "ab", "b", "ac", "ad")
	holdOlder(t, h, "draft", "a", "ad", "ac")
	f, g := h.Fork(), h.Fork()
	holdOlder(t, f, "", "", "ab", none)
	holdNewer(t, g, "ad", "draft", none)
	holdOlder(t, g, "other", "", "ad", "ac", "b")
	if !h.Fork().Leave() {
		t.Error("the copy has no walk")
	}
	holdNewer(t, h, "ad")
	h.Add("new")
	holdNoWalk(t, h)
	holdNewer(t, f, "ac", "ad", "draft", none)
	holdNewer(t, g, "ac", "ad", "other", none)
	holdLines(t, f, "ad", "ac", "b", "ab")
	holdOlder(t, h.Fork(), "", "", "new")
	holdNoWalk(t, h)
}

// General rule 4: a copy shares no list with what was copied.
func TestNothingShared(t *testing.T) {
	h := entered(t, 3, "a", "b", "c")
	holdOlder(t, h, "draft", "", "c")
	f := h.Fork()
	if &h.lines[0] == &f.lines[0] {
		t.Error("they share their lines")
	}
	lines := f.lines
	f.Add("d")
	if fmt.Sprint(lines) != "[c b a]" {
		t.Errorf("the lines that were ranged over become %q", lines)
	}
}

// P14.5: a walk changes no line; the greatest history is walked through.
func TestLongestWalk(t *testing.T) {
	s := numbered(256)
	h, e := Load(256, s)
	if e != api.OK {
		t.Fatal(e)
	}
	for range 2 {
		for i := 255; i >= 0; i-- {
			holdOlder(t, h, "draft", "", strconv.Itoa(i))
		}
		holdOlder(t, h, "draft", "", none)
		for i := 1; i < 256; i++ {
			holdNewer(t, h, strconv.Itoa(i))
		}
		holdNewer(t, h, "draft", none)
	}
	holdOlder(t, h, "25", "25", "255", "254", "253", "252", "251", "250", none)
	holdNewer(t, h, "251", "252", "253", "254", "255", "25", none)
	if h.Save() != s {
		t.Error("a walk changes the lines")
	}
}

// A draft and a beginning are any bytes, however many.
func TestLongDraft(t *testing.T) {
	h := entered(t, 2, strings.Repeat("x", 4096), "y")
	draft := strings.Repeat("\x00\xff\n", 100000)
	holdOlder(t, h, draft, "", "y")
	holdNewer(t, h, draft, none)
	holdOlder(t, h, "", strings.Repeat("x", 4097), none)
	holdOlder(t, h, strings.Repeat("x", 4096), "x", none)
	holdOlder(t, h, strings.Repeat("x", 4097), strings.Repeat("x", 4096), strings.Repeat("x", 4096), none)
}

// P14.6, P14.7 at the greatest history of the longest lines.
func TestLongest(t *testing.T) {
	rest := strings.Repeat("a\u0301", 4092)
	h := entered(t, 256)
	for i := range 257 {
		if !h.Add(strconv.Itoa(1000+i) + rest) {
			t.Fatalf("line %d is refused", i)
		}
	}
	s := h.Save()
	f, e := Load(256, s)
	if e != api.OK || f.Len() != 256 || f.Save() != s {
		t.Errorf("Load of Save = %d", e)
	}
	if last, _ := f.Line(255); last != "1001"+rest {
		t.Errorf("the last line is %.9q", last)
	}
	if i, ok := f.Find("1001a", 7); i != 255 || !ok {
		t.Errorf("Find = %d, %v", i, ok)
	}
}

// Only the chapter's methods can be called on a history, and none of its parts be
// reached.
func TestNoOtherMethods(t *testing.T) {
	var names []string
	methods := reflect.TypeFor[*History]()
	for i := range methods.NumMethod() {
		names = append(names, methods.Method(i).Name)
	}
	want := []string{"Add", "All", "Find", "Fork", "Leave", "Len", "Line", "Newer", "Older", "Save"}
	if !slices.Equal(names, want) {
		t.Errorf("the methods are %q", names)
	}
	for i := range methods.Elem().NumField() {
		if f := methods.Elem().Field(i); f.IsExported() {
			t.Errorf("the field %s can be changed", f.Name)
		}
	}
}

// What is no history: nil, composed, or copied from one that was made.
func TestInvalid(t *testing.T) {
	made := entered(t, 9, "a", "b", "c")
	holdOlder(t, made, "draft", "", "c", "b")
	copied, forked := *made, *made.Fork()
	type composed struct{ History }
	inside := composed{*made}
	for name, h := range map[string]*History{
		"nil": nil, "zero": {}, "a copy": &copied, "a copy of a copy": &forked, "a part": &inside.History,
	} {
		holdInvalid(t, name, h)
	}
	holdLines(t, made, "c", "b", "a")
	holdOlder(t, made, "", "", "a")
	holdNewer(t, made, "b", "c", "draft")
}

func holdInvalid(t *testing.T, name string, h *History) {
	t.Helper()
	for range 2 {
		for _, s := range []string{"", "a", "c", "new", "\xff"} {
			if h.Add(s) {
				t.Errorf("%s: it takes %q", name, s)
			}
			holdOlder(t, h, s, "", none)
			holdOlder(t, h, "", s, none)
			for from := -1; from <= 3; from++ {
				if i, ok := h.Find(s, from); i != 0 || ok {
					t.Errorf("%s: Find(%q, %d) = %d, %v", name, s, from, i, ok)
				}
			}
		}
		holdNoWalk(t, h)
		for i := -1; i <= 4; i++ {
			if s, ok := h.Line(i); s != "" || ok {
				t.Errorf("%s: Line(%d) = %q, %v", name, i, s, ok)
			}
		}
		if h.Len() != 0 || h.Save() != "" || h.Fork() != nil {
			t.Errorf("%s: it has lines, or a copy", name)
		}
		if all := h.All(); all == nil || yielded(all, nil) != "" {
			t.Errorf("%s: what All returns", name)
		}
	}
}
