package keymap

import (
	"fmt"
	"iter"
	"maps"
	"math"
	"slices"
	"strings"
	"testing"

	"placard/api"
)

// Short forms of keys.

func text(s string) api.Key    { return api.Key{Code: api.Text, S: s} }
func ctrl(s string) api.Key    { return api.Key{Code: api.Ctrl, S: s} }
func fn(n int) api.Key         { return api.Key{Code: api.Func, N: n} }
func plain(c api.Code) api.Key { return api.Key{Code: c} }
func pasteOf(s string) api.Key { return api.Key{Code: api.Paste, S: s} }

func alt(k api.Key) api.Key {
	k.Alt = true
	return k
}

func shift(k api.Key) api.Key {
	k.Shift = true
	return k
}

func ctl(k api.Key) api.Key {
	k.Ctl = true
	return k
}

// tell writes a key, of a long S only its beginning and its length.
func tell(k api.Key) string {
	return fmt.Sprintf("{%d %.40q (%d) %d %v %v %v}", k.Code, k.S, len(k.S), k.N, k.Alt, k.Ctl, k.Shift)
}

// long is as much as may be pasted.
var long = strings.Repeat("p", api.MaxPaste)

// P8.1: Check

func TestCheck(t *testing.T) {
	for _, c := range []struct {
		k    api.Key
		want api.Errno
	}{
		{text("a"), api.OK},
		{text(""), api.OK},
		{text("e\u0301 and more\n"), api.OK},
		{text("\xff\x00"), api.OK},
		{text(long), api.OK},
		{text(long + "p"), api.ErrKeymap},
		{alt(text(long)), api.OK},
		{alt(text(long + "p")), api.ErrKeymap},
		{pasteOf(""), api.OK},
		{pasteOf("two\nlines"), api.OK},
		{pasteOf(long), api.OK},
		{pasteOf(long + "p"), api.ErrKeymap},
		{ctrl(""), api.ErrKeymap},
		{ctrl("ab"), api.ErrKeymap},
		{ctrl("é"), api.ErrKeymap},
		{ctrl("i"), api.OK},
		{plain(api.NoCode), api.ErrKeymap},
		{plain(api.Text), api.OK},
		{plain(api.Func), api.ErrKeymap},
		{plain(api.Func + 1), api.ErrKeymap},
		{plain(-1), api.ErrKeymap},
		{plain(math.MaxInt), api.ErrKeymap},
		{plain(math.MinInt), api.ErrKeymap},
		{fn(1), api.OK},
		{fn(12), api.OK},
		{fn(13), api.ErrKeymap},
		{fn(-1), api.ErrKeymap},
		{fn(math.MaxInt), api.ErrKeymap},
		{fn(math.MinInt), api.ErrKeymap},
		{api.Key{Code: api.Func, N: 1, S: "1"}, api.ErrKeymap},
		{api.Key{Code: api.NoCode, N: 1}, api.ErrKeymap},
		{api.Key{Code: api.NoCode, S: "a"}, api.ErrKeymap},
		{api.Key{Code: api.Text, S: "a", N: 1}, api.ErrKeymap},
		{api.Key{Code: api.Paste, S: "a", N: -1}, api.ErrKeymap},
		{api.Key{Code: api.Ctrl, S: "a", N: 1}, api.ErrKeymap},
	} {
		if got := Check(c.k); got != c.want {
			t.Errorf("Check(%s) = %d, not %d", tell(c.k), got, c.want)
		}
		for _, k := range modified(c.k) {
			if got := Check(k); got != c.want {
				t.Errorf("Check(%s) = %d, not %d: modifiers change nothing", tell(k), got, c.want)
			}
		}
	}
}

// modified returns a key with each set of modifiers.
func modified(k api.Key) []api.Key {
	var all []api.Key
	for i := range 8 {
		k.Alt, k.Ctl, k.Shift = i&4 > 0, i&2 > 0, i&1 > 0
		all = append(all, k)
	}
	return all
}

func TestCheckSimple(t *testing.T) {
	for code := api.Enter; code <= api.PageDown; code++ {
		if e := Check(plain(code)); e != api.OK {
			t.Errorf("Check of the code %d alone: %d", code, e)
		}
		for _, k := range []api.Key{{Code: code, S: "a"}, {Code: code, S: "\x00"}, {Code: code, N: 1}, {Code: code, N: -1}} {
			if e := Check(k); e != api.ErrKeymap {
				t.Errorf("Check(%s) = %d", tell(k), e)
			}
		}
	}
}

func TestCheckCtrl(t *testing.T) {
	for b := range 256 {
		want := api.ErrKeymap
		if strings.IndexByte(`abcdefghijklmnopqrstuvwxyz@[\]^_`, byte(b)) >= 0 {
			want = api.OK
		}
		if got := Check(ctrl(string([]byte{byte(b)}))); got != want {
			t.Errorf("Check of Ctrl with the byte %d: %d, not %d", b, got, want)
		}
	}
}

// P8.1: Name, Key

// keysByName are keys of every code, and the edges.
var keysByName = map[string]api.Key{
	"text":                    text(""),
	"ctl-shift-text":          ctl(shift(text(""))),
	"alt-text.":               alt(text("")),
	"alt-text.b":              alt(text("b")),
	"alt-text.B":              alt(text("B")),
	"alt-text..":              alt(text(".")),
	"alt-text.text.alt-":      alt(text("text.alt-")),
	"alt-text.\xff\x00":       alt(text("\xff\x00")),
	"alt-text.e\u0301":        alt(text("e\u0301")),
	"alt-text.\u00e9":         alt(text("\u00e9")),
	"alt-shift-text.x":        alt(shift(text("x"))),
	"alt-ctl-text.x":          alt(ctl(text("x"))),
	"alt-ctl-shift-text.x":    alt(ctl(shift(text("x")))),
	"alt-text." + long:        alt(text(long)),
	"enter":                   plain(api.Enter),
	"tab":                     plain(api.Tab),
	"backtab":                 plain(api.BackTab),
	"escape":                  plain(api.Escape),
	"backspace":               plain(api.Backspace),
	"delete":                  plain(api.Delete),
	"up":                      plain(api.Up),
	"down":                    plain(api.Down),
	"left":                    plain(api.Left),
	"right":                   plain(api.Right),
	"home":                    plain(api.Home),
	"end":                     plain(api.End),
	"pageup":                  plain(api.PageUp),
	"pagedown":                plain(api.PageDown),
	"paste":                   pasteOf(""),
	"alt-paste":               alt(pasteOf("")),
	"ctrl-a":                  ctrl("a"),
	"ctrl-z":                  ctrl("z"),
	"ctrl-@":                  ctrl("@"),
	"ctrl-[":                  ctrl("["),
	"ctrl-\\":                 ctrl("\\"),
	"ctrl-]":                  ctrl("]"),
	"ctrl-^":                  ctrl("^"),
	"ctrl-_":                  ctrl("_"),
	"ctl-ctrl-c":              ctl(ctrl("c")),
	"alt-ctl-shift-ctrl-a":    alt(ctl(shift(ctrl("a")))),
	"f1":                      fn(1),
	"f9":                      fn(9),
	"f10":                     fn(10),
	"f12":                     fn(12),
	"shift-f11":               shift(fn(11)),
	"alt-left":                alt(plain(api.Left)),
	"ctl-left":                ctl(plain(api.Left)),
	"shift-left":              shift(plain(api.Left)),
	"alt-ctl-left":            alt(ctl(plain(api.Left))),
	"alt-shift-left":          alt(shift(plain(api.Left))),
	"ctl-shift-left":          ctl(shift(plain(api.Left))),
	"alt-ctl-shift-left":      alt(ctl(shift(plain(api.Left)))),
	"alt-ctl-shift-backspace": alt(ctl(shift(plain(api.Backspace)))),
}

func TestNames(t *testing.T) {
	for name, k := range keysByName {
		if got := Name(k); got != name {
			t.Errorf("Name(%s) = %.40q, not %.40q", tell(k), got, name)
		}
		if got, e := Key(name); got != k || e != api.OK {
			t.Errorf("Key(%.40q) = %s, %d, not %s", name, tell(got), e, tell(k))
		}
	}
}

// Name leaves S out of what has it in no name.
func TestNameOfAnyText(t *testing.T) {
	for _, s := range []string{"a", ".", "e\u0301", "\xff", "enter", long} {
		for _, c := range []struct {
			k    api.Key
			name string
		}{
			{text(s), "text"},
			{shift(text(s)), "shift-text"},
			{ctl(shift(text(s))), "ctl-shift-text"},
			{pasteOf(s), "paste"},
			{alt(pasteOf(s)), "alt-paste"},
			{alt(ctl(shift(pasteOf(s)))), "alt-ctl-shift-paste"},
		} {
			if got := Name(c.k); got != c.name {
				t.Errorf("Name(%s) = %.40q, not %q", tell(c.k), got, c.name)
			}
		}
	}
}

func TestNameOfNoKey(t *testing.T) {
	for _, k := range notValid() {
		if got := Name(k); got != "" {
			t.Errorf("Name(%s) = %.40q", tell(k), got)
		}
	}
}

// notValid returns keys that there can't be.
func notValid() []api.Key {
	return []api.Key{
		{}, {Alt: true}, {S: "a"}, {N: 1}, plain(-1), plain(19), plain(math.MaxInt), plain(math.MinInt),
		ctrl(""), ctrl("A"), ctrl("ab"), ctrl("`"), ctrl("{"), ctrl("?"), ctrl("\x01"), alt(ctrl("1")),
		fn(0), fn(13), fn(-1), fn(math.MaxInt), fn(math.MinInt), shift(fn(0)),
		text(long + "p"), alt(text(long + "p")), pasteOf(long + "p"),
		{Code: api.Text, N: 1}, {Code: api.Text, S: "a", N: 1, Alt: true}, {Code: api.Paste, N: 1},
		{Code: api.Left, S: "a"}, {Code: api.Left, N: 1}, {Code: api.Func, S: "1", N: 1}, {Code: api.Ctrl, S: "a", N: 1},
	}
}

func TestKeyOfNoName(t *testing.T) {
	for _, name := range []string{
		"", " ", "-", ".", "alt-", "ctl-", "shift-", "alt-ctl-shift-", "alt", "ctl", "shift", "alt--left",
		"ctl-alt-left", "shift-alt-left", "shift-ctl-left", "alt-alt-left", "ctl-ctl-left", "shift-shift-left",
		"alt-ctl-alt-left", "meta-left", "Alt-left", "alt_left", "altleft",
		"Left", "LEFT", "left ", " left", "lef", "leftt", "left.", "left-", "left.a", "left\x00", "up1", "updown",
		"text.", "text.a", "texta", "tex", "alt-text", "ctl-text.", "ctl-text.a", "shift-text.a", "alt-ctl-shift-text",
		"alt-text" + "a", "alt-textual", "Text", "text-a", "alt-text-a", "alt-text." + long + "p",
		"paste.", "paste.a", "paste-a", "alt-paste.a", "alt-paste.",
		"ctrl", "ctrl-", "ctrl-A", "ctrl-ab", "ctrl-1", "ctrl- ", "ctrl-é", "ctrl-?", "ctrl.a", "alt-ctrl-", "ctrla", "Ctrl-a", "ctl-a",
		"ctrl-left", "ctrl-f1", "ctrl-ctrl-a", "ctrl-alt-left",
		"f", "f0", "f00", "f01", "f012", "f13", "f99", "f-1", "f+1", "f1 ", "f 1", "f1.0", "f1_0", "f0x1", "fa", "ff", "F1", "f١", "f-",
		"f99999999999999999999", "f18446744073709551617", "f4294967297", "func", "f1f1",
		"nocode", "none", "1", "2", "backTab", "back-tab", "page-up", "pageUp", "shift-tab ", "insert", "space", "esc", "del", "pgup",
	} {
		if k, e := Key(name); k != (api.Key{}) || e != api.ErrKeymap {
			t.Errorf("Key(%.40q) = %s, %d", name, tell(k), e)
		}
	}
}

// P8.2: Word, Act

const chapterWords = "left, right, wordleft, wordright, home, end, eraseback, erasehere, killend, killhome, killword, killback, yank, yankpop, undo, swap, clear, older, newer"

func TestWords(t *testing.T) {
	all := strings.Split(chapterWords, ", ")
	if len(all) != int(api.Newer) {
		t.Fatalf("the chapter has %d words", len(all))
	}
	for i, word := range all {
		a := api.Act(i + 1)
		if got := Word(a); got != word {
			t.Errorf("Word(%d) = %q, not %q", a, got, word)
		}
		if got, ok := Act(word); got != a || !ok {
			t.Errorf("Act(%q) = %d, %v, not %d", word, got, ok, a)
		}
	}
}

func TestNoWords(t *testing.T) {
	for _, a := range noActions() {
		if got := Word(a); got != "" {
			t.Errorf("Word(%d) = %q", a, got)
		}
	}
	for _, word := range []string{"", " ", "Left", "LEFT", "left ", " left", "lef", "leftt", "none", "noact", "1", "word", "word-left", "wordleft,", "yank pop", "left, right", "left\x00", "\xff", "ctrl-b", "up", long} {
		if got, ok := Act(word); got != 0 || ok {
			t.Errorf("Act(%.40q) = %d, %v", word, got, ok)
		}
	}
}

// noActions returns numbers of no action.
func noActions() []api.Act {
	return []api.Act{0, -1, 20, 21, 255, 256, 257, math.MaxInt, math.MinInt, math.MaxInt32 + 1}
}

// P8.3: New

// empty holds that a map binds nothing.
func empty(t *testing.T, m *Map) {
	t.Helper()
	if m == nil || m.Len() != 0 {
		t.Fatalf("there is a binding: %v", m)
	}
	for name, a := range m.All() {
		t.Errorf("All yields %q, %d", name, a)
	}
	for a := api.NoAct; a <= api.Newer+1; a++ {
		if l := m.Keys(a); len(l) != 0 {
			t.Errorf("Keys(%d) = %q", a, l)
		}
	}
	for _, k := range keysByName {
		if a, ok := m.Act(k); a != 0 || ok {
			t.Errorf("Act(%s) = %d, %v", tell(k), a, ok)
		}
		if m.Drop(k) {
			t.Errorf("Drop(%s) found a binding", tell(k))
		}
	}
}

func TestNew(t *testing.T) {
	empty(t, New())
	m, other := New(), New()
	m.Bind(plain(api.Left), api.GoLeft)
	empty(t, other)
}

// P8.3: Usual

const chapterUsual = "Left: left; Ctrl b: left; Right: right; Ctrl f: right; Alt Left: wordleft; Alt Text b: wordleft; Ctl Left: wordleft; Alt Right: wordright; Alt Text f: wordright; Ctl Right: wordright; Home: home; Ctrl a: home; End: end; Ctrl e: end; Backspace: eraseback; Ctrl h: eraseback; Delete: erasehere; Ctrl d: erasehere; Ctrl k: killend; Ctrl u: killhome; Alt Text d: killword; Ctrl w: killback; Alt Backspace: killback; Ctrl y: yank; Alt Text y: yankpop; Ctrl _: undo; Ctrl t: swap; Ctrl l: clear; Up: older; Ctrl p: older; Down: newer; Ctrl n: newer"

// readKey reads a key as the chapter writes it.
func readKey(s string) api.Key {
	var k api.Key
	codes := map[string]api.Code{
		"Left": api.Left, "Right": api.Right, "Up": api.Up, "Down": api.Down, "Home": api.Home, "End": api.End,
		"Backspace": api.Backspace, "Delete": api.Delete, "Text": api.Text, "Ctrl": api.Ctrl,
	}
	for _, word := range strings.Split(s, " ") {
		switch code := codes[word]; {
		case word == "Alt":
			k.Alt = true
		case word == "Ctl":
			k.Ctl = true
		case code != api.NoCode:
			k.Code = code
		default:
			k.S = word
		}
	}
	return k
}

// readUsual returns the chapter's default map, by keys.
func readUsual() map[api.Key]api.Act {
	all := map[api.Key]api.Act{}
	for _, s := range strings.Split(chapterUsual, "; ") {
		key, word, _ := strings.Cut(s, ": ")
		all[readKey(key)] = api.Act(slices.Index(strings.Split(chapterWords, ", "), word) + 1)
	}
	return all
}

func TestUsual(t *testing.T) {
	m, want := Usual(), readUsual()
	if m.Len() != 32 || len(want) != 32 {
		t.Fatalf("Usual has %d bindings, the chapter %d", m.Len(), len(want))
	}
	for k, a := range want {
		if got, ok := m.Act(k); got != a || !ok {
			t.Errorf("Act(%s) = %d, %v, not %d", tell(k), got, ok, a)
		}
	}
	for _, c := range []struct {
		a    api.Act
		want string
	}{
		{api.GoLeft, "ctrl-b left"}, {api.GoRight, "ctrl-f right"},
		{api.WordLeft, "alt-left alt-text.b ctl-left"}, {api.WordRight, "alt-right alt-text.f ctl-right"},
		{api.GoHome, "ctrl-a home"}, {api.GoEnd, "ctrl-e end"},
		{api.EraseBack, "backspace ctrl-h"}, {api.EraseHere, "ctrl-d delete"},
		{api.KillEnd, "ctrl-k"}, {api.KillHome, "ctrl-u"}, {api.KillWord, "alt-text.d"}, {api.KillBack, "alt-backspace ctrl-w"},
		{api.Yank, "ctrl-y"}, {api.YankPop, "alt-text.y"}, {api.Undo, "ctrl-_"}, {api.Swap, "ctrl-t"}, {api.Clear, "ctrl-l"},
		{api.Older, "ctrl-p up"}, {api.Newer, "ctrl-n down"},
	} {
		if got := strings.Join(m.Keys(c.a), " "); got != c.want {
			t.Errorf("Keys(%d) = %s, not %s", c.a, got, c.want)
		}
	}
}

func TestUsualBindsNoOther(t *testing.T) {
	m, want := Usual(), readUsual()
	for _, k := range pool() {
		if a, ok := m.Act(k); a != want[k] || ok != (want[k] != 0) {
			t.Errorf("Act(%s) = %d, %v", tell(k), a, ok)
		}
	}
}

// pool returns valid keys: of all codes and modifiers, with each S and N that
// can be in a name; of Text and Paste, some.
func pool() []api.Key {
	var all []api.Key
	for code := api.Enter; code <= api.PageDown; code++ {
		all = append(all, modified(plain(code))...)
	}
	for _, s := range strings.Split(`abcdefghijklmnopqrstuvwxyz@[\]^_`, "") {
		all = append(all, modified(ctrl(s))...)
	}
	for n := range 12 {
		all = append(all, modified(fn(n+1))...)
	}
	for _, s := range []string{"", "a", "b", "B", ".", "ab", "text", "e\u0301", "\u00e9", "\xff"} {
		all = append(all, modified(text(s))...)
		all = append(all, modified(pasteOf(s))...)
	}
	return all
}

func TestUsualIsNew(t *testing.T) {
	m := Usual()
	m.Bind(plain(api.Left), api.GoHome)
	m.Drop(plain(api.Right))
	m.Bind(plain(api.Enter), api.Yank)
	if a, _ := Usual().Act(plain(api.Left)); a != api.GoLeft || Usual().Len() != 32 {
		t.Errorf("what is done to a default map changes the next one: %d", a)
	}
}

// P8.3: Bind

func TestBind(t *testing.T) {
	m := New()
	for k, name := range map[api.Key]string{plain(api.Enter): "enter", ctl(fn(3)): "ctl-f3", alt(text("z")): "alt-text.z", ctrl("g"): "ctrl-g"} {
		before := m.Len()
		for a := api.GoLeft; a <= api.Newer; a++ {
			if e := m.Bind(k, a); e != api.OK {
				t.Fatalf("Bind(%s, %d) = %d", tell(k), a, e)
			}
			if got, ok := m.Act(k); got != a || !ok || m.Len() != before+1 {
				t.Errorf("Act(%s) = %d, %v, not %d; %d bindings", tell(k), got, ok, a, m.Len())
			}
			if l := m.Keys(a); !slices.Contains(l, name) || a > 1 && slices.Contains(m.Keys(a-1), name) {
				t.Errorf("%s is bound to %d; Keys of it: %q", name, a, l)
			}
		}
	}
}

// same holds that a map still has the bindings that it had.
func same(t *testing.T, m *Map, before map[string]api.Act) {
	t.Helper()
	if now := maps.Collect(m.All()); !maps.Equal(now, before) || m.Len() != len(before) {
		t.Errorf("the bindings are %v now, and were %v; Len() = %d", now, before, m.Len())
	}
}

func TestBindRefuses(t *testing.T) {
	m := Usual()
	before := maps.Collect(m.All())
	for _, k := range notValid() {
		for _, a := range append(noActions(), api.GoLeft, api.Newer) {
			if e := m.Bind(k, a); e != api.ErrKeymap {
				t.Errorf("Bind(%s, %d) = %d", tell(k), a, e)
			}
		}
	}
	for _, a := range noActions() {
		for _, k := range []api.Key{plain(api.Left), plain(api.Enter), text("a")} {
			if e := m.Bind(k, a); e != api.ErrArg {
				t.Errorf("Bind(%s, %d) = %d", tell(k), a, e)
			}
		}
	}
	same(t, m, before)
}

// full returns a map with 512 bindings: all texts with Alt, of 3 bytes.
func full(t *testing.T) *Map {
	t.Helper()
	m := New()
	for i := range 512 {
		if m.Len() != i {
			t.Fatalf("Len() = %d, not %d", m.Len(), i)
		}
		if e := m.Bind(alt(text(fmt.Sprintf("%03d", i))), api.Act(i%19+1)); e != api.OK {
			t.Fatalf("binding %d: %d", i, e)
		}
	}
	return m
}

func TestBindMany(t *testing.T) {
	m := full(t)
	before := maps.Collect(m.All())
	for _, k := range []api.Key{plain(api.Left), alt(text("512")), alt(text("")), text(""), fn(12)} {
		if e := m.Bind(k, api.GoLeft); e != api.ErrMany {
			t.Errorf("Bind(%s) to a full map: %d", tell(k), e)
		}
		if e := m.Bind(k, 20); e != api.ErrArg {
			t.Errorf("Bind(%s) of no action to a full map: %d", tell(k), e)
		}
		if m.Drop(k) {
			t.Errorf("Drop(%s) found what was refused", tell(k))
		}
	}
	if e := m.Bind(fn(13), 20); e != api.ErrKeymap {
		t.Errorf("Bind of no key to no action, to a full map: %d", e)
	}
	same(t, m, before)
	for i := range 512 {
		k := alt(text(fmt.Sprintf("%03d", i)))
		if e := m.Bind(k, api.Undo); e != api.OK || m.Len() != 512 {
			t.Fatalf("Bind(%s), which is bound, to a full map: %d; %d bindings", tell(k), e, m.Len())
		}
	}
	if l := m.Keys(api.Undo); len(l) != 512 {
		t.Errorf("Keys(Undo) has %d keys", len(l))
	}
	if !m.Drop(alt(text("007"))) || m.Bind(plain(api.Left), api.GoLeft) != api.OK || m.Bind(alt(text("007")), api.Undo) != api.ErrMany {
		t.Error("where a key was dropped, one other may be bound")
	}
}

// A key that is bound by its name may be bound in a full map, too.
func TestBindManySameName(t *testing.T) {
	m := full(t)
	m.Drop(alt(text("000")))
	m.Bind(text("a"), api.GoLeft)
	if e := m.Bind(text("b"), api.GoRight); e != api.OK || m.Len() != 512 {
		t.Errorf("Bind of another text to a full map: %d; %d bindings", e, m.Len())
	}
	if a, ok := m.Act(text("a")); a != api.GoRight || !ok {
		t.Errorf("Act(text a) = %d, %v", a, ok)
	}
}

// P8.3: Drop, Act

func TestDrop(t *testing.T) {
	m := Usual()
	left := m.Len()
	for k, a := range readUsual() {
		if got, ok := m.Act(k); got != a || !ok {
			t.Errorf("Act(%s) = %d, %v, not %d", tell(k), got, ok, a)
		}
		if !m.Drop(k) {
			t.Errorf("Drop(%s) found no binding", tell(k))
		}
		left--
		if got, ok := m.Act(k); got != 0 || ok || m.Len() != left || m.Drop(k) {
			t.Errorf("Act(%s) = %d, %v when it is dropped; %d bindings", tell(k), got, ok, m.Len())
		}
		if slices.Contains(m.Keys(a), Name(k)) {
			t.Errorf("Keys(%d) has the dropped %s", a, Name(k))
		}
	}
	empty(t, m)
	if e := m.Bind(plain(api.Left), api.Clear); e != api.OK || m.Len() != 1 {
		t.Errorf("Bind when all is dropped: %d", e)
	}
}

func TestNotValidIsNotBound(t *testing.T) {
	for _, m := range []*Map{New(), Usual(), full(t)} {
		before := maps.Collect(m.All())
		for _, k := range notValid() {
			if a, ok := m.Act(k); a != 0 || ok || m.Drop(k) {
				t.Errorf("Act(%s) = %d, %v, or it was dropped", tell(k), a, ok)
			}
		}
		same(t, m, before)
	}
}

// P8.4: Keys

func TestKeys(t *testing.T) {
	m := New()
	in := []string{"alt-text.", "alt-text.e\u0301", "alt-text.a", "alt-text.\xff", "ctrl-^", "ctrl-_", "f1", "f10", "f2", "text", "up"}
	out := []string{"alt-text.A", "alt-text.ab", "alt-text.\u00e9", "ctl-up", "ctrl-a", "f11", "shift-tab"}
	for i, name := range append(slices.Clone(out), in...) {
		k, _ := Key(name)
		m.Bind(k, api.Act(i%2+1))
		m.Bind(k, api.Swap)
	}
	for _, name := range out {
		k, _ := Key(name)
		m.Bind(k, api.Undo)
	}
	slices.Sort(in)
	slices.Sort(out)
	if got := m.Keys(api.Swap); !slices.Equal(got, in) {
		t.Errorf("Keys(Swap) = %q, not %q", got, in)
	}
	if got := m.Keys(api.Undo); !slices.Equal(got, out) {
		t.Errorf("Keys(Undo) = %q, not %q", got, out)
	}
	if got := m.Keys(api.GoLeft); len(got) != 0 {
		t.Errorf("Keys of what no key does any more: %q", got)
	}
	for _, a := range noActions() {
		if got := m.Keys(a); len(got) != 0 {
			t.Errorf("Keys(%d) = %q", a, got)
		}
	}
}

func TestKeysAreNew(t *testing.T) {
	m := Usual()
	l := m.Keys(api.WordLeft)
	clear(l)
	_ = append(l[:0], "x", "y")
	if got := m.Keys(api.WordLeft); !slices.Equal(got, []string{"alt-left", "alt-text.b", "ctl-left"}) {
		t.Errorf("Keys(WordLeft) = %q after its last answer was changed", got)
	}
}

// P8.4: All

// bindings returns what an iterator yields, in its order.
func bindings(all iter.Seq2[string, api.Act]) []string {
	var l []string
	for name, a := range all {
		l = append(l, name+": "+Word(a))
	}
	return l
}

// wantUsual returns the bindings of the default map, in increasing order.
func wantUsual() []string {
	var l []string
	for k, a := range readUsual() {
		l = append(l, Name(k)+": "+Word(a))
	}
	slices.Sort(l)
	return l
}

func TestAll(t *testing.T) {
	m := Usual()
	if got, want := bindings(m.All()), wantUsual(); !slices.Equal(got, want) {
		t.Errorf("All yields %q, not %q", got, want)
	}
	m = New()
	for _, s := range []string{"b", "", "a\xff", "ab", "a", "\x00", "é", "B", "a\x00"} {
		m.Bind(alt(text(s)), api.Yank)
	}
	m.Bind(text("x"), api.Undo)
	m.Bind(plain(api.Tab), api.Swap)
	m.Bind(fn(2), api.Clear)
	m.Bind(fn(10), api.Clear)
	want := []string{"alt-text.: yank", "alt-text.\x00: yank", "alt-text.B: yank", "alt-text.a: yank", "alt-text.a\x00: yank", "alt-text.ab: yank", "alt-text.a\xff: yank", "alt-text.b: yank", "alt-text.é: yank", "f10: clear", "f2: clear", "tab: swap", "text: undo"}
	if got := bindings(m.All()); !slices.Equal(got, want) {
		t.Errorf("All yields %q, not %q", got, want)
	}
}

func TestAllStops(t *testing.T) {
	m := Usual()
	want := wantUsual()
	for n := range len(want) {
		all := m.All()
		var got []string
		for name, a := range all {
			got = append(got, name+": "+Word(a))
			if len(got) > n {
				break
			}
		}
		if !slices.Equal(got, want[:n+1]) {
			t.Errorf("stopped behind %d, All yields %q", n, got)
		}
		if got := bindings(all); !slices.Equal(got, want) {
			t.Errorf("All begins again with %q", got)
		}
	}
}

// The bindings count as they were when the iteration began, not when All was
// called, nor when they are yielded.
func TestAllWhenItBegan(t *testing.T) {
	m := Usual()
	all := m.All()
	m.Drop(plain(api.Home))
	m.Bind(plain(api.Enter), api.Undo)
	m.Bind(ctrl("a"), api.Undo)
	want := slices.DeleteFunc(wantUsual(), func(s string) bool { return s == "home: home" || s == "ctrl-a: home" })
	want = append(want, "enter: undo", "ctrl-a: undo")
	slices.Sort(want)
	var got []string
	for name, a := range all {
		if len(got) == 0 {
			for k := range readUsual() {
				m.Drop(k)
			}
			m.Bind(plain(api.Enter), api.Swap)
			m.Bind(shift(plain(api.Tab)), api.Swap)
			m.Bind(plain(api.Up), api.Yank)
		}
		got = append(got, name+": "+Word(a))
	}
	if !slices.Equal(got, want) {
		t.Errorf("All yields %q, not %q", got, want)
	}
	if got := bindings(all); !slices.Equal(got, []string{"enter: swap", "shift-tab: swap", "up: yank"}) {
		t.Errorf("begun later, All yields %q", got)
	}
}

func TestAllWithin(t *testing.T) {
	m := New()
	m.Bind(plain(api.Up), api.Older)
	m.Bind(plain(api.Down), api.Newer)
	all := m.All()
	var got []string
	for name := range all {
		m.Drop(plain(api.Down))
		for other := range all {
			got = append(got, name+" "+other)
		}
		m.Bind(plain(api.Left), api.GoLeft)
	}
	if want := []string{"down up", "up left", "up up"}; !slices.Equal(got, want) {
		t.Errorf("an iteration within an iteration: %q, not %q", got, want)
	}
}

// P8.4: Len, Fork

func TestLen(t *testing.T) {
	m := New()
	for i, k := range []api.Key{plain(api.Up), ctl(plain(api.Up)), text("a"), pasteOf("a"), alt(text("a")), alt(text("b"))} {
		for range 2 {
			m.Bind(k, api.Older)
			m.Bind(k, api.Newer)
			if m.Len() != i+1 {
				t.Errorf("Len() = %d with %s, not %d", m.Len(), tell(k), i+1)
			}
		}
	}
	m.Bind(text("b"), api.Older)
	m.Bind(pasteOf("b"), api.Older)
	if m.Len() != 6 {
		t.Errorf("Len() = %d; keys of one name are bound once", m.Len())
	}
}

func TestFork(t *testing.T) {
	m := Usual()
	before := maps.Collect(m.All())
	f := m.Fork()
	same(t, f, before)
	f.Bind(plain(api.Left), api.GoHome)
	f.Bind(plain(api.Enter), api.Yank)
	f.Drop(plain(api.Right))
	same(t, m, before)
	changed := maps.Collect(f.All())
	m.Bind(plain(api.Left), api.GoEnd)
	m.Drop(plain(api.Up))
	g := f.Fork()
	same(t, f, changed)
	f.Drop(plain(api.Left))
	same(t, g, changed)
	if g == f || f == m {
		t.Error("a copy is the map itself")
	}
	empty(t, New().Fork())
}

func TestForkOfAFullMap(t *testing.T) {
	m := full(t)
	f := m.Fork()
	if e := f.Bind(plain(api.Left), api.GoLeft); e != api.ErrMany {
		t.Errorf("Bind to the copy of a full map: %d", e)
	}
	f.Drop(alt(text("000")))
	if e := m.Bind(plain(api.Left), api.GoLeft); e != api.ErrMany {
		t.Errorf("Bind to a full map of whose copy a key was dropped: %d", e)
	}
	if e := f.Bind(plain(api.Left), api.GoLeft); e != api.OK {
		t.Errorf("Bind to the copy: %d", e)
	}
}

// Maps that are nil, or that no function of this package made

func TestInvalid(t *testing.T) {
	copied := *Usual()
	for what, m := range map[string]*Map{"nil": nil, "composed": {}, "new": new(Map), "copied": &copied} {
		for _, k := range append(notValid(), plain(api.Left), plain(api.Enter), alt(text("b"))) {
			for _, a := range append(noActions(), api.GoLeft) {
				if e := m.Bind(k, a); e != api.ErrNil {
					t.Errorf("%s: Bind(%s, %d) = %d", what, tell(k), a, e)
				}
			}
			if m.Drop(k) {
				t.Errorf("%s: Drop(%s) is true", what, tell(k))
			}
			if a, ok := m.Act(k); a != 0 || ok {
				t.Errorf("%s: Act(%s) = %d, %v", what, tell(k), a, ok)
			}
		}
		for a := api.NoAct; a <= api.Newer; a++ {
			if l := m.Keys(a); len(l) != 0 {
				t.Errorf("%s: Keys(%d) = %q", what, a, l)
			}
		}
		all := m.All()
		if all == nil {
			t.Fatalf("%s: All() is nil", what)
		}
		for name, a := range all {
			t.Errorf("%s: All yields %q, %d", what, name, a)
		}
		if m.Len() != 0 || m.Fork() != nil {
			t.Errorf("%s: Len() = %d, Fork() = %v", what, m.Len(), m.Fork())
		}
	}
}

// A copy that a caller made does nothing to the map that it was made of.
func TestInvalidCopy(t *testing.T) {
	m := Usual()
	before := maps.Collect(m.All())
	copied := *m
	copied.Bind(plain(api.Enter), api.Undo)
	copied.Drop(plain(api.Left))
	same(t, m, before)
}

// P8.5

func TestSameBinding(t *testing.T) {
	all := pool()
	for i, one := range all {
		m := New()
		a := api.Act(i%19 + 1)
		if e := m.Bind(one, a); e != api.OK {
			t.Fatalf("Bind(%s) = %d", tell(one), e)
		}
		for _, other := range all {
			got, ok := m.Act(other)
			if same := Name(one) == Name(other); ok != same || same && got != a || !same && got != 0 {
				t.Fatalf("%s and %s have the names %q and %q; where the first is bound to %d, the second is to %d", tell(one), tell(other), Name(one), Name(other), a, got)
			}
		}
		if n := m.Keys(a); len(n) != 1 || n[0] != Name(one) {
			t.Errorf("%s: Keys() = %q", tell(one), n)
		}
	}
}

// What is done by one key is done to all that have its name.
func TestOneBindingAName(t *testing.T) {
	m := New()
	m.Bind(text("a"), api.Older)
	m.Bind(text("b"), api.Newer)
	m.Bind(pasteOf("x\ny"), api.Undo)
	if a, ok := m.Act(text("a")); a != api.Newer || !ok {
		t.Errorf("Act(text a) = %d, %v", a, ok)
	}
	if !m.Drop(text(long)) || m.Drop(text("a")) || m.Len() != 1 || !m.Drop(pasteOf("")) {
		t.Error("dropping by another key of the same name")
	}
}

// P8.6

func TestRoundTrip(t *testing.T) {
	for _, k := range append(pool(), alt(text(long)), text(long), pasteOf(long)) {
		name := Name(k)
		back, e := Key(name)
		if e != api.OK || Check(back) != api.OK || Name(back) != name {
			t.Errorf("Key(%.40q) = %s, %d, whose name is %.40q", name, tell(back), e, Name(back))
		}
		if k.Code != back.Code || k.Alt != back.Alt || k.Ctl != back.Ctl || k.Shift != back.Shift || k.N != back.N {
			t.Errorf("%s has the name of %s", tell(k), tell(back))
		}
		free := k.Code == api.Paste || k.Code == api.Text && !k.Alt
		if free && back.S != "" || !free && back.S != k.S {
			t.Errorf("%s comes back as %s", tell(k), tell(back))
		}
	}
}
