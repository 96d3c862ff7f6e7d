package keyin

import (
	"bytes"
	"fmt"
	"math"
	"slices"
	"strings"
	"testing"

	"placard/api"
	"placard/runes"
)

// Short forms of keys.

func text(s string) api.Key       { return api.Key{Code: api.Text, S: s} }
func ctrl(s string) api.Key       { return api.Key{Code: api.Ctrl, S: s} }
func fn(n int) api.Key            { return api.Key{Code: api.Func, N: n} }
func plain(c api.Code) api.Key    { return api.Key{Code: c} }
func pasteOf(s string) api.Key    { return api.Key{Code: api.Paste, S: s} }
func keys(l ...api.Key) []api.Key { return l }

func alt(k api.Key) api.Key {
	k.Alt = true
	return k
}

func shift(k api.Key) api.Key {
	k.Shift = true
	return k
}

func ctl(k api.Key) api.Key {
	k.Ctl = true
	return k
}

// check is what bytes give that come to a new decoder, and how many wait then.
type check struct {
	s     string
	want  []api.Key
	waits int
}

// holds feeds the bytes at once, one by one, and in two pieces.
func holds(t *testing.T, checks ...check) {
	t.Helper()
	for _, c := range checks {
		for at := -1; at <= len(c.s); at++ {
			d := New()
			var got []api.Key
			if at < 0 {
				for i := range len(c.s) {
					got = append(got, d.Feed([]byte(c.s[i:i+1]))...)
				}
			} else {
				got = append(d.Feed([]byte(c.s[:at])), d.Feed([]byte(c.s[at:]))...)
			}
			if !slices.Equal(got, c.want) {
				t.Errorf("%q, cut at %d: the keys are %s, not %s", c.s, at, tell(got), tell(c.want))
			}
			if d.Waits() != c.waits || d.Pasting() {
				t.Errorf("%q, cut at %d: %d bytes wait, not %d; pasting %v", c.s, at, d.Waits(), c.waits, d.Pasting())
			}
		}
	}
}

// P7.1: New

func TestNew(t *testing.T) {
	d := New()
	if d == nil || d.Waits() != 0 || d.Pasting() {
		t.Fatalf("New() = %v", d)
	}
	if got := d.Feed(nil); len(got) != 0 || d.Waits() != 0 {
		t.Errorf("Feed(nil) = %s, %d wait", tell(got), d.Waits())
	}
	if got := d.Feed([]byte{}); len(got) != 0 || d.Waits() != 0 {
		t.Errorf("Feed of no bytes = %s, %d wait", tell(got), d.Waits())
	}
	if got := d.Tick(); len(got) != 0 {
		t.Errorf("Tick() = %s", tell(got))
	}
	other := New()
	d.Feed([]byte("\x1b["))
	if other.Waits() != 0 || d.Waits() != 2 {
		t.Errorf("of two decoders that are fed 0 and 2 bytes, %d and %d wait", other.Waits(), d.Waits())
	}
}

// P7.1: Feed. Bytes that are keys of their own.

func TestBytes(t *testing.T) {
	holds(t,
		check{"", nil, 0},
		check{"\r", keys(plain(api.Enter)), 0},
		check{"\n", keys(plain(api.Enter)), 0},
		check{"\r\n", keys(plain(api.Enter), plain(api.Enter)), 0},
		check{"\t", keys(plain(api.Tab)), 0},
		check{"\b\x7f", keys(plain(api.Backspace), plain(api.Backspace)), 0},
		check{"\x00\x01\x1a", keys(ctrl("@"), ctrl("a"), ctrl("z")), 0},
		check{"\x1c\x1d\x1e\x1f", keys(ctrl("\\"), ctrl("]"), ctrl("^"), ctrl("_")), 0},
		check{"\x07\x0b\x0c\x0e", keys(ctrl("g"), ctrl("k"), ctrl("l"), ctrl("n")), 0},
		check{" ~!@", keys(text(" "), text("~"), text("!"), text("@")), 0},
	)
	for b := range 256 {
		var want []api.Key
		switch {
		case b == 27 || b >= 0xc2 && b <= 0xf4:
			// These wait.
		case b == 13 || b == 10:
			want = keys(plain(api.Enter))
		case b == 9:
			want = keys(plain(api.Tab))
		case b == 8 || b == 127:
			want = keys(plain(api.Backspace))
		case b >= 1 && b <= 26:
			want = keys(ctrl(string(rune('a' + b - 1))))
		case b < 32:
			want = keys(ctrl(map[int]string{0: "@", 28: "\\", 29: "]", 30: "^", 31: "_"}[b]))
		case b < 127:
			want = keys(text(string(rune(b))))
		default:
			want = keys(text("\ufffd"))
		}
		d := New()
		got := d.Feed([]byte{byte(b)})
		if !slices.Equal(got, want) || (d.Waits() == 0) != (len(want) == 1) {
			t.Errorf("the byte %d: %s, %d wait; not %s", b, tell(got), d.Waits(), tell(want))
		}
	}
}

func TestRunes(t *testing.T) {
	wrong := text("\ufffd")
	holds(t,
		check{"aé中\U0001f600", keys(text("a"), text("é"), text("中"), text("\U0001f600")), 0},
		check{"e\u0301", keys(text("e"), text("\u0301")), 0},
		check{"\u0080\u009b", keys(text("\u0080"), text("\u009b")), 0},
		check{"\ufffd", keys(wrong), 0},
		check{"\x80\xbf\xc0\xc1\xf5\xff", keys(wrong, wrong, wrong, wrong, wrong, wrong), 0},
		check{"\xc3", nil, 1},
		check{"\xe4\xb8", nil, 2},
		check{"\xf0\x9f\x98", nil, 3},
		check{"a\xf0\x9f\x98", keys(text("a")), 3},
		check{"\xe4A", keys(wrong, text("A")), 0},
		check{"\xe4\xb8A", keys(wrong, wrong, text("A")), 0},
		check{"\xf0\x9f\x98A", keys(wrong, wrong, wrong, text("A")), 0},
		check{"\xe4\xb8\r", keys(wrong, wrong, plain(api.Enter)), 0},
		check{"\xe4\xb8\x1b", keys(wrong, wrong), 1},
		check{"\xe4\xb8\xe4", keys(wrong, wrong), 1},
		check{"\xe4\xe4\xb8\xad", keys(wrong, text("中")), 0},
		check{"\xed\xa0\x80", keys(wrong, wrong, wrong), 0},
		check{"\xf4\x90", keys(wrong, wrong), 0},
		check{"\xe0\x9f", keys(wrong, wrong), 0},
		check{"\xf0\x8f", keys(wrong, wrong), 0},
	)
	for r := range rune(0x110000) {
		if r < 32 || r == 127 || r >= 0xd800 && r < 0xe000 {
			continue
		}
		d := New()
		if got := d.Feed([]byte(string(r))); len(got) != 1 || got[0] != text(string(r)) || d.Waits() != 0 {
			t.Fatalf("the rune %d: %s", r, tell(got))
		}
	}
}

// P7.1: Feed. What begins with ESC.

func TestEscape(t *testing.T) {
	esc, wrong := plain(api.Escape), alt(text("\ufffd"))
	holds(t,
		check{"\x1b", nil, 1},
		check{"\x1b\x1b", keys(esc), 1},
		check{"\x1b\x1b\x1b", keys(esc, esc), 1},
		check{"\x1b\x1b[C", keys(esc, plain(api.Right)), 0},
		check{"\x1b\x1bOC", keys(esc, plain(api.Right)), 0},
		check{"\x1b\x1ba", keys(esc, alt(text("a"))), 0},
		check{"\x1b\x1b[", keys(esc), 2},
		check{"\x1ba", keys(alt(text("a"))), 0},
		check{"\x1bab", keys(alt(text("a")), text("b")), 0},
		check{"\x1b \x1bN\x1bP\x1b]", keys(alt(text(" ")), alt(text("N")), alt(text("P")), alt(text("]"))), 0},
		check{"\x1bo", keys(alt(text("o"))), 0},
		check{"\x1b\r\x1b\n", keys(alt(plain(api.Enter)), alt(plain(api.Enter))), 0},
		check{"\x1b\t", keys(alt(plain(api.Tab))), 0},
		check{"\x1b\b\x1b\x7f", keys(alt(plain(api.Backspace)), alt(plain(api.Backspace))), 0},
		check{"\x1b\x01\x1b\x00\x1b\x1f", keys(alt(ctrl("a")), alt(ctrl("@")), alt(ctrl("_"))), 0},
		check{"\x1bé", keys(alt(text("é"))), 0},
		check{"\x1b\U0001f600x", keys(alt(text("\U0001f600")), text("x")), 0},
		check{"\x1b\xc3", nil, 2},
		check{"\x1b\xf0\x9f\x98", nil, 4},
		check{"\x1b\xff", keys(wrong), 0},
		check{"\x1b\xe4A", keys(wrong, text("A")), 0},
		check{"\x1b\xe4\xb8A", keys(wrong, text("\ufffd"), text("A")), 0},
		check{"\x1b\xe4\x1b", keys(wrong), 1},
		check{"\x1b\xe4\x1b[A", keys(wrong, plain(api.Up)), 0},
	)
	for b := range 256 {
		d, alone := New(), New()
		got, want := d.Feed([]byte{27, byte(b)}), alone.Feed([]byte{byte(b)})
		switch b {
		case 27:
			want = keys(esc)
		case '[', 'O':
			want = nil
		}
		for i := range want {
			want[i].Alt = b != 27
		}
		waits := 0
		if len(want) == 0 {
			waits = 2
		} else if b == 27 {
			waits = 1
		}
		if !slices.Equal(got, want) || d.Waits() != waits {
			t.Errorf("ESC and the byte %d: %s, %d wait; not %s, %d", b, tell(got), d.Waits(), tell(want), waits)
		}
	}
}

func TestEscapeO(t *testing.T) {
	holds(t,
		check{"\x1bO", nil, 2},
		check{"\x1bOA\x1bOB\x1bOC\x1bOD", keys(plain(api.Up), plain(api.Down), plain(api.Right), plain(api.Left)), 0},
		check{"\x1bOH\x1bOF", keys(plain(api.Home), plain(api.End)), 0},
		check{"\x1bOP\x1bOQ\x1bOR\x1bOS", keys(fn(1), fn(2), fn(3), fn(4)), 0},
		check{"\x1bOEx", keys(text("x")), 0},
		check{"\x1bO@\x1bO~\x1bOOa", keys(text("a")), 0},
		check{"\x1bO[A", keys(text("A")), 0},
		check{"\x1bOZ\x1bOa\x1bOT", nil, 0},
		check{"\x1bO1A", keys(text("1"), text("A")), 0},
		check{"\x1bO?", keys(text("?")), 0},
		check{"\x1bO\x7f", keys(plain(api.Backspace)), 0},
		check{"\x1bO\r", keys(plain(api.Enter)), 0},
		check{"\x1bO\x05", keys(ctrl("e")), 0},
		check{"\x1bO\x1b", nil, 1},
		check{"\x1bO\x1bOA", keys(plain(api.Up)), 0},
		check{"\x1bO\x1b\x1b", keys(plain(api.Escape)), 1},
		check{"\x1bOé", keys(text("é")), 0},
		check{"\x1bO\xff", keys(text("\ufffd")), 0},
		check{"\x1bO\xe4", nil, 1},
	)
	for b := range 256 {
		d, alone := New(), New()
		got, want := d.Feed([]byte{27, 'O', byte(b)}), alone.Feed([]byte{byte(b)})
		if b >= 64 && b <= 126 {
			want = nil
			if k, ok := readLetters[string(rune(b))]; ok {
				want = keys(k)
			}
		}
		if !slices.Equal(got, want) || d.Waits() != alone.Waits() {
			t.Errorf("ESC O and the byte %d: %s, %d wait; not %s, %d", b, tell(got), d.Waits(), tell(want), alone.Waits())
		}
	}
}

// P7.1: Feed. Sequences.

func TestSequences(t *testing.T) {
	holds(t,
		check{"\x1b[1;5C", keys(ctl(plain(api.Right))), 0}, // the chapter's example
		check{"\x1b[A\x1b[B\x1b[C\x1b[D", keys(plain(api.Up), plain(api.Down), plain(api.Right), plain(api.Left)), 0},
		check{"\x1b[H\x1b[F\x1b[Z", keys(plain(api.Home), plain(api.End), plain(api.BackTab)), 0},
		check{"\x1b[1~\x1b[7~\x1b[4~\x1b[8~", keys(plain(api.Home), plain(api.Home), plain(api.End), plain(api.End)), 0},
		check{"\x1b[3~\x1b[5~\x1b[6~", keys(plain(api.Delete), plain(api.PageUp), plain(api.PageDown)), 0},
		check{"\x1b[11~\x1b[12~\x1b[13~\x1b[14~\x1b[15~", keys(fn(1), fn(2), fn(3), fn(4), fn(5)), 0},
		check{"\x1b[17~\x1b[18~\x1b[19~\x1b[20~\x1b[21~", keys(fn(6), fn(7), fn(8), fn(9), fn(10)), 0},
		check{"\x1b[23~\x1b[24~", keys(fn(11), fn(12)), 0},
		check{"\x1b[0~\x1b[2~\x1b[9~\x1b[10~\x1b[16~\x1b[22~\x1b[25~\x1b[201~\x1b[9999~", nil, 0},
		check{"\x1b[1A\x1b[01A\x1b[0001A", keys(plain(api.Up), plain(api.Up), plain(api.Up)), 0},
		check{"\x1b[00001A\x1b[0A\x1b[2A\x1b[10A\x1b[11A\x1b[1:A\x1b[?A", nil, 0},
		check{"\x1b[P\x1b[Q\x1b[R\x1b[S\x1b[1P", nil, 0},
		check{"\x1b[1;1P\x1b[1;1Q\x1b[1;1R\x1b[1;1S", keys(fn(1), fn(2), fn(3), fn(4)), 0},
		check{"\x1b[;P\x1b[;2Q\x1b[1;S", keys(fn(1), shift(fn(2)), fn(4)), 0},
		check{"\x1b[2;1P\x1b[0;2Q\x1b[24;80R", nil, 0},
		check{"\x1b[1Z\x1b[;Z\x1b[1;2Z\x1b[ Z", nil, 0},
		check{"\x1b[~\x1b[;5~\x1b[;~", keys(plain(api.Home), ctl(plain(api.Home)), plain(api.Home)), 0},
		check{"\x1b[;A\x1b[;2A\x1b[1;A", keys(plain(api.Up), shift(plain(api.Up)), plain(api.Up)), 0},
		check{"\x1b[1;2;A\x1b[;;A\x1b[1;2;3A\x1b[3;2;~", nil, 0},
		check{"\x1b[1;0A\x1b[1;9A\x1b[3;0~\x1b[3;9~\x1b[3;16~\x1b[1;9999P", nil, 0},
		check{"\x1b[1;0002A\x1b[0003;02~", keys(shift(plain(api.Up)), shift(plain(api.Delete))), 0},
		check{"\x1b[1;00002A\x1b[00003~\x1b[12345~", nil, 0},
		check{"\x1b[ A\x1b[1 A\x1b[1;5!C\x1b[3$~", nil, 0},
		check{"\x1b[<1A\x1b[=1A\x1b[>1A\x1b[?1A\x1b[1?A", nil, 0},
		check{"\x1b[E\x1b[G\x1b[I\x1b[a\x1b[@\x1b[u", nil, 0},
		check{"\x1b[[A", keys(text("A")), 0},
		check{"\x1b[OA", keys(text("A")), 0},
		check{"x\x1b[Ay", keys(text("x"), plain(api.Up), text("y")), 0},
	)
}

func TestModifiers(t *testing.T) {
	up, pagedown, f2, f12 := plain(api.Up), plain(api.PageDown), fn(2), fn(12)
	for n, with := range map[int]func(api.Key) api.Key{
		1: func(k api.Key) api.Key { return k },
		2: shift,
		3: alt,
		4: func(k api.Key) api.Key { return shift(alt(k)) },
		5: ctl,
		6: func(k api.Key) api.Key { return shift(ctl(k)) },
		7: func(k api.Key) api.Key { return alt(ctl(k)) },
		8: func(k api.Key) api.Key { return shift(alt(ctl(k))) },
	} {
		holds(t, check{fmt.Sprintf("\x1b[1;%dA\x1b[6;%d~\x1b[1;%dQ\x1b[24;%d~", n, n, n, n), keys(with(up), with(pagedown), with(f2), with(f12)), 0})
	}
}

// Every complete sequence of up to three numbers that are near some edge.
func TestSequencesAsDefined(t *testing.T) {
	numbers := []string{"", "00", "01", "001", "0001", "00001", "10000", "0008", "0200", "200", "201", "999", "9999", "1:", "?1", " ", "1 "}
	for n := range 35 {
		numbers = append(numbers, fmt.Sprint(n))
	}
	seconds := []string{"", ";", ";00", ";02", ";0008", ";0009", ";00008", ";9999", ";;", ";2;", ";2;1", ";2:", ";2 "}
	for n := range 20 {
		seconds = append(seconds, fmt.Sprintf(";%d", n))
	}
	for final := byte(64); final < 127; final++ {
		for _, first := range numbers {
			for _, second := range seconds {
				s := "\x1b[" + first + second + string(rune(final)) + "A"
				d, r := New(), &reading{}
				same(t, fmt.Sprintf("%q", s), d.Feed([]byte(s)), r.feed([]byte(s)))
				agree(t, fmt.Sprintf("%q", s), d, r)
			}
		}
	}
}

func TestSequencesBrokenOff(t *testing.T) {
	wrong := text("\ufffd")
	holds(t,
		check{"\x1b[", nil, 2},
		check{"\x1b[1", nil, 3},
		check{"\x1b[1;", nil, 4},
		check{"\x1b[1;5", nil, 5},
		check{"\x1b[ ", nil, 3},
		check{"\x1b[?;: !/", nil, 8},
		check{"\x1b[\x1b", nil, 1},
		check{"\x1b[\x1b[A", keys(plain(api.Up)), 0},
		check{"\x1b[1;\x1b[A", keys(plain(api.Up)), 0},
		check{"\x1b[1\x1b\x1b", keys(plain(api.Escape)), 1},
		check{"\x1b[1\x01y", keys(ctrl("a"), text("y")), 0},
		check{"\x1b[\r", keys(plain(api.Enter)), 0},
		check{"\x1b[1;\x7fA", keys(plain(api.Backspace), text("A")), 0},
		check{"\x1b[ 1A", keys(text("1"), text("A")), 0},
		check{"\x1b[1 ;A", keys(text(";"), text("A")), 0},
		check{"\x1b[é", keys(text("é")), 0},
		check{"\x1b[1\xff", keys(wrong), 0},
		check{"\x1b[1\xe4\xb8", nil, 2},
		check{"\x1b[1\xe4A", keys(wrong, text("A")), 0},
	)
}

// Every byte in every position of a sequence.
func TestSequencesByteByByte(t *testing.T) {
	for _, ahead := range []string{"", "\x1b", "\x1b[", "\x1b[1", "\x1b[1;", "\x1b[1;2", "\x1b[?", "\x1b[ ", "\x1b[1!", "\x1b[200", "\x1bO", "\xe2", "\x1b\xe2"} {
		for b := range 256 {
			for _, after := range []string{"", "A", "~", "1A", "\x1b", "\x82\xac"} {
				s := ahead + string([]byte{byte(b)}) + after
				d, r := New(), &reading{}
				same(t, fmt.Sprintf("%q", s), d.Feed([]byte(s)), r.feed([]byte(s)))
				agree(t, fmt.Sprintf("%q", s), d, r)
			}
		}
	}
}

func TestLongSequences(t *testing.T) {
	for n := 20; n <= 40; n++ {
		for _, fill := range []string{"1", ";", "?", " ", "1;"} {
			for _, after := range []string{"", "A", "x~", "\x01", "\x1b", "\x1b[A", "\xe4", "中", "\x7f", "1", " ", "/1"} {
				s := "\x1b[" + strings.Repeat(fill, n)[:n-2] + after
				d, r := New(), &reading{}
				same(t, fmt.Sprintf("%q", s), d.Feed([]byte(s)), r.feed([]byte(s)))
				agree(t, fmt.Sprintf("%q", s), d, r)
			}
		}
	}
	ones := strings.Repeat("1", 40)
	holds(t,
		check{"\x1b[" + ones[:29], nil, 31},
		check{"\x1b[" + ones[:30], nil, 0},
		check{"\x1b[" + ones[:31], keys(text("1")), 0},
		check{"\x1b[" + ones[:30] + "A", keys(text("A")), 0},
		check{"\x1b[" + ones[:29] + "A", nil, 0},
		check{"\x1b[" + ones[:29] + "Ab", keys(text("b")), 0},
		check{"\x1b[" + ones[:29] + "\r", keys(plain(api.Enter)), 0},
		check{"\x1b[" + ones[:29] + "\x1b", nil, 1},
		check{"\x1b[" + ones[:28] + " ", nil, 31},
		check{"\x1b[" + ones[:29] + " ", nil, 0},
		check{"\x1b[" + ones[:28] + " 1", keys(text("1")), 0},
		check{"\x1b[" + ones[:30] + "\x1b[B", keys(plain(api.Down)), 0},
	)
}

// P7.1: Feed, Waits and Pasting. Pastes.

func TestPaste(t *testing.T) {
	holds(t,
		check{"\x1b[200~a\x1b[201~", keys(pasteOf("a")), 0},
		check{"\x1b[200~\x1b[201~", keys(pasteOf("")), 0},
		check{"\x1b[200~a\x1b[Ab\x1b[201~\x1b[Z", keys(pasteOf("a\x1b[Ab"), plain(api.BackTab)), 0},
		check{"x\x1b[200~a\r\nb\tc\x00\x7f\x1b[201~y", keys(text("x"), pasteOf("a\r\nb\tc\x00\x7f"), text("y")), 0},
		check{"\x1b[200~é中\U0001f600\x1b[201~", keys(pasteOf("é中\U0001f600")), 0},
		check{"\x1b[200~\xff\xe4\xb8\x1b[201~", keys(pasteOf("\ufffd\ufffd\ufffd")), 0},
		check{"\x1b[200~\xe4A\x1b[201~\xad", keys(pasteOf("\ufffdA"), text("\ufffd")), 0},
		check{"\x1b[200~\x1b[200~\x1b[201~\x1b[201~a", keys(pasteOf("\x1b[200~"), text("a")), 0},
		check{"\x1b[200~a\x1b[201~\x1b[200~b\x1b[201~", keys(pasteOf("a"), pasteOf("b")), 0},
		check{"\x1b[200~\x1b\x1b[201~", keys(pasteOf("\x1b")), 0},
		check{"\x1b[200~\x1b[\x1b[201~", keys(pasteOf("\x1b[")), 0},
		check{"\x1b[200~\x1b[2\x1b[201~", keys(pasteOf("\x1b[2")), 0},
		check{"\x1b[200~\x1b[20\x1b[201~", keys(pasteOf("\x1b[20")), 0},
		check{"\x1b[200~\x1b[201\x1b[201~", keys(pasteOf("\x1b[201")), 0},
		check{"\x1b[200~\x1b[202~\x1b[2011~\x1b[0201~\x1b[201;1~\x1b[201~", keys(pasteOf("\x1b[202~\x1b[2011~\x1b[0201~\x1b[201;1~")), 0},
		check{"\x1b[200~[201~\x1b[201~", keys(pasteOf("[201~")), 0},
		check{"\x1b[\x1b[200~a\x1b[201~", keys(pasteOf("a")), 0},
		check{"\x1b\x1b[200~a\x1b[201~", keys(plain(api.Escape), pasteOf("a")), 0},
		check{"\xe4\x1b[200~a\x1b[201~", keys(text("\ufffd"), pasteOf("a")), 0},
		check{"\x1b[201~a", keys(text("a")), 0},
		// Only the sequence itself begins a paste.
		check{"\x1b[0200~a\x1b[200;1~b\x1b[200;~c\x1b[;200~d", keys(text("a"), text("b"), text("c"), text("d")), 0},
		check{"\x1b[200A\x1b[200 ~\x1b[?200~a", keys(text("a")), 0},
		check{"\x1bO200~", keys(text("2"), text("0"), text("0"), text("~")), 0},
	)
}

func TestPasteProceeds(t *testing.T) {
	d := New()
	for _, c := range []struct {
		s       string
		pasting bool
		waits   int
	}{
		{"\x1b", false, 1}, {"[200", false, 5}, {"~", true, 0}, {"a", true, 1}, {"", true, 1}, {"b\r", true, 3}, {"\x1b", true, 4}, {"[20", true, 7},
		{"x", true, 8}, {"\x1b[", true, 10}, {"201", true, 13}, {"\x1b[201", true, 18},
	} {
		if got := d.Feed([]byte(c.s)); len(got) != 0 || d.Pasting() != c.pasting || d.Waits() != c.waits {
			t.Errorf("then %q: %s, pasting %v, %d wait", c.s, tell(got), d.Pasting(), d.Waits())
		}
	}
	want := keys(pasteOf("ab\r\x1b[20x\x1b[201"), text("z"))
	if got := d.Feed([]byte("~z\x1b[")); !slices.Equal(got, want) || d.Pasting() || d.Waits() != 2 {
		t.Errorf("at the end: %s, pasting %v, %d wait", tell(got), d.Pasting(), d.Waits())
	}
}

// pasteIn pastes content in pieces of a size; the bytes before the last one of
// the end are to give no key.
func pasteIn(t *testing.T, content string, size int) api.Key {
	t.Helper()
	d := New()
	d.Feed([]byte("\x1b[200~"))
	s := content + "\x1b[201"
	for at := 0; at < len(s); at += size {
		to := min(at+size, len(s))
		if got := d.Feed([]byte(s[at:to])); len(got) != 0 || !d.Pasting() || d.Waits() != min(to, api.MaxPaste+5) {
			t.Fatalf("%d bytes of a paste: %s, pasting %v, %d wait", to, tell(got), d.Pasting(), d.Waits())
		}
	}
	got := d.Feed([]byte("~"))
	if len(got) != 1 || d.Pasting() || d.Waits() != 0 {
		t.Fatalf("a paste of %d bytes: %s, pasting %v, %d wait", len(content), tell(got), d.Pasting(), d.Waits())
	}
	return got[0]
}

func TestLongPastes(t *testing.T) {
	letters := strings.Repeat("abcdefg", 12000)
	for _, size := range []int{1, 7, 65536, 1 << 20} {
		for n := api.MaxPaste - 8; n <= api.MaxPaste+14; n++ {
			want := pasteOf(letters[:min(n, 65536)])
			if got := pasteIn(t, letters[:n], size); got != want {
				t.Fatalf("a paste of %d bytes in pieces of %d: %s", n, size, tell(keys(got)))
			}
		}
	}
	if got := pasteIn(t, strings.Repeat(letters, 5), 1000); got != pasteOf(letters[:65536]) {
		t.Errorf("a paste of %d bytes: %s", 5*len(letters), tell(keys(got)))
	}
}

// What looks like the end, and runes, lie across the last byte that is kept.
func TestLongPastesEdge(t *testing.T) {
	for _, part := range []string{"\x1b[201", "\x1b[20x", "\x1b\x1b\x1b\x1b", "\x1b[201\x1b[201", "é", "中", "\U0001f600", "\xff", "\xe4\xb8", "\xf0\x9f\x98"} {
		for ahead := api.MaxPaste - 14; ahead <= api.MaxPaste+8; ahead++ {
			for _, after := range []string{"", "z", "zzzzzzzzzzzzzzzzzzzz"} {
				content := strings.Repeat("a", ahead) + part + after
				want := pasteOf(string([]rune(content[:min(len(content), 65536)])))
				if got := pasteIn(t, content, 4096); got != want {
					t.Fatalf("a paste of %d letters, %q and %q: %s", ahead, part, after, tell(keys(got)))
				}
			}
		}
	}
	// A wrong byte becomes a rune of three bytes; the limit counts what came.
	if got := pasteIn(t, strings.Repeat("\xff", 70000), 999); got != pasteOf(strings.Repeat("\ufffd", 65536)) {
		t.Errorf("a paste of wrong bytes: %s", tell(keys(got)))
	}
}

func TestPasteKeepsNoMore(t *testing.T) {
	d := New()
	d.Feed([]byte("\x1b[200~"))
	d.Feed(bytes.Repeat([]byte("x"), 3<<20))
	if n := len(d.paste.bytes); d.Waits() != 65541 || n != 65541 {
		t.Errorf("%d bytes wait, and %d are kept", d.Waits(), n)
	}
	if got := d.Feed([]byte("\x1b[201~y")); !slices.Equal(got, keys(pasteOf(strings.Repeat("x", 65536)), text("y"))) {
		t.Errorf("the keys are %s", tell(got))
	}
	if d.paste != nil {
		t.Error("the paste is kept behind its end")
	}
}

// P7.2: One

func TestOne(t *testing.T) {
	wrong := text("\ufffd")
	for _, c := range []struct {
		ahead, s string
		want     []api.Key
		n, waits int
	}{
		{"", "", nil, 0, 0},
		{"", "abc", keys(text("a")), 1, 0},
		{"", "\xe4\xb8\xadabc", keys(text("中")), 3, 0},
		{"\xe4", "\xb8\xadabc", keys(text("中")), 2, 0},
		{"", "\xe4\xb8", nil, 2, 2},
		{"", "\xe4\xb8Ab", keys(wrong, wrong, text("A")), 3, 0},
		{"\xf0\x9f\x98", "Ab", keys(wrong, wrong, wrong, text("A")), 1, 0},
		{"", "\x1b[1;5Cx", keys(ctl(plain(api.Right))), 6, 0},
		{"\x1b[1", ";5Cx", keys(ctl(plain(api.Right))), 3, 0},
		{"", "\x1b", nil, 1, 1},
		{"\x1b", "", nil, 0, 1},
		{"", "\x1b\x1b\x1b", keys(plain(api.Escape)), 2, 1},
		{"", "\x1b[9zxy", keys(text("x")), 5, 0},
		{"", "\x1b[9z", nil, 4, 0},
		{"", "\x1b[1\x01y", keys(ctrl("a")), 4, 0},
		{"", "\x1bO\x1bx", keys(alt(text("x"))), 4, 0},
		{"", "\x1b\xe4\x1b[A", keys(alt(wrong)), 3, 1},
		{"", "\x1b[200~ab\x1b[201~cd", keys(pasteOf("ab")), 14, 0},
		{"\x1b[200~a", "b\x1b[201~cd", keys(pasteOf("ab")), 7, 0},
		{"\x1b[200~ab\x1b[201", "~~", keys(pasteOf("ab")), 1, 0},
		{"\x1b[200~a", "bcd", nil, 3, 4},
	} {
		d := New()
		d.Feed([]byte(c.ahead))
		if got, n := d.One([]byte(c.s)); !slices.Equal(got, c.want) || n != c.n || d.Waits() != c.waits {
			t.Errorf("One(%q) behind %q = %s, %d, and %d wait; not %s, %d, %d", c.s, c.ahead, tell(got), n, d.Waits(), tell(c.want), c.n, c.waits)
		}
	}
	if got, n := New().One(nil); len(got) != 0 || n != 0 {
		t.Errorf("One(nil) = %s, %d", tell(got), n)
	}
}

// The calls of One on what the one before it left give the keys of one Feed.
func oneByOne(t *testing.T, d *Decoder, b []byte) []api.Key {
	t.Helper()
	var all []api.Key
	for len(b) > 0 {
		got, n := d.One(b)
		if n < 1 || n > len(b) || len(got) == 0 && n != len(b) {
			t.Fatalf("One(%q) = %s, %d", b, tell(got), n)
		}
		all, b = append(all, got...), b[n:]
	}
	return all
}

// P7.3: Tick

func TestTick(t *testing.T) {
	for _, c := range []struct {
		s    string
		want []api.Key
	}{
		{"", nil},
		{"a", nil},
		{"\x1b", keys(plain(api.Escape))}, // the chapter's example
		{"\x1b\x1b", keys(plain(api.Escape))},
		{"\x1b[", keys(alt(text("[")))},
		{"\x1bO", keys(alt(text("O")))},
		{"\x1b\x1b[", keys(alt(text("[")))},
		{"\x1b[1", nil},
		{"\x1b[ ", nil},
		{"\x1b[;", nil},
		{"\x1b[200", nil},
		{"\x1b[1;111111111111111111111111111", nil},
		{"\xe4", nil},
		{"\xe4\xb8", nil},
		{"\xf0\x9f\x98", nil},
		{"\x1b\xe4", nil},
		{"\x1b\xf0\x9f\x98", nil},
		{"\x1b[1\x1b", keys(plain(api.Escape))},
		{"\x1bO\x1b", keys(plain(api.Escape))},
		{"\x1b[200~a\x1b[201~\x1b", keys(plain(api.Escape))},
		{"\x1b[200~a\x1b[201~", nil},
	} {
		d := New()
		d.Feed([]byte(c.s))
		if got := d.Tick(); !slices.Equal(got, c.want) || d.Waits() != 0 {
			t.Errorf("Tick behind %q = %s, and %d wait; not %s", c.s, tell(got), d.Waits(), tell(c.want))
		}
		if got := d.Tick(); len(got) != 0 || d.Waits() != 0 {
			t.Errorf("a second Tick behind %q = %s", c.s, tell(got))
		}
		if got := d.Feed([]byte("[A\xad")); !slices.Equal(got, keys(text("["), text("A"), text("\ufffd"))) {
			t.Errorf("behind %q and Tick: %s", c.s, tell(got))
		}
	}
}

func TestTickInPaste(t *testing.T) {
	for _, s := range []string{"", "a", "\x1b", "\x1b[", "\x1bO", "\x1b[201", "a\xe4", "\x1b\x1b[20", "ab\x1b"} {
		d := New()
		d.Feed([]byte("\x1b[200~" + s))
		for range 2 {
			if got := d.Tick(); len(got) != 0 || !d.Pasting() || d.Waits() != len(s) {
				t.Errorf("Tick in the paste of %q = %s, pasting %v, %d wait", s, tell(got), d.Pasting(), d.Waits())
			}
		}
		end, want := "x\x1b[201~", string([]rune(s+"x"))
		if strings.HasSuffix(s, "\x1b[201") {
			end, want = "~", strings.TrimSuffix(s, "\x1b[201")
		}
		if got := d.Feed([]byte(end)); !slices.Equal(got, keys(pasteOf(want))) {
			t.Errorf("the paste of %q and %q with a Tick = %s", s, end, tell(got))
		}
	}
}

// Every rest that can wait, ended by a Tick.
func TestTickAsDefined(t *testing.T) {
	for _, s := range tokenStrings(tokens, 3) {
		d, r := New(), &reading{}
		same(t, fmt.Sprintf("%q", s), d.Feed([]byte(s)), r.feed([]byte(s)))
		same(t, fmt.Sprintf("Tick behind %q", s), d.Tick(), r.tick())
		agree(t, fmt.Sprintf("%q and Tick", s), d, r)
	}
}

// P7.4: Name

func TestName(t *testing.T) {
	names := map[api.Code]string{
		api.Text: "text", api.Enter: "enter", api.Tab: "tab", api.BackTab: "backtab", api.Escape: "escape",
		api.Backspace: "backspace", api.Delete: "delete", api.Up: "up", api.Down: "down", api.Left: "left",
		api.Right: "right", api.Home: "home", api.End: "end", api.PageUp: "pageup", api.PageDown: "pagedown",
		api.Paste: "paste",
	}
	check := func(k api.Key, want string) {
		t.Helper()
		for bits := range 8 {
			prefix := ""
			if k.Alt = bits&1 != 0; k.Alt {
				prefix += "alt-"
			}
			if k.Ctl = bits&2 != 0; k.Ctl {
				prefix += "ctl-"
			}
			if k.Shift = bits&4 != 0; k.Shift {
				prefix += "shift-"
			}
			if want == "" {
				prefix = ""
			}
			if got := Name(k); got != prefix+want {
				t.Errorf("Name(%+v) = %q, not %q", k, got, prefix+want)
			}
		}
	}
	for code := api.Code(-3); code < 30; code++ {
		if code == api.Ctrl || code == api.Func {
			continue
		}
		check(api.Key{Code: code}, names[code])
		check(api.Key{Code: code, S: "x", N: 5}, names[code])
	}
	for _, code := range []api.Code{math.MinInt, math.MaxInt, math.MinInt32, math.MaxInt32} {
		check(api.Key{Code: code, S: "x", N: 5}, "")
	}
	for _, s := range []string{"a", "z", "@", "[", "\\", "_", "", "A", "abc", "é", "\xff", "\x00", " "} {
		check(ctrl(s), "ctrl-"+s)
		check(api.Key{Code: api.Ctrl, S: s, N: 99}, "ctrl-"+s)
	}
	for n := -20; n < 200; n++ {
		want := ""
		if n >= 1 && n <= 12 {
			want = fmt.Sprintf("f%d", n)
		}
		check(fn(n), want)
		check(api.Key{Code: api.Func, N: n, S: "x"}, want)
	}
	check(fn(math.MinInt), "")
	check(fn(math.MaxInt), "")
	check(fn(math.MaxInt-255), "")
}

// P7.4: Fork

// states are bytes behind which a decoder keeps something of each sort.
var states = []string{
	"", "a", "\x1b", "\x1b[", "\x1bO", "\x1b[1;", "\x1b[ ", "\xe4", "\xe4\xb8", "\x1b\xf0\x9f\x98",
	"\x1b[1111111111111111111111111111 ", "\x1b[200", "\x1b[200~", "\x1b[200~abc", "\x1b[200~ab\x1b[201", "\x1b[200~\xff\x1b",
}

func TestFork(t *testing.T) {
	ends := []string{"", "A", "[", "~", "1", "5C", "\x1b", "\x1b[201~", "\xad", "\xb8\xad", "x\x1b[201~y", "~q\x1b[", "\r"}
	for _, state := range states {
		for _, one := range ends {
			for _, other := range ends {
				what := fmt.Sprintf("behind %q a fork takes %q and the decoder %q", state, other, one)
				d, r := New(), &reading{}
				d.Feed([]byte(state))
				r.feed([]byte(state))
				fork, copied := d.Fork(), r.fork()
				agree(t, what, fork, copied)
				same(t, what, d.Feed([]byte(one)), r.feed([]byte(one)))
				agree(t, what, fork, copied)
				agree(t, what, d, r)
				same(t, what, fork.Feed([]byte(other)), copied.feed([]byte(other)))
				agree(t, what, d, r)
				agree(t, what, fork, copied)
				second, secondCopied := fork.Fork(), copied.fork()
				same(t, what, fork.Tick(), copied.tick())
				agree(t, what, second, secondCopied)
				same(t, what, second.Feed([]byte(one)), secondCopied.feed([]byte(one)))
				agree(t, what, fork, copied)
				end := []byte("\x1b[201~")
				same(t, what, d.Feed(end), r.feed(end))
				same(t, what, fork.Feed(end), copied.feed(end))
				same(t, what, second.Feed(end), secondCopied.feed(end))
			}
		}
	}
}

// The bytes that two decoders paste must not come to lie in the same place.
func TestForkInPaste(t *testing.T) {
	for n := range 200 {
		d := New()
		d.Feed([]byte("\x1b[200~" + strings.Repeat("a", n)))
		fork := d.Fork()
		fork.Feed([]byte("fork"))
		d.Feed([]byte("back"))
		want := strings.Repeat("a", n)
		if got := fork.Feed([]byte("\x1b[201~")); !slices.Equal(got, keys(pasteOf(want+"fork"))) || !d.Pasting() {
			t.Fatalf("the fork of a paste of %d bytes: %s", n, tell(got))
		}
		if got := d.Feed([]byte("\x1b[201~")); !slices.Equal(got, keys(pasteOf(want+"back"))) {
			t.Fatalf("a paste of %d bytes that was forked: %s", n, tell(got))
		}
	}
}

func TestInvalid(t *testing.T) {
	for _, state := range states {
		whole := New()
		whole.Feed([]byte(state))
		waits, pasting := whole.Waits(), whole.Pasting()
		copied := *whole
		moved := whole.Fork()
		*moved = *whole
		for name, d := range map[string]*Decoder{"nil": nil, "composed": {}, "new": new(Decoder), "copied": &copied, "overwritten": moved} {
			for range 2 {
				if got := d.Feed([]byte("ab\x1b[A\x1b[201~c")); len(got) != 0 {
					t.Errorf("%s: Feed = %s", name, tell(got))
				}
				if got, n := d.One([]byte("ab\x1b[201~c")); len(got) != 0 || n != 0 {
					t.Errorf("%s: One = %s, %d", name, tell(got), n)
				}
				if got := d.Tick(); len(got) != 0 {
					t.Errorf("%s: Tick = %s", name, tell(got))
				}
				if d.Waits() != 0 || d.Pasting() || d.Fork() != nil {
					t.Errorf("%s: %d wait, pasting %v, fork %v", name, d.Waits(), d.Pasting(), d.Fork())
				}
			}
		}
		if whole.Waits() != waits || whole.Pasting() != pasting {
			t.Errorf("behind %q, the calls on its copies changed a decoder: %d wait, pasting %v", state, whole.Waits(), whole.Pasting())
		}
	}
}

// General rule 4: arguments are neither changed nor kept.
func TestArguments(t *testing.T) {
	for _, state := range states {
		for _, s := range []string{"abc", "\x1b[1;5C", "\x1b[1;", "\xe4\xb8", "\x1b[200~abc", "abc\x1b[201~d", "\x1b\xe4"} {
			b := []byte(s)
			d, r := New(), &reading{}
			d.Feed([]byte(state))
			r.feed([]byte(state))
			got, want := d.Feed(b), r.feed(b)
			if string(b) != s {
				t.Fatalf("Feed changed %q to %q", s, b)
			}
			for i := range b {
				b[i] = '!'
			}
			what := fmt.Sprintf("%q and %q", state, s)
			same(t, what, got, want)
			agree(t, what, d, r)
			same(t, what, d.Feed([]byte("z\x1b[201~")), r.feed([]byte("z\x1b[201~")))
			same(t, what, got, want)

			b = []byte(s)
			if New().One(b); string(b) != s {
				t.Fatalf("One changed %q to %q", s, b)
			}
		}
	}
}

func TestKeysAreNew(t *testing.T) {
	d := New()
	first := d.Feed([]byte("ab"))
	_ = append(first[:1], text("x"))
	second := d.Feed([]byte("cd"))
	if !slices.Equal(second, keys(text("c"), text("d"))) || first[0] != text("a") {
		t.Errorf("the keys are %s and %s", tell(first), tell(second))
	}
	third, _ := d.One([]byte("e"))
	third[0] = text("x")
	if !slices.Equal(second, keys(text("c"), text("d"))) {
		t.Errorf("the keys are %s", tell(second))
	}
}

// P7.5

// tokens are bytes, and rows of them, that decide how decoding goes on.
var tokens = []string{
	"\x1b", "[", "O", "1", "5", ";", "~", "A", "Q", "Z", " ", "?", "b", "\x01", "\r", "\x7f",
	"\xc3", "\xa9", "\xe2", "\x82", "\xff", "\x1b[", "\x1b[200~", "\x1b[201~",
}

// sequenceTokens are those of complete sequences.
var sequenceTokens = []string{"\x1b", "[", "O", "1", "2", "0", ";", "A", "P", "~", "Z"}

// tokenStrings are all strings of so many tokens.
func tokenStrings(tokens []string, n int) []string {
	all := []string{""}
	for range n {
		var longer []string
		for _, s := range all {
			for _, token := range tokens {
				longer = append(longer, s+token)
			}
		}
		all = longer
	}
	return all
}

// divided holds a string in all divisions into two pieces, byte by byte and key
// by key against the reading, to which it comes as a whole.
func divided(t *testing.T, s string) {
	t.Helper()
	b := []byte(s)
	r := &reading{}
	want := r.feed(b)
	for at := 0; at <= len(b); at++ {
		d := New()
		got := append(d.Feed(b[:at]), d.Feed(b[at:])...)
		same(t, fmt.Sprintf("%q, cut at %d", s, at), got, want)
		agree(t, fmt.Sprintf("%q, cut at %d", s, at), d, r)
	}
	d := New()
	var got []api.Key
	for i := range b {
		got = append(got, d.Feed(b[i:i+1])...)
		if !d.Pasting() && d.Waits() > api.MaxSeq {
			t.Fatalf("%q: behind %d bytes, %d wait", s, i+1, d.Waits())
		}
	}
	same(t, fmt.Sprintf("%q, byte by byte", s), got, want)
	agree(t, fmt.Sprintf("%q, byte by byte", s), d, r)
	d = New()
	same(t, fmt.Sprintf("%q, key by key", s), oneByOne(t, d, b), want)
	agree(t, fmt.Sprintf("%q, key by key", s), d, r)
}

func TestPieces(t *testing.T) {
	for n := range 4 {
		for _, s := range tokenStrings(tokens, n) {
			divided(t, s)
		}
	}
	for _, s := range tokenStrings(tokens, 3) {
		divided(t, "\x1b"+s)
		divided(t, "\x1b[1"+s)
		divided(t, "\x1b[200~"+s)
	}
	for _, s := range tokenStrings(sequenceTokens, 4) {
		divided(t, "\x1b["+s)
	}
}

// P7.5 and P7.6

// steps are numbers that look as if they were drawn, but are always the same.
type steps uint64

func (s *steps) below(n int) int {
	*s = *s*6364136223846793005 + 1442695040888963407
	return int(uint64(*s) >> 33 % uint64(n))
}

// TestWalk lets a decoder and the reading go a long way together.
func TestWalk(t *testing.T) {
	const rest = "0123456789;:?!/ \x00\t\n\x1c@NPRSHFDz{}\x80\xbf\xed\xf4\x8f\xf0\x9f\x98é中"
	for seed := range 40 {
		s := steps(seed)
		d, r := New(), &reading{}
		for i := range 4000 {
			var b []byte
			for range s.below(6) {
				if s.below(3) == 0 {
					at := s.below(len(rest))
					b = append(b, rest[at])
				} else {
					b = append(b, tokens[s.below(len(tokens))]...)
				}
			}
			what := fmt.Sprintf("walk %d, step %d", seed, i)
			switch s.below(12) {
			case 0:
				same(t, what+", Tick", d.Tick(), r.tick())
			case 1:
				d, r = d.Fork(), r.fork()
			case 2, 3, 4:
				same(t, what+", One", oneByOne(t, d, b), r.feed(b))
			default:
				same(t, what+", Feed", d.Feed(b), r.feed(b))
			}
			agree(t, what, d, r)
		}
	}
}

// TestBound lets every state take every byte.
func TestBound(t *testing.T) {
	for n := range 31 {
		for _, fill := range []byte("1; ") {
			d := New()
			d.Feed(append([]byte("\x1b["), bytes.Repeat([]byte{fill}, n)...))
			for b := range 256 {
				fork := d.Fork()
				fork.Feed([]byte{byte(b)})
				if waits := fork.Waits(); waits > api.MaxSeq {
					t.Errorf("behind %d times %q and %d, %d bytes wait", n, fill, b, waits)
				}
			}
		}
	}
}

// A pasted text is what package runes makes of its bytes.
func TestPasteIsText(t *testing.T) {
	var all []byte
	for b := range 256 {
		for c := range 256 {
			if b != 27 && c != 27 {
				all = append(all, byte(b), byte(c), 0xe2, 0x82)
			}
		}
	}
	for at := 0; at < len(all); at += 60000 {
		b := all[at:min(at+60000, len(all))]
		if got := pasteIn(t, string(b), 5000); got != pasteOf(runes.Text(b)) {
			t.Errorf("the paste of the bytes from %d on: %s", at, tell(keys(got)))
		}
	}
}
