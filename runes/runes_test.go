package runes

import (
	"bytes"
	"slices"
	"strings"
	"sync"
	"testing"
	"unicode/utf8"
)

// encode writes r as the chapter says it, by arithmetic alone, so that the
// tests do not lean on the code that they test.
func encode(r int) []byte {
	switch {
	case r < 128:
		return []byte{byte(r)}
	case r < 2048:
		return []byte{byte(192 + r/64), byte(128 + r%64)}
	case r < 65536:
		return []byte{byte(224 + r/4096), byte(128 + r/64%64), byte(128 + r%64)}
	}
	return []byte{byte(240 + r/262144), byte(128 + r/4096%64), byte(128 + r/64%64), byte(128 + r%64)}
}

func isRuneNumber(r int) bool {
	return r >= 0 && r <= 1114111 && (r < 55296 || r > 57343)
}

// book knows all encodings and all their proper prefixes.
type book struct {
	runes    map[string]rune
	prefixes map[string]int
}

// allEncodings is made once, since it is large.
var allEncodings = sync.OnceValue(func() book {
	k := book{map[string]rune{}, map[string]int{"": 1}}
	for r := range 1114112 {
		if !isRuneNumber(r) {
			continue
		}
		e := string(encode(r))
		k.runes[e] = rune(r)
		for n := 1; n < len(e); n++ {
			k.prefixes[e[:n]]++
		}
	}
	return k
})

// next is Next, word by word as the chapter has it.
func (k book) next(b []byte) (rune, int, bool) {
	if k.prefixes[string(b)] > 0 {
		return 0, 0, true
	}
	for n := 1; n <= min(4, len(b)); n++ {
		if r, ok := k.runes[string(b[:n])]; ok {
			return r, n, false
		}
	}
	return 65533, 1, false
}

// text is Text, word by word as the chapter has it.
func (k book) text(b []byte) string {
	var s strings.Builder
	for at := 0; at < len(b); {
		r, n, more := k.next(b[at:])
		if more {
			r, n = 65533, 1
		}
		s.Write(encode(int(r)))
		at += n
	}
	return s.String()
}

// edges are the bytes next to which something changes in the encodings.
var edges = []byte{
	0x00, 0x41, 0x7f, 0x80, 0x8f, 0x90, 0x9f, 0xa0, 0xbf, 0xc0, 0xc1, 0xc2,
	0xdf, 0xe0, 0xe1, 0xec, 0xed, 0xee, 0xef, 0xf0, 0xf1, 0xf3, 0xf4, 0xf5, 0xff,
}

// edgeStrings calls do with each string of at most most edge bytes.
func edgeStrings(most int, do func([]byte)) {
	var grow func(b []byte)
	grow = func(b []byte) {
		do(b)
		if len(b) == most {
			return
		}
		for _, c := range edges {
			grow(append(b, c))
		}
	}
	grow(make([]byte, 0, most))
}

// P1.1

func TestNextOfEveryEncoding(t *testing.T) {
	for r := range 1114112 {
		if !isRuneNumber(r) {
			continue
		}
		e := encode(r)
		if got, n, more := Next(e); got != rune(r) || n != len(e) || more {
			t.Fatalf("Next(% x) = %d, %d, %v", e, got, n, more)
		}
		if got, n, more := Next(append(e, 0x80)); got != rune(r) || n != len(e) || more {
			t.Fatalf("Next(% x 80) = %d, %d, %v", e, got, n, more)
		}
		for cut := range e {
			if got, n, more := Next(e[:cut]); got != 0 || n != 0 || !more {
				t.Fatalf("Next(% x) = %d, %d, %v", e[:cut], got, n, more)
			}
		}
	}
}

func TestNextOfEdges(t *testing.T) {
	for _, x := range []struct {
		name string
		b    string
		r    rune
		n    int
		more bool
	}{
		{"empty", "", 0, 0, true},
		{"the least rune", "\x00", 0, 1, false},
		{"the greatest of one byte", "\x7f", 127, 1, false},
		{"the least of two bytes", "\xc2\x80", 128, 2, false},
		{"the greatest of two bytes", "\xdf\xbf", 2047, 2, false},
		{"the least of three bytes", "\xe0\xa0\x80", 2048, 3, false},
		{"the last ahead of the surrogates", "\xed\x9f\xbf", 55295, 3, false},
		{"the first behind the surrogates", "\xee\x80\x80", 57344, 3, false},
		{"the replacement rune itself", "\xef\xbf\xbd", 65533, 3, false},
		{"the greatest of three bytes", "\xef\xbf\xbf", 65535, 3, false},
		{"the least of four bytes", "\xf0\x90\x80\x80", 65536, 4, false},
		{"the greatest of four bytes", "\xf4\x8f\xbf\xbf", 1114111, 4, false},
		{"what follows does not count", "\xe2\x82\xac\xff", 8364, 3, false},
		{"one of two bytes", "\xc2", 0, 0, true},
		{"two of three bytes", "\xe2\x82", 0, 0, true},
		{"one of four bytes", "\xf0", 0, 0, true},
		{"three of four bytes", "\xf4\x8f\xbf", 0, 0, true},
		{"a second byte that breaks off", "\xe2A", 65533, 1, false},
		{"a third byte that breaks off", "\xe2\x82A", 65533, 1, false},
		{"a fourth byte that breaks off", "\xf0\x9f\x98A", 65533, 1, false},
		{"a head in place of a tail", "\xe2\xe2\x82\xac", 65533, 1, false},
		{"a tail alone", "\x80", 65533, 1, false},
		{"the greatest tail alone", "\xbf\x80", 65533, 1, false},
		{"overlong, two bytes", "\xc0\x80", 65533, 1, false},
		{"overlong, two bytes, begun", "\xc1", 65533, 1, false},
		{"overlong, three bytes", "\xe0\x9f\xbf", 65533, 1, false},
		{"overlong, three bytes, begun", "\xe0\x9f", 65533, 1, false},
		{"overlong, four bytes", "\xf0\x8f\xbf\xbf", 65533, 1, false},
		{"overlong, four bytes, begun", "\xf0\x8f", 65533, 1, false},
		{"the first surrogate", "\xed\xa0\x80", 65533, 1, false},
		{"the last surrogate", "\xed\xbf\xbf", 65533, 1, false},
		{"a surrogate begun", "\xed\xa0", 65533, 1, false},
		{"beyond the last rune", "\xf4\x90\x80\x80", 65533, 1, false},
		{"beyond the last rune, begun", "\xf4\x90", 65533, 1, false},
		{"a head of more than four bytes", "\xf8\x88\x80\x80\x80", 65533, 1, false},
		{"the first head beyond", "\xf5", 65533, 1, false},
		{"the last byte", "\xff", 65533, 1, false},
	} {
		if r, n, more := Next([]byte(x.b)); r != x.r || n != x.n || more != x.more {
			t.Errorf("%s: Next(% x) = %d, %d, %v", x.name, x.b, r, n, more)
		}
	}
}

func TestNextAsDefined(t *testing.T) {
	k := allEncodings()
	check := func(b []byte) {
		r, n, more := Next(b)
		if r0, n0, more0 := k.next(b); r != r0 || n != n0 || more != more0 {
			t.Fatalf("Next(% x) = %d, %d, %v, not %d, %d, %v", b, r, n, more, r0, n0, more0)
		}
		if more != !utf8.FullRune(b) {
			t.Fatalf("Next(% x): more %v", b, more)
		}
	}
	for x := range 65536 {
		check([]byte{byte(x >> 8)})
		check([]byte{byte(x >> 8), byte(x)})
	}
	edgeStrings(4, check)
}

func TestBytes(t *testing.T) {
	for r := range 1114112 {
		want := encode(r)
		if !isRuneNumber(r) {
			want = []byte("\xef\xbf\xbd")
		}
		if b := Bytes(rune(r)); !bytes.Equal(b, want) {
			t.Fatalf("Bytes(%d) = % x, not % x", r, b, want)
		}
	}
	for _, r := range []rune{-1, -128, -2147483648, 55296, 56320, 57343, 1114112, 2097152, 2147483647} {
		if b := Bytes(r); string(b) != "\xef\xbf\xbd" {
			t.Errorf("Bytes(%d) = % x", r, b)
		}
	}
}

func TestBytesIsNew(t *testing.T) {
	for _, r := range []rune{'a', 0xe9, 0x20ac, 0x1f600, -1} {
		b := Bytes(r)
		want := string(b)
		clear(b)
		if got := Bytes(r); string(got) != want {
			t.Errorf("Bytes(%d) = % x behind a change of its answer", r, got)
		}
	}
}

// P1.2

func TestText(t *testing.T) {
	for _, x := range []struct{ b, want string }{
		{"", ""},
		{"abc", "abc"},
		{"é€\U0001f600", "é€\U0001f600"},
		{"\x00\x7f", "\x00\x7f"},
		{"\ufffd", "\ufffd"},
		{"a\xffb", "a\ufffdb"},
		{"\xc0\x80", "\ufffd\ufffd"},
		{"\xe0\x9f\xbf", "\ufffd\ufffd\ufffd"},
		{"\xed\xa0\x80", "\ufffd\ufffd\ufffd"},
		{"\xf4\x90\x80\x80", "\ufffd\ufffd\ufffd\ufffd"},
		{"\xe2\x82", "\ufffd\ufffd"},
		{"a\xf0\x9f\x98", "a\ufffd\ufffd\ufffd"},
		{"\xe2\x82A", "\ufffd\ufffdA"},
		{"\xe2\xe2\x82\xac", "\ufffd€"},
		{"\xf0\x9f\xe2\x82\xac", "\ufffd\ufffd€"},
	} {
		if s := Text([]byte(x.b)); s != x.want {
			t.Errorf("Text(% x) = %q, not %q", x.b, s, x.want)
		}
	}
	if s := Text(nil); s != "" {
		t.Errorf("Text(nil) = %q", s)
	}
}

func TestTextAllCountValidAsDefined(t *testing.T) {
	k := allEncodings()
	edgeStrings(4, func(b []byte) {
		s := string(b)
		want := k.text(b)
		if got := Text(b); got != want {
			t.Fatalf("Text(% x) = % x, not % x", b, got, want)
		}
		if Valid(s) != (want == s) || Valid(s) != utf8.ValidString(s) {
			t.Fatalf("Valid(% x) = %v", b, Valid(s))
		}
		wanted := []rune(want)
		if n := Count(s); n != len(wanted) {
			t.Fatalf("Count(% x) = %d, not %d", b, n, len(wanted))
		}
		i, at := 0, 0
		for offset, r := range All(s) {
			if i == len(wanted) || offset != at || r != wanted[i] {
				t.Fatalf("All(% x): %d at %d", b, r, offset)
			}
			_, n := utf8.DecodeRuneInString(s[at:])
			i, at = i+1, at+n
		}
		if at != len(s) {
			t.Fatalf("All(% x) ends at %d", b, at)
		}
	})
}

func TestAllOffsets(t *testing.T) {
	var at []int
	var got []rune
	for i, r := range All("a\xffé\xe2A€\U0001f600\xf0\x9f\x98") {
		at, got = append(at, i), append(got, r)
	}
	if want := []int{0, 1, 2, 4, 5, 6, 9, 13, 14, 15}; !slices.Equal(at, want) {
		t.Errorf("offsets %v, not %v", at, want)
	}
	if want := []rune{97, 65533, 233, 65533, 65, 8364, 128512, 65533, 65533, 65533}; !slices.Equal(got, want) {
		t.Errorf("runes %v, not %v", got, want)
	}
	for i, r := range All("") {
		t.Errorf("All of nothing: %d at %d", r, i)
	}
}

func TestAllStops(t *testing.T) {
	// Each rune ends a different way through the iterator: a rune, a wrong
	// byte, and each byte of an incomplete rest.
	s := "aé\xff€\xe2\x82"
	for most := 1; most <= 6; most++ {
		n := 0
		All(s)(func(int, rune) bool {
			n++
			return n < most
		})
		if n != most {
			t.Errorf("stopped at %d, it went on to %d", most, n)
		}
	}
	for i, r := range All(s) {
		if i != 0 || r != 'a' {
			t.Errorf("%d at %d behind the break", r, i)
		}
		break
	}
}

func TestAllAgain(t *testing.T) {
	all := All("a€\xff")
	for range all {
		break
	}
	for range 2 {
		var got []rune
		for _, r := range all {
			got = append(got, r)
		}
		if !slices.Equal(got, []rune{97, 8364, 65533}) {
			t.Errorf("ranged over again: %v", got)
		}
	}
}

func TestCount(t *testing.T) {
	for _, x := range []struct {
		s string
		n int
	}{{"", 0}, {"a", 1}, {"aé€\U0001f600", 4}, {"\xff\xfe", 2}, {"\xe2\x82", 2}, {"\xe2\x82\xac", 1}, {"\xed\xa0\x80", 3}, {"\x00", 1}} {
		if n := Count(x.s); n != x.n {
			t.Errorf("Count(% x) = %d, not %d", x.s, n, x.n)
		}
	}
}

func TestValid(t *testing.T) {
	for _, x := range []struct {
		s  string
		ok bool
	}{
		{"", true}, {"a", true}, {"é€\U0001f600", true}, {"\x00", true}, {"\ufffd", true}, {"\U0010ffff", true},
		{"\xff", false}, {"a\x80", false}, {"\xe2\x82", false}, {"\xc0\x80", false}, {"\xed\xa0\x80", false}, {"\xf4\x90\x80\x80", false}, {"\ufffd\xff", false},
	} {
		if Valid(x.s) != x.ok {
			t.Errorf("Valid(% x) = %v", x.s, !x.ok)
		}
	}
}

// P1.3

func TestCut(t *testing.T) {
	for _, x := range []struct{ whole, rest string }{
		{"", ""},
		{"a", ""},
		{"é", ""},
		{"€", ""},
		{"\U0001f600", ""},
		{"", "\xc3"},
		{"", "\xe2"},
		{"", "\xe2\x82"},
		{"", "\xf0"},
		{"", "\xf0\x9f"},
		{"", "\xf0\x9f\x98"},
		{"ab", "\xe2\x82"},
		{"ab€", "\xf4\x8f\xbf"},
		{"\xff", "\xed\x9f"},
		{"\xe2", "\xe2"},
		{"\xe2\x82", "\xe2\x82"},
		{"\xe2\x82A", ""},
		{"a\x80", ""},
		{"\x80\x80\x80", ""},
		{"\xc1", ""},
		{"\xe0\x9f", ""},
		{"\xed\xa0", ""},
		{"\xf0\x8f\xbf", ""},
		{"\xf4\x90", ""},
		{"\xf5", ""},
		{"\xf0\x9f\x98\x80", ""},
		{"\xf0\x9f\x98A", ""},
	} {
		b := []byte(x.whole + x.rest)
		if w, r := Cut(b); string(w) != x.whole || string(r) != x.rest {
			t.Errorf("Cut(% x) = % x, % x", b, w, r)
		}
	}
	if w, r := Cut(nil); len(w) != 0 || len(r) != 0 {
		t.Errorf("Cut(nil) = % x, % x", w, r)
	}
}

func TestCutAsDefined(t *testing.T) {
	k := allEncodings()
	edgeStrings(4, func(b []byte) {
		want := len(b)
		for at := max(0, len(b)-3); at < len(b); at++ {
			if k.prefixes[string(b[at:])] > 0 {
				want = at
				break
			}
		}
		w, r := Cut(b)
		if !bytes.Equal(w, b[:want]) || !bytes.Equal(r, b[want:]) {
			t.Fatalf("Cut(% x) = % x, % x, not at %d", b, w, r, want)
		}
	})
}

func TestCutIsNew(t *testing.T) {
	for _, s := range []string{"ab\xe2\x82", "abcd"} {
		b := []byte(s)
		w, r := Cut(b)
		whole, rest := string(w), string(r)
		clear(b)
		if string(w) != whole || string(r) != rest {
			t.Errorf("Cut(% x) shares memory with its argument", s)
		}
		_ = append(w, "xyz"...)
		if string(r) != rest {
			t.Errorf("Cut(% x) shares memory between its answers", s)
		}
	}
}

// General rule 4: arguments are not changed.
func TestArgumentsStay(t *testing.T) {
	edgeStrings(3, func(b []byte) {
		s := string(b)
		Next(b)
		Text(b)
		Cut(b)
		if string(b) != s {
			t.Fatalf("% x became % x", s, b)
		}
	})
}

// P1.4

// inPieces is Text of b as it arrives in pieces that end at the offsets, with
// what is left at the end.
func inPieces(b []byte, ends ...int) (string, []byte) {
	var s strings.Builder
	var rest []byte
	from := 0
	for _, end := range append(ends, len(b)) {
		var whole []byte
		whole, rest = Cut(append(rest, b[from:end]...))
		s.WriteString(Text(whole))
		from = end
	}
	return s.String(), rest
}

func TestPieces(t *testing.T) {
	k := allEncodings()
	edgeStrings(4, func(b []byte) {
		want := k.text(b)
		for i := range len(b) + 1 {
			for j := i; j <= len(b); j++ {
				got, rest := inPieces(b, i, j)
				if len(rest) == 0 && got != want {
					t.Fatalf("% x cut at %d and %d: % x, not % x", b, i, j, got, want)
				}
			}
		}
	})
}

func TestPiecesByteByByte(t *testing.T) {
	b := []byte("aé€\U0001f600\xf0\x9f\xe2\x82\xac\xed\xa0\x80\xf4\x90\xc0\xffz")
	var ends []int
	for i := range b {
		ends = append(ends, i)
	}
	got, rest := inPieces(b, ends...)
	if want := Text(b); got != want || len(rest) != 0 {
		t.Errorf("% x, and % x left, not % x", got, rest, want)
	}
}

// P1.5

func TestRoundTrip(t *testing.T) {
	var all []byte
	for r := range 1114112 {
		if !isRuneNumber(r) {
			continue
		}
		b := Bytes(rune(r))
		all = append(all, b...)
		if got, n, more := Next(b); got != rune(r) || n != len(b) || more {
			t.Fatalf("Next(Bytes(%d)) = %d, %d, %v", r, got, n, more)
		}
	}
	if Text(all) != string(all) {
		t.Error("Text of all runes is another text")
	}
	if n := Count(string(all)); n != 1112064 {
		t.Errorf("Count of all runes = %d", n)
	}
	i := 0
	for _, r := range All(string(all)) {
		if i == 55296 {
			i = 57344
		}
		if int(r) != i {
			t.Fatalf("All of all runes: %d in place of %d", r, i)
		}
		i++
	}
}
