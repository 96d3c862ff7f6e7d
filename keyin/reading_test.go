package keyin

import (
	"bytes"
	"regexp"
	"slices"
	"strconv"
	"strings"
	"testing"
	"unicode/utf8"

	"placard/api"
)

// reading is a decoder as the chapter defines it, read a second time: it keeps
// all bytes, looks at them at once, and cuts them by patterns.
type reading struct {
	rest    []byte
	pasting bool
}

var (
	readWhole   = regexp.MustCompile(`^\x1b\[([0-?]*)([ -/]*)([@-~])`)
	readBegun   = regexp.MustCompile(`^\x1b\[[0-?]*[ -/]*`)
	readLetter  = regexp.MustCompile(`^\x1bO([@-~])`)
	readNumbers = regexp.MustCompile(`^([0-9]{0,4})(;([0-9]{0,4}))?$`)
)

const (
	readPasteBegin = "\x1b[200~"
	readPasteEnd   = "\x1b[201~"
)

func (r *reading) fork() *reading {
	return &reading{slices.Clone(r.rest), r.pasting}
}

func (r *reading) waits() int {
	if r.pasting {
		return min(len(r.rest), 65541)
	}
	return len(r.rest)
}

func (r *reading) tick() []api.Key {
	if r.pasting {
		return nil
	}
	rest := string(r.rest)
	r.rest = nil
	return map[string][]api.Key{
		"\x1b":  {{Code: api.Escape}},
		"\x1b[": {{Code: api.Text, S: "[", Alt: true}},
		"\x1bO": {{Code: api.Text, S: "O", Alt: true}},
	}[rest]
}

func (r *reading) feed(b []byte) []api.Key {
	r.rest = append(r.rest, b...)
	var keys []api.Key
	for len(r.rest) > 0 {
		if r.pasting {
			at := bytes.Index(r.rest, []byte(readPasteEnd))
			if at < 0 {
				break
			}
			// A conversion to runes takes wrong bytes one at a time, too.
			text := string([]rune(string(r.rest[:min(at, 65536)])))
			keys = append(keys, api.Key{Code: api.Paste, S: text})
			r.rest, r.pasting = r.rest[at+len(readPasteEnd):], false
			continue
		}
		k, n := readFirst(r.rest)
		if n == 0 {
			break
		}
		r.pasting = string(r.rest[:n]) == readPasteBegin
		r.rest = r.rest[n:]
		if k.Code != api.NoCode {
			keys = append(keys, k)
		}
	}
	return keys
}

// readFirst is the first key of b, if it has one, and how many bytes it takes.
func readFirst(b []byte) (api.Key, int) {
	none := api.Key{}
	head := b[:min(len(b), 32)]
	switch {
	case b[0] != 27:
		return readPlain(b)
	case len(b) == 1:
		return none, 0
	case b[1] == 27:
		return api.Key{Code: api.Escape}, 1
	case b[1] == '[':
		if m := readWhole.FindSubmatch(head); m != nil {
			if len(m[2]) > 0 {
				return none, len(m[0])
			}
			return readSequence(string(m[1]), string(m[3])), len(m[0])
		}
		if m := readBegun.Find(head); len(m) < len(b) || len(m) == 32 {
			return none, len(m)
		}
		return none, 0
	case b[1] == 'O' && len(b) == 2:
		return none, 0
	case b[1] == 'O':
		if m := readLetter.FindSubmatch(head); m != nil {
			return readLetters[string(m[1])], 3
		}
		return none, 2
	}
	k, n := readPlain(b[1:])
	if n == 0 {
		return none, 0
	}
	k.Alt = true
	return k, n + 1
}

// readControls are the letters of the bytes below 32; a point is another key.
const readControls = "@abcdefg...kl.nopqrstuvwxyz.\\]^_"

func readPlain(b []byte) (api.Key, int) {
	switch c := b[0]; {
	case c == 13 || c == 10:
		return api.Key{Code: api.Enter}, 1
	case c == 9:
		return api.Key{Code: api.Tab}, 1
	case c == 8 || c == 127:
		return api.Key{Code: api.Backspace}, 1
	case c < 32:
		return api.Key{Code: api.Ctrl, S: readControls[c : c+1]}, 1
	case !utf8.FullRune(b):
		return api.Key{}, 0
	}
	r, n := utf8.DecodeRune(b)
	return api.Key{Code: api.Text, S: string(r)}, n
}

var readLetters = map[string]api.Key{
	"A": {Code: api.Up}, "B": {Code: api.Down}, "C": {Code: api.Right}, "D": {Code: api.Left},
	"H": {Code: api.Home}, "F": {Code: api.End},
	"P": {Code: api.Func, N: 1}, "Q": {Code: api.Func, N: 2}, "R": {Code: api.Func, N: 3}, "S": {Code: api.Func, N: 4},
}

var readTildes = map[int]api.Key{
	1: {Code: api.Home}, 7: {Code: api.Home}, 4: {Code: api.End}, 8: {Code: api.End},
	3: {Code: api.Delete}, 5: {Code: api.PageUp}, 6: {Code: api.PageDown},
	11: {Code: api.Func, N: 1}, 12: {Code: api.Func, N: 2}, 13: {Code: api.Func, N: 3}, 14: {Code: api.Func, N: 4},
	15: {Code: api.Func, N: 5}, 17: {Code: api.Func, N: 6}, 18: {Code: api.Func, N: 7}, 19: {Code: api.Func, N: 8},
	20: {Code: api.Func, N: 9}, 21: {Code: api.Func, N: 10}, 23: {Code: api.Func, N: 11}, 24: {Code: api.Func, N: 12},
}

// readModifiers are the modifiers of the second numbers from 1 on.
var readModifiers = []string{"", "s", "a", "sa", "c", "sc", "ac", "sac"}

func readSequence(parameters, final string) api.Key {
	m := readNumbers.FindStringSubmatch(parameters)
	if m == nil {
		return api.Key{}
	}
	if final == "Z" {
		if parameters != "" {
			return api.Key{}
		}
		return api.Key{Code: api.BackTab}
	}
	first, second := readNumber(m[1]), readNumber(m[3])
	k := readTildes[first]
	if final != "~" {
		k = readLetters[final]
		if first != 1 || m[2] == "" && strings.Contains("PQRS", final) {
			k = api.Key{}
		}
	}
	if k.Code == api.NoCode || second < 1 || second > 8 {
		return api.Key{}
	}
	for _, modifier := range readModifiers[second-1] {
		k.Shift = k.Shift || modifier == 's'
		k.Alt = k.Alt || modifier == 'a'
		k.Ctl = k.Ctl || modifier == 'c'
	}
	return k
}

func readNumber(digits string) int {
	if digits == "" {
		return 1
	}
	n, _ := strconv.Atoi(digits)
	return n
}

// agree holds a decoder against a reading.
func agree(t *testing.T, what string, d *Decoder, r *reading) {
	t.Helper()
	if d.Waits() != r.waits() || d.Pasting() != r.pasting {
		t.Fatalf("%s: %d wait, pasting %v, not %d and %v", what, d.Waits(), d.Pasting(), r.waits(), r.pasting)
	}
	if !d.Pasting() && d.Waits() > api.MaxSeq {
		t.Fatalf("%s: %d bytes wait", what, d.Waits())
	}
}

// same holds keys against each other.
func same(t *testing.T, what string, got, want []api.Key) {
	t.Helper()
	if !slices.Equal(got, want) {
		t.Fatalf("%s: the keys are %s, not %s", what, tell(got), tell(want))
	}
}

func tell(keys []api.Key) string {
	var list []string
	for _, k := range keys {
		s := strconv.Quote(k.S)
		if len(s) > 40 {
			s = s[:40] + ".. of " + strconv.Itoa(len(k.S)) + " bytes"
		}
		list = append(list, Name(k)+" "+s)
	}
	return "[" + strings.Join(list, ", ") + "]"
}
