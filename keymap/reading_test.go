package keymap

import (
	"cmp"
	"regexp"
	"slices"
	"strconv"
	"strings"
	"testing"

	"placard/api"
)

// The chapter's definitions, read a second time: names are told by patterns,
// and bindings kept in a sorted list.

const readCodes = "text, enter, tab, backtab, escape, backspace, delete, up, down, left, right, home, end, pageup, pagedown, paste"

var (
	readSimple  = regexp.MustCompile(`^(alt-)?(ctl-)?(shift-)?(` + strings.ReplaceAll(readCodes, ", ", "|") + `)$`)
	readControl = regexp.MustCompile(`^(alt-)?(ctl-)?(shift-)?ctrl-([a-z@\[\\\]^_])$`)
	readNumber  = regexp.MustCompile(`^(alt-)?(ctl-)?(shift-)?f([1-9]|10|11|12)$`)
	readText    = regexp.MustCompile(`(?s)^(alt-)(ctl-)?(shift-)?text\.(.*)$`)
)

// readName returns the key that has a name, and whether there is one.
func readName(name string) (api.Key, bool) {
	var k api.Key
	var found []string
	if found = readSimple.FindStringSubmatch(name); found != nil {
		k.Code = api.Code(slices.Index(strings.Split(readCodes, ", "), found[4]) + 1)
		if k.Code == api.Text && found[1] != "" {
			return api.Key{}, false
		}
	} else if found = readControl.FindStringSubmatch(name); found != nil {
		k.Code, k.S = api.Ctrl, found[4]
	} else if found = readNumber.FindStringSubmatch(name); found != nil {
		k.Code = api.Func
		k.N, _ = strconv.Atoi(found[4])
	} else if found = readText.FindStringSubmatch(name); found != nil && len(found[4]) <= 65536 {
		k.Code, k.S = api.Text, found[4]
	} else {
		return api.Key{}, false
	}
	k.Alt, k.Ctl, k.Shift = found[1] != "", found[2] != "", found[3] != ""
	return k, true
}

// readKeyName returns the name of a key, and whether it is valid.
func readKeyName(k api.Key) (string, bool) {
	name := ""
	for _, c := range []struct {
		has    bool
		prefix string
	}{{k.Alt, "alt-"}, {k.Ctl, "ctl-"}, {k.Shift, "shift-"}} {
		if c.has {
			name += c.prefix
		}
	}
	free := k.Code == 1 || k.Code == 16
	number := k.Code == 18
	if k.Code < 1 || k.Code > 18 || free && len(k.S) > 65536 || number && (k.N < 1 || k.N > 12) || !number && k.N != 0 {
		return "", false
	}
	switch {
	case k.Code == 17:
		if len(k.S) != 1 || !strings.Contains(`abcdefghijklmnopqrstuvwxyz@[\]^_`, k.S) {
			return "", false
		}
		return name + "ctrl-" + k.S, true
	case !free && k.S != "":
		return "", false
	case number:
		return name + "f" + strconv.Itoa(k.N), true
	case k.Code == 1 && k.Alt:
		return name + "text." + k.S, true
	}
	return name + strings.Split(readCodes, ", ")[k.Code-1], true
}

// P8.1 (and P8.6): every key

func TestReadingOfKeys(t *testing.T) {
	pieces := []string{"", "ab", "\u00e9", ".", "text.", long, long + "p"}
	for b := range 256 {
		pieces = append(pieces, string([]byte{byte(b)}))
	}
	for code := api.Code(-2); code <= 21; code++ {
		for n := -2; n <= 15; n++ {
			for _, s := range pieces {
				if len(s) > 2 && (n < -1 || n > 2) {
					continue
				}
				for _, k := range modified(api.Key{Code: code, S: s, N: n}) {
					readingOfKey(t, k)
				}
			}
		}
	}
}

// readingOfKey holds Check, Name and Key of a key against the second reading.
func readingOfKey(t *testing.T, k api.Key) {
	name, valid := readKeyName(k)
	if valid != (Check(k) == api.OK) || !valid && Check(k) != api.ErrKeymap {
		t.Errorf("Check(%s) = %d", tell(k), Check(k))
	}
	if got := Name(k); got != name {
		t.Errorf("Name(%s) = %.40q, not %.40q", tell(k), got, name)
	}
	if valid {
		readingOfName(t, name)
	}
}

// readingOfName holds Key of a string against the second reading.
func readingOfName(t *testing.T, name string) {
	want, ok := readName(name)
	got, e := Key(name)
	if got != want || ok != (e == api.OK) || !ok && e != api.ErrKeymap {
		t.Errorf("Key(%.40q) = %s, %d, not %s, %v", name, tell(got), e, tell(want), ok)
	}
	if ok && Name(got) != name {
		t.Errorf("the key of %.40q has the name %.40q", name, Name(got))
	}
}

// P8.1: every short row of tokens

func TestReadingOfNames(t *testing.T) {
	tokens := []string{"alt-", "ctl-", "shift-", "ctrl-", "text", ".", "f", "1", "2", "0", "-", "a", "A", "_", "enter", "up", "end", "paste", "\x00", "\xff"}
	rows := []string{""}
	for range 4 {
		var longer []string
		for _, row := range rows {
			readingOfName(t, row)
			for _, token := range tokens {
				longer = append(longer, row+token)
			}
		}
		rows = longer
	}
	for _, row := range rows {
		readingOfName(t, row)
	}
}

// Every name with one byte removed, replaced, or put in.
func TestReadingOfChangedNames(t *testing.T) {
	for _, k := range pool() {
		name := Name(k)
		for at := range len(name) + 1 {
			for _, b := range []byte("\x00\n -.0129@AZ[_`aflstxz\x7f\xff") {
				readingOfName(t, name[:at]+string([]byte{b})+name[at:])
				if at < len(name) {
					readingOfName(t, name[:at]+string([]byte{b})+name[at+1:])
				}
			}
			if at < len(name) {
				readingOfName(t, name[:at]+name[at+1:])
			}
		}
	}
}

// P8.3 and P8.4: long walks of calls

// bound is a binding; readMap keeps them sorted by their names.
type bound struct {
	name string
	a    api.Act
}

type readMap []bound

func (r readMap) find(name string) (int, bool) {
	return slices.BinarySearchFunc(r, name, func(b bound, name string) int { return cmp.Compare(b.name, name) })
}

func (r *readMap) bind(k api.Key, a api.Act) api.Errno {
	name, valid := readKeyName(k)
	at, is := r.find(name)
	switch {
	case !valid:
		return 80
	case a < 1 || a > 19:
		return 1
	case is:
		(*r)[at].a = a
		return 0
	case len(*r) == 512:
		return 3
	}
	*r = slices.Insert(*r, at, bound{name, a})
	return 0
}

func (r *readMap) drop(k api.Key) bool {
	name, valid := readKeyName(k)
	at, is := r.find(name)
	if valid && is {
		*r = slices.Delete(*r, at, at+1)
	}
	return valid && is
}

func (r readMap) act(k api.Key) (api.Act, bool) {
	name, valid := readKeyName(k)
	if at, is := r.find(name); valid && is {
		return r[at].a, true
	}
	return 0, false
}

// agree holds all that a map shows against the second reading.
func agree(t *testing.T, m *Map, r readMap) {
	t.Helper()
	var got readMap
	for name, a := range m.All() {
		got = append(got, bound{name, a})
	}
	if !slices.Equal(got, r) || m.Len() != len(r) {
		t.Fatalf("%d bindings: %v, not %v", m.Len(), got, r)
	}
	for a := api.Act(-1); a <= 20; a++ {
		var want []string
		for _, b := range r {
			if b.a == a {
				want = append(want, b.name)
			}
		}
		if got := m.Keys(a); !slices.Equal(got, want) {
			t.Fatalf("Keys(%d) = %q, not %q", a, got, want)
		}
	}
}

// steps is a row of numbers that is always the same.
type steps uint64

func (s *steps) below(n int) int {
	*s = *s*6364136223846793005 + 1442695040888963407
	return int(uint64(*s>>33) % uint64(n))
}

// walk does n calls to a map, of the keys, and to the second reading.
func walk(t *testing.T, m *Map, r readMap, keys []api.Key, n int, s *steps) (*Map, readMap) {
	binds := 6
	for i := range n {
		if i%400 == 0 {
			// Now more is bound, and now more dropped, so that both edges come.
			binds = 10 - binds
		}
		k, a := keys[s.below(len(keys))], api.Act(s.below(23)-1)
		switch do := s.below(10); {
		case do < binds:
			if got, want := m.Bind(k, a), r.bind(k, a); got != want {
				t.Fatalf("step %d: Bind(%s, %d) = %d, not %d", i, tell(k), a, got, want)
			}
		case do < 9:
			if got, want := m.Drop(k), r.drop(k); got != want {
				t.Fatalf("step %d: Drop(%s) = %v", i, tell(k), got)
			}
		default:
			got, ok := m.Act(k)
			if want, is := r.act(k); got != want || ok != is {
				t.Fatalf("step %d: Act(%s) = %d, %v, not %d", i, tell(k), got, ok, want)
			}
		}
		if i%50 == 0 {
			agree(t, m, r)
			other, rest := m.Fork(), slices.Clone(r)
			if i%100 == 0 {
				// Go on with the copy, and leave the map as it is.
				defer agree(t, m, r)
				m, r = other, rest
			} else {
				other.Bind(k, api.Undo)
				other.Drop(keys[0])
			}
		}
	}
	agree(t, m, r)
	return m, r
}

func TestReadingOfWalks(t *testing.T) {
	s := steps(8)
	few := append(pool()[:40], notValid()[:6]...)
	few = append(few, text("a"), text("b"), alt(text("a")), pasteOf("a"), pasteOf("b"))
	walk(t, New(), nil, few, 6000, &s)
	var begin readMap
	for k, a := range readUsual() {
		begin.bind(k, a)
	}
	walk(t, Usual(), begin, few, 6000, &s)
}

// More keys than may be bound: the map is full, again and again.
func TestReadingOfFullWalks(t *testing.T) {
	s := steps(512)
	keys := append(pool(), notValid()[:20]...)
	for n := range 900 {
		keys = append(keys, alt(text(strconv.Itoa(n))))
	}
	m, r := New(), readMap(nil)
	fullSteps := 0
	for range 40 {
		for range 300 {
			k, a := keys[s.below(len(keys))], api.Act(s.below(19)+1)
			if got, want := m.Bind(k, a), r.bind(k, a); got != want {
				t.Fatalf("Bind(%s, %d) = %d, not %d, with %d bindings", tell(k), a, got, want, len(r))
			} else if got == api.ErrMany {
				fullSteps++
			}
		}
		m, r = walk(t, m, r, keys, 100, &s)
	}
	if fullSteps < 1000 {
		t.Errorf("the map was full for %d steps only", fullSteps)
	}
}
