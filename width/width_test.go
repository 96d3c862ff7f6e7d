package width

import (
	"iter"
	"math"
	"slices"
	"strconv"
	"strings"
	"testing"
)

// The chapter's own lists, word by word, so that the tests do not lean on the
// tables that they test.
const (
	markList = "768 to 879, 1155 to 1161, 1425 to 1469, 1471, 1473 to 1474, 1476 to 1477, 1479, 1552 to 1562, 1611 to 1631, 1648, 1750 to 1756, 1759 to 1764, 1767 to 1768, 1770 to 1773, 3633, 3636 to 3642, 3655 to 3662, 6832 to 6911, 7616 to 7679, 8203 to 8207, 8288 to 8292, 8400 to 8432, 12330 to 12333, 12441 to 12442, 65024 to 65039, 65056 to 65071, 65279, 917760 to 917999"
	wideList = "4352 to 4447, 8986 to 8987, 9001 to 9002, 9193 to 9196, 9200, 9203, 9725 to 9726, 9748 to 9749, 9800 to 9811, 9855, 9875, 9889, 9898 to 9899, 9917 to 9918, 9924 to 9925, 9934, 9940, 9962, 9970 to 9971, 9973, 9978, 9981, 9989, 9994 to 9995, 10024, 10060, 10062, 10067 to 10069, 10071, 10133 to 10135, 10160, 10175, 11035 to 11036, 11088, 11093, 11904 to 12350, 12353 to 19903, 19968 to 42191, 43360 to 43391, 44032 to 55203, 63744 to 64255, 65040 to 65049, 65072 to 65135, 65281 to 65376, 65504 to 65510, 127744 to 128591, 128640 to 128767, 129280 to 129535, 129648 to 129791, 131072 to 196605, 196608 to 262141"
)

type span struct{ first, last rune }

// spans reads one of the chapter's lists.
func spans(list string) []span {
	var all []span
	for _, item := range strings.Split(list, ", ") {
		first, last, ok := strings.Cut(item, " to ")
		if !ok {
			last = first
		}
		all = append(all, span{number(first), number(last)})
	}
	return all
}

func number(s string) rune {
	n, err := strconv.Atoi(s)
	if err != nil {
		panic(err)
	}
	return rune(n)
}

// members are the runes of a list, each by itself.
func members(list string) map[rune]int {
	in := map[rune]int{}
	for _, s := range spans(list) {
		for r := s.first; r <= s.last; r++ {
			in[r]++
		}
	}
	return in
}

// chapter answers as the chapter defines it.
type chapter struct{ marks, wides map[rune]int }

func newChapter() chapter {
	return chapter{members(markList), members(wideList)}
}

func (c chapter) control(r rune) bool {
	return r >= 0 && r <= 31 || r >= 127 && r <= 159
}

func (c chapter) mark(r rune) bool {
	return c.marks[r] > 0
}

func (c chapter) wide(r rune) bool {
	return c.wides[r] > 0 && c.marks[r] == 0
}

func (c chapter) of(r rune) int {
	if r < 0 || r > 1114111 || r >= 55296 && r <= 57343 || c.control(r) || c.mark(r) {
		return 0
	}
	if c.wide(r) {
		return 2
	}
	return 1
}

// someRunes are one or two of each sort, and numbers that are no runes.
var someRunes = []rune{'a', 0x4e00, 0x301, 7, -1, 0x1f600, 1114112}

// lists calls do with each list of at most most of someRunes.
func lists(most int, do func([]rune)) {
	var grow func(l []rune)
	grow = func(l []rune) {
		do(l)
		if len(l) == most {
			return
		}
		for _, r := range someRunes {
			grow(append(l, r))
		}
	}
	grow(make([]rune, 0, most))
}

// P2.1

func TestEveryNumber(t *testing.T) {
	c := newChapter()
	for r := rune(-70000); r < 1200000; r++ {
		if w := Of(r); w != c.of(r) {
			t.Errorf("Of(%d) = %d", r, w)
		}
		if Control(r) != c.control(r) {
			t.Errorf("Control(%d) = %v", r, Control(r))
		}
		if Mark(r) != c.mark(r) {
			t.Errorf("Mark(%d) = %v", r, Mark(r))
		}
		if Wide(r) != c.wide(r) {
			t.Errorf("Wide(%d) = %v", r, Wide(r))
		}
	}
}

func TestEdges(t *testing.T) {
	for _, x := range []struct {
		r                   rune
		columns             int
		control, mark, wide bool
	}{
		{0, 0, true, false, false},
		{10, 0, true, false, false},
		{31, 0, true, false, false},
		{32, 1, false, false, false},
		{65, 1, false, false, false},
		{126, 1, false, false, false},
		{127, 0, true, false, false},
		{159, 0, true, false, false},
		{160, 1, false, false, false},
		{767, 1, false, false, false},
		{768, 0, false, true, false},
		{769, 0, false, true, false},
		{879, 0, false, true, false},
		{880, 1, false, false, false},
		{1470, 1, false, false, false},
		{1471, 0, false, true, false},
		{1472, 1, false, false, false},
		{4351, 1, false, false, false},
		{4352, 2, false, false, true},
		{4447, 2, false, false, true},
		{4448, 1, false, false, false},
		{9200, 2, false, false, true},
		{9201, 1, false, false, false},
		{12329, 2, false, false, true},
		{12330, 0, false, true, false},
		{12333, 0, false, true, false},
		{12334, 2, false, false, true},
		{12350, 2, false, false, true},
		{12351, 1, false, false, false},
		{12440, 2, false, false, true},
		{12441, 0, false, true, false},
		{12442, 0, false, true, false},
		{12443, 2, false, false, true},
		{28450, 2, false, false, true},
		{55203, 2, false, false, true},
		{55204, 1, false, false, false},
		{55295, 1, false, false, false},
		{55296, 0, false, false, false},
		{57343, 0, false, false, false},
		{57344, 1, false, false, false},
		{65039, 0, false, true, false},
		{65040, 2, false, false, true},
		{65533, 1, false, false, false},
		{262141, 2, false, false, true},
		{262142, 1, false, false, false},
		{917999, 0, false, true, false},
		{918000, 1, false, false, false},
		{1114111, 1, false, false, false},
		{1114112, 0, false, false, false},
		{math.MaxInt32, 0, false, false, false},
		{-1, 0, false, false, false},
		{-768, 0, false, false, false},
		{math.MinInt32, 0, false, false, false},
	} {
		if w := Of(x.r); w != x.columns {
			t.Errorf("Of(%d) = %d, not %d", x.r, w, x.columns)
		}
		if Control(x.r) != x.control || Mark(x.r) != x.mark || Wide(x.r) != x.wide {
			t.Errorf("%d: control %v, mark %v, wide %v", x.r, Control(x.r), Mark(x.r), Wide(x.r))
		}
	}
}

// P2.2

func TestSum(t *testing.T) {
	for _, x := range []struct {
		l    []rune
		want int
	}{
		{nil, 0},
		{[]rune{}, 0},
		{[]rune{'a'}, 1},
		{[]rune{'a', 0x301, 0x4e00, 7}, 3},
		{[]rune{0x4e00, 0x4e00, 0x4e00}, 6},
		{[]rune{0x301, 0x301, 0, 27}, 0},
		{[]rune{-1, 0xd800, 1114112, math.MinInt32, math.MaxInt32}, 0},
		{[]rune{'a', -1, 'b'}, 2},
	} {
		if n := Sum(x.l...); n != x.want {
			t.Errorf("Sum(%d) = %d, not %d", x.l, n, x.want)
		}
	}
	if n := Sum(); n != 0 {
		t.Errorf("Sum() = %d", n)
	}
	if n := Sum(slices.Repeat([]rune{'a', 0x4e00}, 100000)...); n != 300000 {
		t.Errorf("Sum of 200000 runes = %d", n)
	}
}

func TestSumAsDefined(t *testing.T) {
	c := newChapter()
	lists(4, func(l []rune) {
		want := 0
		for _, r := range l {
			want += c.of(r)
		}
		if n := Sum(l...); n != want {
			t.Fatalf("Sum(%d) = %d, not %d", l, n, want)
		}
	})
}

func TestFit(t *testing.T) {
	for _, x := range []struct {
		name       string
		most       int
		l          []rune
		n, columns int
	}{
		{"nothing", 5, nil, 0, 0},
		{"nothing into nothing", 0, nil, 0, 0},
		{"all, exactly", 3, []rune{'a', 'b', 'c'}, 3, 3},
		{"all, with room", 9, []rune{'a', 0x4e00}, 2, 3},
		{"all, with the greatest room", math.MaxInt, []rune{'a', 0x4e00, 0x301}, 3, 3},
		{"not all", 2, []rune{'a', 'b', 'c'}, 2, 2},
		{"a wide one does not fit in part", 2, []rune{'a', 0x301, 0x4e00, 'b'}, 2, 1},
		{"a wide one alone does not", 1, []rune{0x4e00, 'b'}, 0, 0},
		{"a wide one, exactly", 2, []rune{0x4e00, 'b'}, 1, 2},
		{"marks behind the last that fits", 3, []rune{'a', 0x4e00, 0x301, 0x301, 'b'}, 4, 3},
		{"controls and what is no rune take nothing", 1, []rune{7, -1, 'a', 10, 1114112, 'b'}, 5, 1},
		{"marks into nothing", 0, []rune{0x301, 7, 'a', 0x301}, 2, 0},
		{"a letter into nothing", 0, []rune{'a', 0x301}, 0, 0},
		{"less than nothing", -1, []rune{'a', 'b'}, 0, 0},
		{"marks into less than nothing", -1, []rune{0x301, 7, -1}, 0, 0},
		{"the least", math.MinInt, []rune{0x301, 'a', 0x4e00}, 0, 0},
		{"nothing into less than nothing", -1, nil, 0, 0},
	} {
		if n, columns := Fit(x.most, x.l...); n != x.n || columns != x.columns {
			t.Errorf("%s: Fit(%d, %d) = %d, %d, not %d, %d", x.name, x.most, x.l, n, columns, x.n, x.columns)
		}
	}
	if n, columns := Fit(4); n != 0 || columns != 0 {
		t.Errorf("Fit(4) = %d, %d", n, columns)
	}
}

func TestFitAsDefined(t *testing.T) {
	c := newChapter()
	lists(4, func(l []rune) {
		for most := -2; most <= 9; most++ {
			n, columns := 0, 0
			for end, sum := 0, 0; sum <= most; end++ {
				n, columns = end, sum
				if end == len(l) {
					break
				}
				sum += c.of(l[end])
			}
			if n0, columns0 := Fit(most, l...); n0 != n || columns0 != columns {
				t.Fatalf("Fit(%d, %d) = %d, %d, not %d, %d", most, l, n0, columns0, n, columns)
			}
		}
	})
}

// General rule 4: arguments are not changed.
func TestArgumentsStay(t *testing.T) {
	lists(3, func(l []rune) {
		before := slices.Clone(l)
		Sum(l...)
		Fit(2, l...)
		if !slices.Equal(l, before) {
			t.Fatalf("%d became %d", before, l)
		}
	})
}

// P2.3

func collect(ranges iter.Seq2[rune, rune]) []span {
	var all []span
	for first, last := range ranges {
		all = append(all, span{first, last})
	}
	return all
}

// enumerations are both iterators, each with the list that it must yield.
func enumerations() []struct {
	name string
	all  func() iter.Seq2[rune, rune]
	want []span
} {
	return []struct {
		name string
		all  func() iter.Seq2[rune, rune]
		want []span
	}{
		{"Marks", Marks, spans(markList)},
		{"Wides", Wides, spans(wideList)},
	}
}

func TestRanges(t *testing.T) {
	for _, x := range enumerations() {
		got := collect(x.all())
		if !slices.Equal(got, x.want) {
			t.Errorf("%s yields %v, not %v", x.name, got, x.want)
		}
		end := rune(-1)
		for _, s := range got {
			if s.first <= end || s.last < s.first {
				t.Errorf("%s: %v behind %d", x.name, s, end)
			}
			end = s.last
		}
	}
}

func TestRangesStop(t *testing.T) {
	for _, x := range enumerations() {
		for most := 1; most <= len(x.want); most++ {
			var got []span
			x.all()(func(first, last rune) bool {
				got = append(got, span{first, last})
				return len(got) < most
			})
			if !slices.Equal(got, x.want[:most]) {
				t.Errorf("%s, stopped at %d: %v", x.name, most, got)
			}
		}
	}
}

func TestRangesAgain(t *testing.T) {
	for _, x := range enumerations() {
		all := x.all()
		for range all {
			break
		}
		for range 2 {
			if got := collect(all); !slices.Equal(got, x.want) {
				t.Errorf("%s, ranged over again: %v", x.name, got)
			}
		}
		// One inside the other: neither may move the other on.
		n := 0
		for range all {
			for range all {
				n++
			}
		}
		if n != len(x.want)*len(x.want) {
			t.Errorf("%s, inside itself: %d ranges", x.name, n)
		}
	}
}

// P2.4

func TestFitIsLongest(t *testing.T) {
	lists(4, func(l []rune) {
		for most := range 10 {
			n, columns := Fit(most, l...)
			if columns != Sum(l[:n]...) || columns > most {
				t.Fatalf("Fit(%d, %d) = %d, %d", most, l, n, columns)
			}
			if n < len(l) && Sum(l[:n+1]...) <= most {
				t.Fatalf("Fit(%d, %d) = %d, %d, but one more fits", most, l, n, columns)
			}
		}
	})
}

// P2.5

func TestRangesAreTheRunes(t *testing.T) {
	marks, wides := map[rune]int{}, map[rune]int{}
	for first, last := range Marks() {
		for r := first; r <= last; r++ {
			marks[r]++
		}
	}
	for first, last := range Wides() {
		for r := first; r <= last; r++ {
			wides[r]++
		}
	}
	for r := range rune(1114112) {
		if Mark(r) != (marks[r] > 0) {
			t.Errorf("Mark(%d) = %v", r, Mark(r))
		}
		if Wide(r) != (wides[r] > 0 && !Mark(r)) {
			t.Errorf("Wide(%d) = %v", r, Wide(r))
		}
	}
}
