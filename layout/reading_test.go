package layout

import (
	"cmp"
	"fmt"
	"math"
	"slices"
	"testing"

	"placard/api"
)

// The chapter, read a second time: which parts are dropped is the shortest beginning of
// the row in which they would go, and the columns go by one sorted row of all claims.

type reading struct {
	kept    []bool
	sizes   []int
	surplus int
}

func readValid(room, gap int, parts []api.Part) api.Errno {
	if room < 0 || room > 500 || gap < 0 || gap > 9 {
		return api.ErrLayout
	}
	if len(parts) == 0 || len(parts) > 64 {
		return api.ErrMany
	}
	for _, p := range parts {
		ordered := slices.IsSorted([]int{0, p.Min, p.Max, 500})
		if !ordered || !slices.IsSorted([]int{0, p.Weight, 100}) || !slices.IsSorted([]int{0, p.Keep, 9}) {
			return api.ErrArg
		}
	}
	return api.OK
}

// taken adds up the sizes of the kept parts, and the gaps between them.
func taken(gap int, kept []bool, sizes []int) int {
	n, count := 0, 0
	for i, size := range sizes {
		if kept[i] {
			n += size
			count++
		}
	}
	return n + gap*max(count-1, 0)
}

// column is a claim of a part to one column more.
type column struct {
	share float64
	part  int
}

// claims returns all claims of the kept parts, the first one first. Shares of up to 500
// by up to 100 are so far from each other that floats of different ones differ.
func claims(kept []bool, parts []api.Part) []column {
	var l []column
	for i, p := range parts {
		if !kept[i] || p.Weight == 0 {
			continue
		}
		for n := 1; n <= p.Max-p.Min; n++ {
			l = append(l, column{float64(n) / float64(p.Weight), i})
		}
	}
	slices.SortFunc(l, func(a, b column) int {
		return cmp.Or(cmp.Compare(a.share, b.share), a.part-b.part)
	})
	return l
}

func read(room, gap int, parts []api.Part) reading {
	r := reading{kept: make([]bool, len(parts)), sizes: make([]int, len(parts))}
	going := make([]int, len(parts))
	for i, p := range parts {
		r.kept[i], r.sizes[i], going[i] = true, p.Min, i
	}
	slices.SortFunc(going, func(a, b int) int {
		return cmp.Or(parts[a].Keep-parts[b].Keep, b-a)
	})
	for taken(gap, r.kept, r.sizes) > room {
		r.kept[going[0]], r.sizes[going[0]] = false, 0
		going = going[1:]
	}
	left := room - taken(gap, r.kept, r.sizes)
	all := claims(r.kept, parts)
	for _, c := range all[:min(left, len(all))] {
		r.sizes[c.part]++
	}
	r.surplus = left - min(left, len(all))
	return r
}

func (r reading) places(gap, align int) []int {
	ahead := []int{0, r.surplus, r.surplus / 2}[align]
	l := make([]int, len(r.sizes))
	for i := range l {
		if r.kept[i] {
			before := append(slices.Clone(r.kept[:i]), true)
			l[i] = ahead + taken(gap, before, append(slices.Clone(r.sizes[:i]), 0))
		}
	}
	return l
}

// laid is what the calls answer.
type laid struct {
	stay  []bool
	sizes []int
}

// hold holds each call against the reading, and what follows from it.
func hold(t *testing.T, room, gap int, parts []api.Part) laid {
	t.Helper()
	call := fmt.Sprintf("room %d, gap %d, %v", room, gap, parts)
	want := readValid(room, gap, parts)
	if e := Check(room, gap, parts...); e != want {
		t.Fatalf("%s: Check = %d and not %d", call, e, want)
	}
	stay, e := Stay(room, gap, parts...)
	sizes, f := Sizes(room, gap, parts...)
	if e != want || f != want {
		t.Fatalf("%s: %d, %d and not %d", call, e, f, want)
	}
	if want != api.OK {
		if stay != nil || sizes != nil {
			t.Fatalf("%s: %v, %v beside an error", call, stay, sizes)
		}
		return laid{}
	}
	r := read(room, gap, parts)
	if !slices.Equal(stay, r.kept) || !slices.Equal(sizes, r.sizes) {
		t.Fatalf("%s: %v, %v and not %v, %v", call, stay, sizes, r.kept, r.sizes)
	}
	holdLeast(t, call, room, gap, parts, stay)
	holdPlaces(t, call, room, gap, parts, r)
	holdBounds(t, call, room, gap, parts, laid{stay, sizes})
	return laid{stay, sizes}
}

// holdLeast holds that all parts are kept exactly if there is the least room.
func holdLeast(t *testing.T, call string, room, gap int, parts []api.Part, stay []bool) {
	t.Helper()
	n, e := Least(gap, parts...)
	if e != api.OK || n <= room == slices.Contains(stay, false) {
		t.Errorf("%s: Least = %d, %d and %v are kept", call, n, e, stay)
	}
}

func holdPlaces(t *testing.T, call string, room, gap int, parts []api.Part, r reading) {
	t.Helper()
	for align := range 3 {
		places, e := Places(room, gap, align, parts...)
		if want := r.places(gap, align); e != api.OK || !slices.Equal(places, want) {
			t.Errorf("%s: places %v, %d by %d and not %v", call, places, e, align, want)
		}
	}
}

// holdBounds holds P16.5 and P16.7.
func holdBounds(t *testing.T, call string, room, gap int, parts []api.Part, l laid) {
	t.Helper()
	all := taken(gap, l.stay, l.sizes)
	if all > room {
		t.Errorf("%s: %d columns are taken (P16.5)", call, all)
	}
	for i, p := range parts {
		size := l.sizes[i]
		if l.stay[i] && (size < p.Min || size > p.Max) || !l.stay[i] && size != 0 {
			t.Errorf("%s: the size %d of part %d (P16.5)", call, size, i)
		}
		if !l.stay[i] || p.Weight == 0 || size == p.Max {
			continue
		}
		if all != room {
			t.Errorf("%s: only %d columns are taken (P16.5)", call, all)
		}
		for j, q := range parts {
			apart := size - p.Min - (l.sizes[j] - q.Min)
			if l.stay[j] && l.sizes[j] < q.Max && q.Weight == p.Weight && max(apart, -apart) > 1 {
				t.Errorf("%s: parts %d and %d (P16.7)", call, i, j)
			}
		}
	}
}

// holdGrowth holds P16.6: what one column more changes.
func holdGrowth(t *testing.T, room, gap int, parts []api.Part, less, more laid) {
	t.Helper()
	larger := 0
	for i, kept := range less.stay {
		if kept && !more.stay[i] {
			t.Fatalf("%v, gap %d: part %d is kept in %d only (P16.6)", parts, gap, i, room)
		}
		larger += more.sizes[i] - less.sizes[i]
		if slices.Equal(less.stay, more.stay) && (more.sizes[i] < less.sizes[i] || larger > 1) {
			t.Fatalf("%v, gap %d: in %d %v, in one more %v (P16.6)", parts, gap, room, less.sizes, more.sizes)
		}
	}
}

// holdRooms holds the parts in each room up to one.
func holdRooms(t *testing.T, most, gap int, parts []api.Part) {
	t.Helper()
	less := hold(t, 0, gap, parts)
	for room := 1; room <= most; room++ {
		more := hold(t, room, gap, parts)
		holdGrowth(t, room-1, gap, parts, less, more)
		less = more
	}
}

// holdBoxes holds the boxes against the reading of rows and columns, and P16.8.
func holdBoxes(t *testing.T, w, h, gap int, rows, cols []api.Part) {
	t.Helper()
	call := fmt.Sprintf("Boxes(%d, %d, %d, %v, %v)", w, h, gap, rows, cols)
	var want, got []api.Box
	if readValid(h, 0, rows) == api.OK && readValid(w, gap, cols) == api.OK {
		down, across := read(h, 0, rows), read(w, gap, cols)
		top, left := down.places(0, Start), across.places(gap, Start)
		for n := range len(rows) * len(cols) {
			i, j := n/len(cols), n%len(cols)
			if down.kept[i] && across.kept[j] {
				want = append(want, api.Box{Row: top[i], Col: left[j], H: down.sizes[i], W: across.sizes[j]})
			}
		}
	}
	for i, b := range Boxes(w, h, gap, rows, cols) {
		if i != len(got) {
			t.Fatalf("%s yields %d behind %d boxes", call, i, len(got))
		}
		got = append(got, b)
	}
	if !slices.Equal(got, want) {
		t.Fatalf("%s yields %v and not %v", call, got, want)
	}
	holdDisjoint(t, call, w, h, got)
}

// holdDisjoint holds P16.8 by counting the boxes that each place is in.
func holdDisjoint(t *testing.T, call string, w, h int, boxes []api.Box) {
	t.Helper()
	seen := make(map[[2]int]int)
	for i, b := range boxes {
		if min(b.Row, b.Col, b.H, b.W) < 0 || b.Row+b.H > h || b.Col+b.W > w {
			t.Errorf("%s: %v is not inside (P16.8)", call, b)
		}
		for at := range b.H * b.W {
			place := [2]int{b.Row + at/b.W, b.Col + at%b.W}
			if other, found := seen[place]; found {
				t.Fatalf("%s: boxes %d and %d overlap (P16.8)", call, other, i)
			}
			seen[place] = i
		}
	}
}

// small returns the parts whose numbers are at most these.
func small(most, weight, keep int) []api.Part {
	var l []api.Part
	for n := range (most + 1) * (most + 1) * (weight + 1) * (keep + 1) {
		p := api.Part{Keep: n % (keep + 1)}
		n /= keep + 1
		p.Weight = n % (weight + 1)
		n /= weight + 1
		p.Min, p.Max = n/(most+1), n%(most+1)
		if p.Min <= p.Max {
			l = append(l, p)
		}
	}
	return l
}

// TestTwoParts holds all rows of one or two small parts.
func TestTwoParts(t *testing.T) {
	kinds := small(3, 3, 1)
	for _, a := range kinds {
		for gap := range 3 {
			holdRooms(t, 6, gap, []api.Part{a})
			for _, b := range kinds {
				holdRooms(t, 9, gap, []api.Part{a, b})
			}
		}
	}
}

// TestThreeParts holds all rows of three smaller ones.
func TestThreeParts(t *testing.T) {
	kinds := small(2, 1, 1)
	for _, a := range kinds {
		for _, b := range kinds {
			for _, c := range kinds {
				holdRooms(t, 9, 1, []api.Part{a, b, c})
			}
		}
	}
}

// TestSmallBoxes holds the boxes of up to two small parts each way.
func TestSmallBoxes(t *testing.T) {
	// The second kind is not valid.
	kinds := []api.Part{{Max: 1, Weight: 1}, {Min: 2, Max: 1}, {Min: 1, Max: 1, Keep: 1}, {Min: 2, Max: 3, Weight: 2}}
	rows := [][]api.Part{nil}
	for _, a := range kinds {
		rows = append(rows, []api.Part{a})
		for _, b := range kinds {
			rows = append(rows, []api.Part{a, b})
		}
	}
	for _, down := range rows {
		for _, across := range rows {
			for size := range 8 * 8 {
				holdBoxes(t, size/8-1, size%8-1, size%2, down, across)
			}
		}
	}
}

// TestWrongNumbers holds two parts of all numbers near an edge.
func TestWrongNumbers(t *testing.T) {
	edge := func(greatest int) []int {
		return []int{math.MinInt, -1, 0, 1, greatest - 1, greatest, greatest + 1, math.MaxInt}
	}
	for _, least := range edge(500) {
		for _, most := range edge(500) {
			for _, weight := range edge(100) {
				for _, keep := range edge(9) {
					p := api.Part{Min: least, Max: most, Weight: weight, Keep: keep}
					hold(t, 500, 1, []api.Part{{Max: 1}, p})
				}
			}
		}
	}
	for _, room := range edge(500) {
		for _, gap := range edge(9) {
			for _, n := range []int{0, 1, 2, 63, 64, 65} {
				for _, p := range []api.Part{{}, {Min: 1}, {Min: 1, Max: 9, Weight: 3}} {
					hold(t, room, gap, slices.Repeat([]api.Part{p}, n))
				}
			}
		}
	}
}

// dice is a row of numbers that is the same each time.
type dice uint64

func (d *dice) upTo(most int) int {
	*d = *d*6364136223846793005 + 1442695040888963407
	return int(uint64(*d) >> 33 % uint64(most+1))
}

// parts returns up to some parts, of sizes of any length.
func (d *dice) parts(most int) []api.Part {
	l := make([]api.Part, 1+d.upTo(most-1))
	sizes, weight, keep := 1+d.upTo(499)>>d.upTo(9), 1+d.upTo(99)>>d.upTo(7), d.upTo(9)
	for i := range l {
		a, b := d.upTo(sizes), d.upTo(sizes)>>d.upTo(2)
		l[i] = api.Part{Min: min(a, b), Max: max(a, b), Weight: d.upTo(weight), Keep: d.upTo(keep)}
	}
	return l
}

// TestAnyParts holds parts of all numbers.
func TestAnyParts(t *testing.T) {
	d := dice(16)
	for range 4000 {
		parts, gap, room := d.parts(64), d.upTo(9), d.upTo(499)
		less, more := hold(t, room, gap, parts), hold(t, room+1, gap, parts)
		holdGrowth(t, room, gap, parts, less, more)
		if least, _ := Least(gap, parts...); least <= 500 && least > 0 {
			holdGrowth(t, least-1, gap, parts, hold(t, least-1, gap, parts), hold(t, least, gap, parts))
		}
	}
}

// TestEachRoom holds some parts in each room that there is.
func TestEachRoom(t *testing.T) {
	d := dice(500)
	for range 20 {
		parts := d.parts(9)
		holdRooms(t, 500, d.upTo(9), parts)
	}
}

// TestAnyBoxes holds boxes of all numbers.
func TestAnyBoxes(t *testing.T) {
	d := dice(8)
	for range 1000 {
		rows, cols := d.parts(9), d.parts(9)
		holdBoxes(t, d.upTo(100), d.upTo(100), d.upTo(9), rows, cols)
	}
}
