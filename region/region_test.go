package region

import (
	"math"
	"slices"
	"strconv"
	"testing"

	"placard/api"
	"placard/frame"
)

// P11.1

func TestNew(t *testing.T) {
	if api.ErrRegion != 110 {
		t.Fatal("ErrRegion is not 110")
	}
	for _, w := range []int{1, 2, 80, 499, 500} {
		for _, h := range []int{1, 2, 24, 59, 60, 61, 499, 500} {
			for _, rows := range []int{1, 2, 24, 25, 59, 60} {
				newStand(t, w, h, rows).holdTold(t, "New")
			}
		}
	}
}

func TestNewRefuses(t *testing.T) {
	bad := []int{math.MinInt, -1 << 32, -1, 0, 501, 502, 1 << 32, 1<<32 + 1, math.MaxInt}
	for _, n := range bad {
		for _, x := range [][3]int{{n, 5, 5}, {5, n, 5}, {5, 5, n}, {n, n, n}, {n, 500, 60}, {1, n, 1}} {
			holdNotMade(t, x[0], x[1], x[2])
		}
	}
	for _, rows := range []int{61, 62, 500} {
		for _, h := range []int{1, 60, 500} {
			holdNotMade(t, 80, h, rows)
		}
	}
}

func holdNotMade(t *testing.T, w, h, rows int) {
	t.Helper()
	if r, e := New(w, h, rows); r != nil || e != api.ErrRegion {
		t.Errorf("New(%d, %d, %d) = %v, %d", w, h, rows, r, e)
	}
}

// What a region tells at each stage.
func TestTold(t *testing.T) {
	s := newStand(t, 5, 3, 4)
	s.holdTold(t, "new")
	s.start(t)
	s.draw(t, whole(5, 3, 2, 1, false))
	s.resize(t, 4, 6)
	s.draw(t, whole(4, 4, 0, 0, true))
	s.above(t, "a")
	s.end(t, "b")
	if w, rows := s.r.Size(); w != 4 || rows != 4 {
		t.Errorf("Size behind End = %d, %d", w, rows)
	}
}

// What is no region: nil, composed, or copied from one that was made.
func TestInvalid(t *testing.T) {
	made, _ := New(5, 3, 2)
	made.Start()
	copied := *made
	for name, r := range map[string]*Region{"nil": nil, "zero": {}, "a copy": &copied} {
		holdInvalid(t, name, r)
	}
	if !made.Open() {
		t.Error("what was done to a copy was done to the region")
	}
}

func holdInvalid(t *testing.T, name string, r *Region) {
	t.Helper()
	answers := map[string]func() (string, api.Errno){
		"Start":             r.Start,
		"Draw":              func() (string, api.Errno) { return r.Draw(whole(5, 2, 0, 0, true)) },
		"Draw of nothing":   func() (string, api.Errno) { return r.Draw(api.Frame{}) },
		"Resize":            func() (string, api.Errno) { return r.Resize(4, 4) },
		"Resize to nothing": func() (string, api.Errno) { return r.Resize(0, 501) },
		"Above":             func() (string, api.Errno) { return r.Above("a") },
		"Above of 61":       func() (string, api.Errno) { return r.Above(make([]string, 61)...) },
		"End":               func() (string, api.Errno) { return r.End() },
		"End of 60":         func() (string, api.Errno) { return r.End(make([]string, 60)...) },
	}
	for what, do := range answers {
		if s, e := do(); s != "" || e != api.ErrNil {
			t.Errorf("%s: %s = %q, %d", name, what, s, e)
		}
	}
	w, rows := r.Size()
	if f := r.Shown(); w != 0 || rows != 0 || r.Open() || len(f.Rows) != 0 || f.Row != 0 || f.Col != 0 || f.Seen {
		t.Errorf("%s: %d, %d, %v, %v", name, w, rows, r.Open(), f)
	}
}

// refusal is a call that a region refuses, and the error that it returns.
type refusal struct {
	what string
	do   func(*Region) (string, api.Errno)
	want api.Errno
}

func start(r *Region) (string, api.Errno) { return r.Start() }

func draw(f api.Frame) func(*Region) (string, api.Errno) {
	return func(r *Region) (string, api.Errno) { return r.Draw(f) }
}

func resize(w, h int) func(*Region) (string, api.Errno) {
	return func(r *Region) (string, api.Errno) { return r.Resize(w, h) }
}

func above(n int) func(*Region) (string, api.Errno) {
	return func(r *Region) (string, api.Errno) { return r.Above(make([]string, n)...) }
}

func end(n int) func(*Region) (string, api.Errno) {
	return func(r *Region) (string, api.Errno) { return r.End(make([]string, n)...) }
}

// refusedSizes are sizes that no terminal has.
func refusedSizes() []refusal {
	var l []refusal
	for _, n := range []int{math.MinInt, -1, 0, 501, 1 << 32, 1<<32 + 1, math.MaxInt} {
		for _, x := range [][2]int{{n, 2}, {3, n}, {n, n}} {
			what := "Resize to " + strconv.Itoa(x[0]) + " by " + strconv.Itoa(x[1])
			l = append(l, refusal{what, resize(x[0], x[1]), api.ErrArg})
		}
	}
	return l
}

// refusedShut are the calls that a region refuses that is not open, and among
// them those that it would refuse if it were.
func refusedShut() []refusal {
	return append(refusedSizes(),
		refusal{"Draw", draw(whole(3, 2, 0, 0, true)), api.ErrRegion},
		refusal{"Draw of nothing", draw(api.Frame{}), api.ErrRegion},
		refusal{"Resize to what it is", resize(3, 4), api.ErrRegion},
		refusal{"Resize", resize(500, 1), api.ErrRegion},
		refusal{"Above", above(1), api.ErrRegion},
		refusal{"Above of 61", above(61), api.ErrRegion},
		refusal{"End", end(0), api.ErrRegion},
		refusal{"End of 2", end(2), api.ErrRegion},
	)
}

// refusedOpen are the calls that an open region of 3 columns and 2 rows refuses.
func refusedOpen() []refusal {
	l := append(refusedSizes(),
		refusal{"Start", start, api.ErrRegion},
		refusal{"Above of 61", above(61), api.ErrMany},
		refusal{"Above of 100", above(100), api.ErrMany},
		refusal{"End of 2", end(2), api.ErrMany},
		refusal{"End of 3", end(3), api.ErrMany},
		refusal{"End of 61", end(61), api.ErrMany},
	)
	for name, f := range notValid() {
		l = append(l, refusal{"Draw of " + name, draw(f), api.ErrFrame})
	}
	return l
}

// holdRefused holds that calls are refused and change nothing.
func (s *stand) holdRefused(t *testing.T, when string, l []refusal) {
	t.Helper()
	for _, x := range l {
		if bytes, e := x.do(s.r); bytes != "" || e != x.want {
			t.Errorf("%s: %s = %q, %d, not %d", when, x.what, bytes, e, x.want)
		}
		s.holdTold(t, when+", "+x.what)
	}
}

// P11.2 to P11.6: what is refused, and that nothing hangs on it.
func TestRefused(t *testing.T) {
	s := newStand(t, 3, 4, 2)
	s.holdRefused(t, "new", refusedShut())
	s.start(t)
	s.holdRefused(t, "started", refusedOpen())
	s.draw(t, whole(3, 2, 1, 2, false))
	s.holdRefused(t, "drawn", refusedOpen())
	s.above(t, "one", "two", "three")
	s.holdRefused(t, "above", refusedOpen())
	s.resize(t, 5, 6)
	s.resize(t, 3, 4)
	s.holdRefused(t, "resized", refusedOpen())
	s.draw(t, whole(3, 2, 0, 1, true))
	s.end(t, "over")
	s.holdRefused(t, "over", append(refusedShut(), refusal{"Start", start, api.ErrRegion}))
}

// A frame has to have the size that the band has now, whatever was requested.
func TestDrawAsksForTheBandsSize(t *testing.T) {
	s := newStand(t, 4, 2, 5)
	sizes := func(w, rows int) {
		t.Helper()
		for w1 := range 8 {
			for rows1 := range 8 {
				f := whole(w1+1, rows1+1, 0, 0, true)
				if w1+1 != w || rows1+1 != rows {
					s.holdRefused(t, "another size", []refusal{{"Draw", draw(f), api.ErrFrame}})
				}
			}
		}
		s.draw(t, whole(w, rows, rows-1, w-1, false))
	}
	s.start(t)
	sizes(4, 2)
	s.resize(t, 6, 3)
	sizes(6, 3)
	s.resize(t, 1, 7)
	sizes(1, 5)
	s.above(t, "a", "b")
	sizes(1, 5)
}

// P11.6: End takes fewer lines than the band has rows, whatever was requested.
func TestEndTakesFewerLinesThanRows(t *testing.T) {
	for h := 1; h <= 6; h++ {
		for requested := 1; requested <= 7; requested++ {
			rows := min(h, requested)
			for n := range 10 {
				s := newStand(t, 3, h, requested)
				s.start(t)
				if n < rows {
					s.end(t, slices.Repeat([]string{"end"}, n)...)
				} else {
					s.holdRefused(t, "started", []refusal{{"End", end(n), api.ErrMany}})
				}
			}
		}
	}
	s := newStand(t, 3, 100, 60)
	s.start(t)
	s.holdRefused(t, "started", []refusal{{"End", end(60), api.ErrMany}})
	s.end(t, slices.Repeat([]string{"end"}, 59)...)
}

// P11.7 and rule 4: what is given stays as it is and is not kept, and what is
// answered is the caller's.

func TestNothingIsShared(t *testing.T) {
	s := newStand(t, 3, 4, 2)
	s.start(t)
	first := s.r.Shown()
	f := whole(3, 2, 1, 1, true)
	one := copiedFrame(f)
	bytes, _ := s.r.Draw(f)
	s.x.Write([]byte(bytes))
	if !frame.Same(f, one) {
		t.Error("a frame that was given has changed")
	}
	f.Rows[0][0], f.Rows[1] = space, nil
	s.shown = one
	s.holdTold(t, "a frame that changed behind Draw")
	g := s.r.Shown()
	g.Rows[0][0], g.Rows[1] = space, nil
	s.holdTold(t, "an answer that changed")
	if !frame.Same(first, api.Frame{Rows: [][]api.Cell{blankRow(3), blankRow(3)}, Seen: true}) {
		t.Errorf("an earlier answer has changed: %v", first)
	}
	s.draw(t, whole(3, 2, 0, 0, false))
	lines := []string{"a", "b\x1b"}
	given := slices.Clone(lines)
	s.above(t, lines...)
	s.end(t, lines[1:]...)
	if !slices.Equal(lines, given) {
		t.Errorf("lines that were given have changed: %q", lines)
	}
}

// Two regions know nothing of each other, and equal calls have equal answers.
func TestRegionsAreTheirOwn(t *testing.T) {
	all := func(r *Region) []string {
		var l []string
		for _, do := range []func(*Region) (string, api.Errno){
			start, draw(whole(3, 2, 1, 1, true)), above(2), draw(whole(3, 2, 0, 2, false)), resize(3, 5), draw(whole(3, 2, 1, 0, false)), end(1),
		} {
			bytes, e := do(r)
			l = append(l, bytes, strconv.Itoa(int(e)))
		}
		return l
	}
	a, _ := New(3, 4, 2)
	b, _ := New(3, 4, 2)
	c, _ := New(3, 4, 2)
	c.Start()
	one := all(a)
	if other := all(b); !slices.Equal(one, other) {
		t.Errorf("%q, and then %q", one, other)
	}
	if w, rows := c.Size(); !c.Open() || w != 3 || rows != 2 || c.Shown().Rows[0][0] != space {
		t.Error("another region has changed")
	}
}
