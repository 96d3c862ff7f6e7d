package gap

import "slices"

// slots hold a row of clusters around a gap, which is where the cursor is: what
// is typed there fills the gap, and nothing else has to make room for it.
type slots struct {
	all []string
	// The gap is all[from:to]. It holds no text, which would be kept although
	// it is gone from the row.
	from, to int
}

func (s *slots) ahead() []string {
	return s.all[:s.from]
}

func (s *slots) behind() []string {
	return s.all[s.to:]
}

func (s *slots) count() int {
	return len(s.ahead()) + len(s.behind())
}

// has reports whether there is a cluster at an index.
func (s *slots) has(at int) bool {
	return at >= 0 && at < s.count()
}

// slot returns where the cluster at an index is held.
func (s *slots) slot(at int) int {
	if at < s.from {
		return at
	}
	return at + s.to - s.from
}

// open opens the gap ahead of the cluster at an index: what lies between goes
// across.
func (s *slots) open(at int) {
	from, to := s.from, s.to
	s.from, s.to = at, at+to-from
	if at < from {
		copy(s.all[s.to:to], s.all[at:from])
	} else {
		copy(s.all[from:at], s.all[to:s.to])
	}
	clear(s.all[s.from:s.to])
}

// fill puts clusters into the gap at its begin, and makes it wider ahead of
// that if it has too few slots; there may be most slots in all.
func (s *slots) fill(clusters []string, most int) {
	if len(clusters) > s.to-s.from {
		// Twice as many, lest each cluster that is typed moves all the others.
		s.widen(min(most, max(s.count()+len(clusters), 2*len(s.all))))
	}
	s.from += copy(s.all[s.from:s.to], clusters)
}

// widen makes the gap wider, for so many slots in all.
func (s *slots) widen(size int) {
	all := make([]string, size)
	copy(all, s.ahead())
	to := size - len(s.behind())
	copy(all[to:], s.behind())
	s.all, s.to = all, to
}

// swallow removes the first n clusters behind the gap, and returns them.
func (s *slots) swallow(n int) []string {
	first := s.behind()[:n]
	gone := slices.Clone(first)
	clear(first)
	s.to += n
	return gone[:n:n]
}

// copied returns slots that hold the same.
func (s *slots) copied() slots {
	return slots{slices.Clone(s.all), s.from, s.to}
}
