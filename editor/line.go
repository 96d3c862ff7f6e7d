package editor

import (
	"iter"
	"slices"
	"unicode/utf8"

	"placard/cluster"
	"placard/gap"
	"placard/runes"
	"placard/width"
)

// line is what is edited.
type line struct {
	*gap.Buffer
}

// most returns how many clusters there may be.
func (l line) most() int {
	return l.Len() + l.Room()
}

// is reports whether the line has these clusters.
func (l line) is(clusters []string) bool {
	alike := l.Len() == len(clusters)
comparing:
	for at, c := range l.All() {
		switch {
		case !alike:
			break comparing
		case c != clusters[at]:
			alike = false
		}
	}
	return alike
}

// become puts other clusters in the place of all, with the cursor at their end.
func (l line) become(clusters []string) {
	l.erase(0, l.Len())
	l.Insert(clusters...)
}

// enter puts a text at the cursor, unless it has no room, and reports whether
// it changed the line.
func (l line) enter(s string) bool {
	clusters := cluster.Cut(cluster.Flat(s))
	if len(clusters) > l.Room() {
		return false
	}
	joined := l.join(s)
	l.Insert(clusters...)
	return joined || len(clusters) > 0
}

// join joins the marks with which a text begins to the cluster ahead of the
// cursor, and reports whether it took one.
func (l line) join(s string) bool {
	at := l.Cursor() - 1
	old, _ := l.At(at)
	joined := old
	for _, r := range runes.All(s) {
		if width.Of(r) > 0 {
			break
		}
		// What is no mark is not taken, nor is any where there is no cluster.
		joined, _ = cluster.Join(joined, r)
	}
	l.Replace(at, joined)
	return joined != old
}

// walk moves the cursor, and reports whether it was elsewhere.
func (l line) walk(to int) bool {
	from := l.Cursor()
	return l.Move(to) != from
}

// erase removes the clusters from an index up to another one, and reports
// whether there were any.
func (l line) erase(from, to int) bool {
	return len(l.Delete(from, to)) > 0
}

// swap exchanges the clusters ahead of and at the cursor, at the end of the
// line the last two, and moves after them; it reports whether there were two.
func (l line) swap() bool {
	at := min(l.Cursor(), l.Len()-1)
	if at < 1 {
		return false
	}
	first, _ := l.At(at - 1)
	second, _ := l.At(at)
	l.Replace(at-1, second)
	l.Replace(at, first)
	l.Move(at + 1)
	return true
}

// wordLeft returns the previous word boundary.
func (l line) wordLeft() int {
	return l.Cursor() - throughWord(l.Back())
}

// wordRight returns the next word boundary.
func (l line) wordRight() int {
	return l.Cursor() + throughWord(slices.All(l.Line()[l.Cursor():]))
}

// throughWord returns how many clusters there are up to the first word and in it.
func throughWord(clusters iter.Seq2[int, string]) int {
	n, inside := 0, false
	for _, c := range clusters {
		if inside && !inWord(c) {
			break
		}
		inside = inWord(c)
		n++
	}
	return n
}

// inWord reports whether a cluster belongs to a word.
func inWord(c string) bool {
	b := c[0]
	return b >= '0' && b <= '9' || b >= 'A' && b <= 'Z' || b >= 'a' && b <= 'z' || b >= utf8.RuneSelf
}
