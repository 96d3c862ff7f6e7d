package editor

import (
	"slices"
	"strings"

	"placard/api"
	"placard/cluster"
)

// state is what an editor holds.
type state struct {
	line
	kills []string // the most recent one first
	past  []noted  // the undo list, the most recent entry first
	last  trace
}

// noted is how the line was ahead of a change. It has a text, and not a line's
// clusters, so that a copy of an undo list shares nothing with it.
type noted struct {
	text   string
	cursor int
}

// trace is what a call leaves for the next one to go on from: whether it killed
// text, or whether it yanked, and then which kill, and from where to the cursor.
type trace struct {
	killed, yanked bool
	kill, from     int
}

// copied returns a state that holds the same.
func (s *state) copied() state {
	return state{line{s.Fork()}, slices.Clone(s.kills), slices.Clone(s.past), s.last}
}

// begin begins a call, and returns what the last one left: this one leaves
// nothing unless it says so.
func (s *state) begin() trace {
	last := s.last
	s.last = trace{}
	return last
}

// edit does something to the line, and notes how it was if that changed it; it
// returns what was answered.
func (s *state) edit(do func() bool) bool {
	clusters, cursor := s.Line(), s.Cursor()
	done := do()
	// What is done may leave the line as it was: two equal clusters may be
	// swapped, a kill may replace an equal one.
	if !s.is(clusters) {
		s.past = first(noted{strings.Join(clusters, ""), cursor}, s.past, api.MaxUndo)
	}
	return done
}

// first returns a list with an item ahead of it; if that is more than most, the
// last item goes.
func first[T any](item T, list []T, most int) []T {
	return slices.Insert(list[:min(len(list), most-1)], 0, item)
}

func (s *state) insert(text string) bool {
	s.begin()
	return s.edit(func() bool { return s.enter(text) })
}

func (s *state) set(text string) bool {
	s.begin()
	clusters := cluster.Cut(cluster.Flat(text))
	clusters = clusters[:min(len(clusters), s.most())]
	if s.is(clusters) {
		return false
	}
	return s.edit(func() bool {
		s.become(clusters)
		return true
	})
}

func (s *state) do(a api.Act) bool {
	last := s.begin()
	switch a {
	case api.GoLeft:
		return s.walk(s.Cursor() - 1)
	case api.GoRight:
		return s.walk(s.Cursor() + 1)
	case api.WordLeft:
		return s.walk(s.wordLeft())
	case api.WordRight:
		return s.walk(s.wordRight())
	case api.GoHome:
		return s.walk(0)
	case api.GoEnd:
		return s.walk(s.Len())
	case api.Undo:
		return s.undo()
	}
	return s.edit(func() bool { return s.change(a, last) })
}

// change performs an action that may change the line, behind a call that left
// something.
func (s *state) change(a api.Act, last trace) bool {
	switch cursor := s.Cursor(); a {
	case api.EraseBack:
		return s.erase(cursor-1, cursor)
	case api.EraseHere:
		return s.erase(cursor, cursor+1)
	case api.KillEnd:
		return s.kill(cursor, s.Len(), last)
	case api.KillHome:
		return s.kill(0, cursor, last)
	case api.KillWord:
		return s.kill(cursor, s.wordRight(), last)
	case api.KillBack:
		return s.kill(s.wordLeft(), cursor, last)
	case api.Yank:
		return len(s.kills) > 0 && s.yank(0, cursor)
	case api.YankPop:
		return last.yanked && len(s.kills) > 1 && s.yank((last.kill+1)%len(s.kills), last.from)
	case api.Swap:
		return s.swap()
	case api.Clear:
		return s.erase(0, s.Len())
	}
	return false
}

// kill kills the clusters from an index up to another one, at one of which the
// cursor is, and reports whether there were any.
func (s *state) kill(from, to int, last trace) bool {
	ahead := to == s.Cursor()
	gone := strings.Join(s.Delete(from, to), "")
	switch {
	case gone == "":
		return false
	case !last.killed:
		s.kills = first(gone, s.kills, api.MaxKill)
	case ahead:
		s.kills[0] = gone + s.kills[0]
	default:
		s.kills[0] += gone
	}
	s.last.killed = true
	return true
}

// yank puts a kill in the place of the clusters from an index up to the cursor,
// and reports whether it has room there.
func (s *state) yank(kill, from int) bool {
	clusters := cluster.Cut(s.kills[kill])
	if len(clusters) > s.Room()+s.Cursor()-from {
		return false
	}
	s.Delete(from, s.Cursor())
	s.Insert(clusters...)
	s.last = trace{yanked: true, kill: kill, from: from}
	return true
}

// undo restores the most recent entry of the undo list, and reports whether
// there was one.
func (s *state) undo() bool {
	if len(s.past) == 0 {
		return false
	}
	was := s.past[0]
	s.past = slices.Delete(s.past, 0, 1)
	s.become(cluster.Cut(was.text))
	s.Move(was.cursor)
	return true
}
