package keymap

import "placard/api"

// words are those of the actions.
var words = [...]string{
	api.GoLeft:    "left",
	api.GoRight:   "right",
	api.WordLeft:  "wordleft",
	api.WordRight: "wordright",
	api.GoHome:    "home",
	api.GoEnd:     "end",
	api.EraseBack: "eraseback",
	api.EraseHere: "erasehere",
	api.KillEnd:   "killend",
	api.KillHome:  "killhome",
	api.KillWord:  "killword",
	api.KillBack:  "killback",
	api.Yank:      "yank",
	api.YankPop:   "yankpop",
	api.Undo:      "undo",
	api.Swap:      "swap",
	api.Clear:     "clear",
	api.Older:     "older",
	api.Newer:     "newer",
}

// isAction reports whether there is such an action.
func isAction(a api.Act) bool {
	return a >= api.GoLeft && a <= api.Newer
}

// Word returns the word of an action, or nothing if there is no such action.
func Word(a api.Act) string {
	if !isAction(a) {
		return ""
	}
	return words[a]
}

// Act returns the action that has a word.
func Act(word string) (api.Act, bool) {
	for a := api.GoLeft; a <= api.Newer; a++ {
		if words[a] == word {
			return a, true
		}
	}
	return api.NoAct, false
}
