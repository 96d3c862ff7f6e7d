package keymap

import (
	"strings"

	"placard/api"
)

// usual are the names of the keys that the default map binds to each action.
var usual = [...]string{
	api.GoLeft:    "left ctrl-b",
	api.GoRight:   "right ctrl-f",
	api.WordLeft:  "alt-left alt-text.b ctl-left",
	api.WordRight: "alt-right alt-text.f ctl-right",
	api.GoHome:    "home ctrl-a",
	api.GoEnd:     "end ctrl-e",
	api.EraseBack: "backspace ctrl-h",
	api.EraseHere: "delete ctrl-d",
	api.KillEnd:   "ctrl-k",
	api.KillHome:  "ctrl-u",
	api.KillWord:  "alt-text.d",
	api.KillBack:  "ctrl-w alt-backspace",
	api.Yank:      "ctrl-y",
	api.YankPop:   "alt-text.y",
	api.Undo:      "ctrl-_",
	api.Swap:      "ctrl-t",
	api.Clear:     "ctrl-l",
	api.Older:     "up ctrl-p",
	api.Newer:     "down ctrl-n",
}

// Usual returns the default map.
func Usual() *Map {
	m := New()
	for a, keys := range usual {
		for _, name := range strings.Fields(keys) {
			m.acts[name] = api.Act(a)
		}
	}
	return m
}
