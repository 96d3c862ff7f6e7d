package keyin

import (
	"strconv"

	"placard/api"
)

// names are those of the keys that their codes alone tell.
var names = [...]string{
	api.Text:      "text",
	api.Enter:     "enter",
	api.Tab:       "tab",
	api.BackTab:   "backtab",
	api.Escape:    "escape",
	api.Backspace: "backspace",
	api.Delete:    "delete",
	api.Up:        "up",
	api.Down:      "down",
	api.Left:      "left",
	api.Right:     "right",
	api.Home:      "home",
	api.End:       "end",
	api.PageUp:    "pageup",
	api.PageDown:  "pagedown",
	api.Paste:     "paste",
}

// lastFunction is the number of the last key of its kind.
const lastFunction = 12

// Name returns the name of a key, or nothing if it has none.
func Name(k api.Key) string {
	name := unmodified(k)
	if name == "" {
		return ""
	}
	// Each prefix is put ahead of those that come after it.
	if k.Shift {
		name = "shift-" + name
	}
	if k.Ctl {
		name = "ctl-" + name
	}
	if k.Alt {
		name = "alt-" + name
	}
	return name
}

// unmodified is Name without the modifiers.
func unmodified(k api.Key) string {
	switch {
	case k.Code == api.Ctrl:
		return "ctrl-" + k.S
	case k.Code == api.Func && k.N >= 1 && k.N <= lastFunction:
		return "f" + strconv.Itoa(k.N)
	case k.Code > api.NoCode && int(k.Code) < len(names):
		return names[k.Code]
	}
	return ""
}
