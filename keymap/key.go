package keymap

import (
	"strconv"
	"strings"

	"placard/api"
)

// names are those of the keys that their codes alone tell.
var names = [...]string{
	api.Text:      "text",
	api.Enter:     "enter",
	api.Tab:       "tab",
	api.BackTab:   "backtab",
	api.Escape:    "escape",
	api.Backspace: "backspace",
	api.Delete:    "delete",
	api.Up:        "up",
	api.Down:      "down",
	api.Left:      "left",
	api.Right:     "right",
	api.Home:      "home",
	api.End:       "end",
	api.PageUp:    "pageup",
	api.PageDown:  "pagedown",
	api.Paste:     "paste",
}

// What stands ahead of the rest of a name, in the order in which it does.
const (
	altPrefix   = "alt-"
	ctlPrefix   = "ctl-"
	shiftPrefix = "shift-"
)

// What stands ahead of that by which a name tells keys of one code apart.
const (
	textPrefix = "text."
	ctrlPrefix = "ctrl-"
	funcPrefix = "f"
)

// lastFunction is the number of the last key of its kind.
const lastFunction = 12

// Check tells whether a key is valid.
func Check(k api.Key) api.Errno {
	if validText(k) && validNumber(k) {
		return api.OK
	}
	return api.ErrKeymap
}

// validText reports whether there is such a code, and a key of it may have such
// an S.
func validText(k api.Key) bool {
	switch k.Code {
	case api.Text, api.Paste:
		return len(k.S) <= api.MaxPaste
	case api.Ctrl:
		return len(k.S) == 1 && isControlled(k.S[0])
	}
	return k.Code >= api.Text && k.Code <= api.Func && k.S == ""
}

// isControlled reports whether there is a Ctrl key with the byte.
func isControlled(b byte) bool {
	switch b {
	case '@', '[', '\\', ']', '^', '_':
		return true
	}
	return b >= 'a' && b <= 'z'
}

// validNumber reports whether a key of its code may have such an N.
func validNumber(k api.Key) bool {
	if k.Code == api.Func {
		return k.N >= 1 && k.N <= lastFunction
	}
	return k.N == 0
}

// Name returns the name of a key, or nothing if the key is not valid.
func Name(k api.Key) string {
	if Check(k) != api.OK {
		return ""
	}
	name := unmodified(k)
	// Each prefix is put ahead of those that come after it.
	if k.Shift {
		name = shiftPrefix + name
	}
	if k.Ctl {
		name = ctlPrefix + name
	}
	if k.Alt {
		name = altPrefix + name
	}
	return name
}

// unmodified is Name without the modifiers.
func unmodified(k api.Key) string {
	switch {
	case k.Code == api.Text && k.Alt:
		return textPrefix + k.S
	case k.Code == api.Ctrl:
		return ctrlPrefix + k.S
	case k.Code == api.Func:
		return funcPrefix + strconv.Itoa(k.N)
	}
	return names[k.Code]
}

// Key returns the key that has a name.
func Key(name string) (api.Key, api.Errno) {
	// What is not written as Name writes it is no name, whatever key it might
	// be read as.
	if k := read(name); Check(k) == api.OK && Name(k) == name {
		return k, api.OK
	}
	return api.Key{}, api.ErrKeymap
}

// read returns the key that has a name, or any other one if none has it.
func read(name string) api.Key {
	var k api.Key
	name, k.Alt = strings.CutPrefix(name, altPrefix)
	name, k.Ctl = strings.CutPrefix(name, ctlPrefix)
	name, k.Shift = strings.CutPrefix(name, shiftPrefix)
	if s, found := strings.CutPrefix(name, textPrefix); found {
		k.Code, k.S = api.Text, s
	} else if s, found := strings.CutPrefix(name, ctrlPrefix); found {
		k.Code, k.S = api.Ctrl, s
	} else if code := named(name); code != api.NoCode {
		k.Code = code
	} else if digits, found := strings.CutPrefix(name, funcPrefix); found {
		k.Code = api.Func
		k.N, _ = strconv.Atoi(digits)
	}
	return k
}

// named returns the code that alone tells its keys' name, or NoCode.
func named(name string) api.Code {
	for code, other := range names {
		if other == name {
			return api.Code(code)
		}
	}
	return api.NoCode
}
