package esc

import "strconv"

// csi is what every control sequence begins with.
const csi = "\x1b["

// The bytes that can end a control sequence lie between these.
const (
	firstFinal byte = '@'
	lastFinal  byte = '~'
)

// order is what a control sequence does.
type order int

const (
	goUp order = iota
	goDown
	goRight
	goLeft
	goToColumn
	eraseBelow
	eraseLine
	turnOn
	turnOff
	changeStyle
)

// private stands ahead of the numbers of modes.
const private = "?"

// The numbers of the modes.
const (
	cursorVisible  = 25
	bracketedPaste = 2004
)

// The numbers of a style change, colors aside.
const (
	plain   = 0
	bold    = 1
	under   = 4
	inverse = 7
)

// The colors' numbers lie in two blocks, each of which begins with color 1 and
// has the usual one last, at a distance.
const (
	foreground = 30
	background = 40
	usualColor = 9
	lastColor  = 8
)

// sequence returns the control sequence with these numbers.
func sequence(o order, numbers ...int) string {
	return csi + join(numbers...) + string(final(o))
}

// mode returns the control sequence that turns a mode on or off.
func mode(number int, on bool) string {
	o := turnOff
	if on {
		o = turnOn
	}
	return csi + private + join(number) + string(final(o))
}

// join returns the numbers, separated by semicolons.
func join(numbers ...int) string {
	var list []byte
	for i, n := range numbers {
		if i > 0 {
			list = append(list, ';')
		}
		list = strconv.AppendInt(list, int64(n), 10)
	}
	return string(list)
}

// final returns the letter that ends a control sequence.
func final(o order) byte {
	letter := byte('A')
	switch o {
	// The letters of the four steps follow each other, so each of these cases
	// is one letter on from the next one.
	case goLeft:
		letter++
		fallthrough
	case goRight:
		letter++
		fallthrough
	case goDown:
		letter++
		fallthrough
	case goUp:
		return letter
	case goToColumn:
		return 'G'
	case eraseBelow:
		return 'J'
	case eraseLine:
		return 'K'
	case turnOn:
		return 'h'
	case turnOff:
		return 'l'
	}
	return 'm'
}
