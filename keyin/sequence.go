package keyin

import (
	"strings"

	"placard/api"
)

// separator stands between the numbers of a sequence.
const separator = ";"

const (
	mostNumbers = 2
	mostDigits  = 4
)

// What a second number holds, one less than it is.
const (
	shiftBit = 1 << iota
	altBit
	ctlBit
	mostModifiers = shiftBit | altBit | ctlBit
)

// sequenceKey returns the key that a complete sequence is, without a Code if it
// is none.
func sequenceKey(parameters string, final byte) api.Key {
	list := numbers(parameters)
	if len(list) == 0 {
		return api.Key{}
	}
	var k api.Key
	switch final {
	case 'P', 'Q', 'R', 'S':
		// Without modifiers these keys come as ESC O, so a bracket needs both
		// numbers.
		if len(list) != mostNumbers {
			break
		}
		fallthrough
	case 'A', 'B', 'C', 'D', 'H', 'F':
		if list[0] == 1 {
			k = letterKey(final)
		}
	case 'Z':
		if parameters == "" {
			k.Code = api.BackTab
		}
	case '~':
		k = numberKey(list[0])
	}
	if len(list) == mostNumbers {
		return modified(k, list[1])
	}
	return k
}

// numbers returns the numbers of a sequence, or none if it has anything else,
// or too much.
func numbers(parameters string) []int {
	var list []int
	for _, digits := range strings.Split(parameters, separator) {
		n, ok := number(digits)
		if !ok || len(list) == mostNumbers {
			return nil
		}
		list = append(list, n)
	}
	return list
}

func number(digits string) (n int, ok bool) {
	if digits == "" {
		return 1, true
	}
	if len(digits) > mostDigits {
		return 0, false
	}
	for i := range len(digits) {
		if digits[i] < '0' || digits[i] > '9' {
			return 0, false
		}
		n = n*10 + int(digits[i]-'0')
	}
	return n, true
}

// letterKey returns the key for which a letter stands.
func letterKey(letter byte) api.Key {
	switch letter {
	case 'A':
		return api.Key{Code: api.Up}
	case 'B':
		return api.Key{Code: api.Down}
	case 'C':
		return api.Key{Code: api.Right}
	case 'D':
		return api.Key{Code: api.Left}
	case 'H':
		return api.Key{Code: api.Home}
	case 'F':
		return api.Key{Code: api.End}
	case 'P', 'Q', 'R', 'S':
		return function(int(letter-'P') + 1)
	}
	return api.Key{}
}

// numberKey returns the key for which the first number of a sequence stands.
func numberKey(n int) api.Key {
	switch {
	case n == 1 || n == 7:
		return api.Key{Code: api.Home}
	case n == 4 || n == 8:
		return api.Key{Code: api.End}
	case n == 3:
		return api.Key{Code: api.Delete}
	case n == 5:
		return api.Key{Code: api.PageUp}
	case n == 6:
		return api.Key{Code: api.PageDown}
	case n >= 11 && n <= 15:
		return function(n - 10)
	case n >= 17 && n <= 21:
		return function(n - 11)
	case n == 23 || n == 24:
		return function(n - 12)
	}
	return api.Key{}
}

func function(n int) api.Key {
	return api.Key{Code: api.Func, N: n}
}

// modified returns k with the modifiers that a second number holds, or no key
// if it can't hold them.
func modified(k api.Key, n int) api.Key {
	bits := n - 1
	if bits < 0 || bits > mostModifiers {
		return api.Key{}
	}
	k.Shift = bits&shiftBit != 0
	k.Alt = bits&altBit != 0
	k.Ctl = bits&ctlBit != 0
	return k
}
