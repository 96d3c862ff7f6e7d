package term

import (
	"iter"

	"placard/api"
)

// execute does what a complete control sequence says.
func (t *Term) execute(parameters []byte, final byte) {
	private := len(parameters) > 0 && parameters[0] == '?'
	if private {
		parameters = parameters[1:]
	}
	switch {
	case !areNumbers(parameters):
	case private:
		t.setModes(parameters, final)
	case final == 'm':
		for _, n := range numbers(parameters) {
			t.style = restyled(t.style, n)
		}
	default:
		t.moveOrErase(number(parameters, 0), number(parameters, 1), final)
	}
}

func areNumbers(parameters []byte) bool {
	for _, b := range parameters {
		if b != ';' && (b < '0' || b > '9') {
			return false
		}
	}
	return true
}

// numbers enumerates the numbers that semicolons separate, counted from 0.
func numbers(parameters []byte) iter.Seq2[int, int] {
	return func(yield func(int, int) bool) {
		i, n := 0, 0
		for _, b := range parameters {
			if b != ';' {
				n = min(n*10+int(b-'0'), api.MaxParam)
				continue
			}
			if !yield(i, n) {
				return
			}
			i, n = i+1, 0
		}
		yield(i, n)
	}
}

// number returns the number that is counted as which, or 0 if there is none.
func number(parameters []byte, which int) int {
	for i, n := range numbers(parameters) {
		if i == which {
			return n
		}
	}
	return 0
}

// moveOrErase does what the final byte of a sequence says, if it is for these.
func (t *Term) moveOrErase(n, second int, final byte) {
	_, h := t.Size()
	row, col := t.Cursor()
	switch final {
	case 'A':
		t.moveTo(row-max(n, 1), col)
	case 'B':
		t.moveTo(row+max(n, 1), col)
	case 'C':
		t.moveTo(row, col+max(n, 1))
	case 'D':
		t.moveTo(row, col-max(n, 1))
	case 'G':
		t.moveTo(row, n-1)
	case 'H':
		t.moveTo(n-1, second-1)
	case 'J':
		t.erase(n, 0, h-1)
	case 'K':
		t.erase(n, row, row)
	}
}

// erase blanks the positions of the rows from first to last, among which the
// cursor's is: from the cursor on (what is 0), up to it (1), or all (2).
func (t *Term) erase(what, first, last int) {
	w, _ := t.Size()
	from, to := place{first, 0}, place{last, w - 1}
	switch what {
	case 0:
		from = t.cursor
	case 1:
		to = t.cursor
	case 2:
	default:
		return
	}
	for row := from.row; row <= to.row; row++ {
		left, right := 0, w-1
		if row == from.row {
			left = from.col
		}
		if row == to.row {
			right = to.col
		}
		t.screen.Erase(row, left, right+1)
	}
}

// restyled returns the style that a number of a sequence makes of y.
func restyled(y api.Style, n int) api.Style {
	switch {
	case n == 0:
		return api.Style{}
	case n == 1 || n == 22:
		y.Bold = n == 1
	case n == 4 || n == 24:
		y.Under = n == 4
	case n == 7 || n == 27:
		y.Inverse = n == 7
	case n >= 30 && n <= 37:
		y.Fg = n - 29
	case n == 39:
		y.Fg = 0
	case n >= 40 && n <= 47:
		y.Bg = n - 39
	case n == 49:
		y.Bg = 0
	}
	return y
}

// setModes turns the modes on or off that the numbers name.
func (t *Term) setModes(parameters []byte, final byte) {
	if final != 'h' && final != 'l' {
		return
	}
	for _, n := range numbers(parameters) {
		switch n {
		case 25:
			t.seen = final == 'h'
		case 2004:
			t.marked = final == 'h'
		}
	}
}
