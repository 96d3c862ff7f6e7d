package keyin

// undecoded holds the bytes that wait for those after them. They are a string,
// so that a copy shares nothing that could change.
type undecoded struct {
	bytes string
}

func (u *undecoded) add(b byte) {
	u.bytes += string([]byte{b})
}

// remove takes the first n bytes away and returns them.
func (u *undecoded) remove(n int) string {
	removed := u.bytes[:n]
	u.bytes = u.bytes[n:]
	return removed
}

func (u *undecoded) waiting() string {
	return u.bytes
}

func (u *undecoded) count() int {
	return len(u.bytes)
}
