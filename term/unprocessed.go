package term

import "placard/api"

// unprocessed holds the bytes that wait for those after them. Fewer than MaxSeq
// ever wait, so that one more has room; and a copy of an array shares nothing.
type unprocessed struct {
	bytes [api.MaxSeq]byte
	count int
}

func (u *unprocessed) add(b byte) {
	u.bytes[u.count] = b
	u.count++
}

func (u *unprocessed) drop(n int) {
	copy(u.bytes[:], u.bytes[n:u.count])
	u.count -= n
}

func (u *unprocessed) held() int {
	return u.count
}

// waiting returns the bytes where they lie: they are to be looked at until the
// next add or drop.
func (u *unprocessed) waiting() []byte {
	return u.bytes[:u.count]
}
