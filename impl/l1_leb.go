package impl

import "math/bits"

const MaxBytes = 2000

// lebLongest is how many bytes 64 bits need at seven bits a byte.
const lebLongest = 10

const lebMaxList = 200

// The codes by which ReadU and ReadS tell why there is no number.
const (
	lebBadPlace = 1
	lebCutShort = 2
	lebTooWide  = 3
	lebPadded   = 4
)

func PutU(n uint64) string {
	return string(lebBytesU(n))
}

func PutS(n int) string {
	return string(lebBytesS(n))
}

func LongU(n uint64) int {
	// The number 0 still takes one byte.
	return (bits.Len64(n|1) + 6) / 7
}

func ReadU(s string, at int) (uint64, int, int, bool) {
	end, code := lebEnd(s, at)
	if code != 0 {
		return 0, 0, code, false
	}
	if code = lebFaultU(s[at:end]); code != 0 {
		return 0, 0, code, false
	}
	return lebBits(s[at:end]), end, 0, true
}

func ReadS(s string, at int) (int, int, int, bool) {
	end, code := lebEnd(s, at)
	if code != 0 {
		return 0, 0, code, false
	}
	if code = lebFaultS(s[at:end]); code != 0 {
		return 0, 0, code, false
	}
	n := lebBits(s[at:end])
	if s[end-1]&64 != 0 {
		// A shift by 64 or more leaves 0: ten bytes hold the sign already.
		n |= ^uint64(0) << (7 * (end - at))
	}
	return int(n), end, 0, true
}

func ListU(l []uint64) (string, bool) {
	if len(l) > lebMaxList {
		return "", false
	}
	long := LongU(uint64(len(l)))
	for _, n := range l {
		long += LongU(n)
	}
	if long > MaxBytes {
		return "", false
	}
	text := make([]byte, long)
	at := copy(text, lebBytesU(uint64(len(l))))
	for _, n := range l {
		at += copy(text[at:], lebBytesU(n))
	}
	return string(text), true
}

func ReadListU(s string, at int) ([]uint64, int, bool) {
	many, end, _, ok := ReadU(s, at)
	if !ok || many > lebMaxList {
		return nil, 0, false
	}
	l := make([]uint64, many)
	for i := range l {
		l[i], end, _, ok = ReadU(s, end)
		if !ok {
			return nil, 0, false
		}
	}
	return l, end, true
}

// lebBytesU cuts its answer by a third index, so that whoever appends to it
// does not reach the unused rest of the array.
func lebBytesU(n uint64) []byte {
	var room [lebLongest]byte
	long := 0
	for n >= 128 {
		room[long] = byte(n) | 128
		n >>= 7
		long++
	}
	room[long] = byte(n)
	long++
	return room[:long:long]
}

func lebBytesS(n int) []byte {
	var room [lebLongest]byte
	long := 0
	for n < -64 || n > 63 {
		room[long] = byte(n) | 128
		n >>= 7
		long++
	}
	room[long] = byte(n) & 127
	long++
	return room[:long:long]
}

// lebEnd is the place behind the first byte below 128, or a code. The tenth
// byte decides by itself, whether or not the text goes on behind it.
func lebEnd(s string, at int) (int, int) {
	if len(s) > MaxBytes || at < 0 || at > len(s) {
		return 0, lebBadPlace
	}
	for i := range lebLongest {
		if at+i == len(s) {
			return 0, lebCutShort
		}
		if s[at+i] < 128 {
			return at + i + 1, 0
		}
	}
	return 0, lebTooWide
}

// lebFaultU needs the last byte only: nine bytes hold 63 bits, so the tenth
// one has room for one more, and a last byte of 0 adds nothing.
func lebFaultU(digits string) int {
	long := len(digits)
	last := digits[long-1]
	if long == lebLongest && last > 1 {
		return lebTooWide
	}
	if long > 1 && last == 0 {
		return lebPadded
	}
	return 0
}

// lebFaultS asks for a tenth byte that only repeats the sign, as it holds the
// bit of 2 to the 63rd and six bits above it, and takes a last byte as padding
// where the byte ahead of it has that sign already.
func lebFaultS(digits string) int {
	long := len(digits)
	last := digits[long-1]
	if last != 0 && last != 127 {
		if long == lebLongest {
			return lebTooWide
		}
		return 0
	}
	if long > 1 && digits[long-2]&64 == last&64 {
		return lebPadded
	}
	return 0
}

func lebBits(digits string) uint64 {
	n := uint64(0)
	for i := range len(digits) {
		n |= uint64(digits[i]&127) << (7 * i)
	}
	return n
}
