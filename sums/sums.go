// Package sums is layer 1: a sum of bytes, and bytes with their sum behind.
package sums

const (
	start   = 0xFFFFFFFF // the remainder of no bytes
	divisor = 0xEDB88320
	width   = 4 // bytes of a sum
)

// Sum is the sum of b.
func Sum(b []byte) uint32 {
	return ^divide(start, b)
}

// Join is the sum of the bytes whose sum is given, with b behind them.
func Join(sum uint32, b []byte) uint32 {
	return ^divide(^sum, b)
}

// Seal is b with its sum behind, in new memory.
func Seal(b []byte) []byte {
	tail := lowestFirst(Sum(b))
	// Without room behind the seam append must take new memory, so that what is behind b stays as it is.
	return append(b[:len(b):len(b)], tail[:]...)
}

// Open is the bytes that were sealed, in new memory, and whether b is sealed.
func Open(b []byte) ([]byte, bool) {
	seam := len(b) - width
	if seam < 0 {
		return nil, false
	}
	if [width]byte(b[seam:]) != lowestFirst(Sum(b[:seam])) {
		return nil, false
	}
	return append([]byte{}, b[:seam]...), true
}

// lowestFirst is a sum's bytes as they stand behind sealed ones.
func lowestFirst(sum uint32) [width]byte {
	return [width]byte{byte(sum), byte(sum >> 8), byte(sum >> 16), byte(sum >> 24)}
}

// divide takes the remainder over all bytes of b, by half bytes.
func divide[Bytes ~string | ~[]byte](rest uint32, b Bytes) uint32 {
	table := halves()
	for i := range len(b) {
		rest ^= uint32(b[i])
		rest = rest>>4 ^ table[rest&15]
		rest = rest>>4 ^ table[rest&15]
	}
	return rest
}

// halves makes the table of half bytes' sums. Each call makes its own: what is worked out may not stand at package level.
func halves() [16]uint32 {
	var table [16]uint32
	fill := func(half int) {
		rest := uint32(half)
		for range 4 {
			rest = shift(rest)
		}
		table[half] = rest
	}
	for half := range len(table) {
		fill(half)
	}
	return table
}

// shift takes the remainder over one bit.
func shift(rest uint32) uint32 {
	if rest&1 != 0 {
		return rest>>1 ^ divisor
	}
	return rest >> 1
}
