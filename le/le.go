// Package le is layer 1, little-endian numbers: see shared/doc/01-le.md.
package le

import "cadenza/api"

// maxWidth is the most bytes that a number has.
const maxWidth = 8

// Bytes returns the bytes of a number with a width, the lowest one first.
func Bytes(n uint64, w int) ([]byte, api.Errno) {
	if !isWidth(w) {
		return nil, api.ErrArg
	}
	if !fits(n, w) {
		return nil, api.ErrRange
	}
	b := make([]byte, w)
	for i := range b {
		b[i] = byte(n >> (8 * i))
	}
	return b, api.OK
}

// Value returns the number of some bytes.
func Value(b []byte) (uint64, api.Errno) {
	if !isWidth(len(b)) {
		return 0, api.ErrArg
	}
	return join(b), api.OK
}

// At returns the number of w bytes from an index on.
func At(b []byte, at, w int) (uint64, api.Errno) {
	if !isWidth(w) || at < 0 {
		return 0, api.ErrArg
	}
	// The sum of at and w may overflow; this difference cannot.
	if at > len(b)-w {
		return 0, api.ErrShort
	}
	return join(b[at : at+w]), api.OK
}

// Signed returns the signed number that has n as its two's complement.
func Signed(n uint64, w int) (int64, api.Errno) {
	if !isWidth(w) {
		return 0, api.ErrArg
	}
	if !fits(n, w) {
		return 0, api.ErrRange
	}
	return extend(n, w), api.OK
}

// Unsigned returns the two's complement of a signed number.
func Unsigned(x int64, w int) (uint64, api.Errno) {
	if !isWidth(w) {
		return 0, api.ErrArg
	}
	n := uint64(x) & greatest(w)
	// Only a number that fits is found again from its lowest bytes.
	if extend(n, w) != x {
		return 0, api.ErrRange
	}
	return n, api.OK
}

func isWidth(w int) bool { return w >= 1 && w <= maxWidth }

// greatest returns the greatest number that fits a width.
func greatest(w int) uint64 { return ^uint64(0) >> (8 * (maxWidth - w)) }

func fits(n uint64, w int) bool { return n <= greatest(w) }

// join returns the number of at most maxWidth bytes.
func join(b []byte) uint64 {
	n := uint64(0)
	for i, c := range b {
		n |= uint64(c) << (8 * i)
	}
	return n
}

// extend repeats the highest bit of the w lowest bytes of n in all bits above them.
func extend(n uint64, w int) int64 {
	free := 8 * (maxWidth - w)
	return int64(n<<free) >> free
}
