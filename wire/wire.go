// Package wire writes numbers as bytes: see doc/01-wire.md.
package wire

import "deduce/api"

const (
	groupBits  = 7
	groupMask  = 1<<groupBits - 1
	moreBit    = 1 << groupBits
	numberBits = 63 // of a number that is not below 0
)

// Varint writes a number (A1).
func Varint(n int) (string, api.Errno) {
	if n < 0 {
		return "", api.ErrRange
	}
	var out []byte
	for n > groupMask {
		out = append(out, byte(n)|moreBit)
		n >>= groupBits
	}
	return string(append(out, byte(n))), api.OK
}

// Unvarint reads one (A1).
func Unvarint(data string, at int) (int, int, api.Errno) {
	if at < 0 || at > len(data) {
		return 0, 0, api.ErrRange
	}
	n, shift := 0, 0
	for i := at; i < len(data) && shift < numberBits; i++ {
		b := data[i]
		n |= int(b&groupMask) << shift
		if b < moreBit {
			if b == 0 && i > at {
				// Varint writes as few bytes as can be, so it ends with no group that is 0.
				break
			}
			return n, i + 1, api.OK
		}
		shift += groupBits
	}
	return 0, 0, api.ErrData
}

// Fold makes a number of one with a sign (A2).
func Fold(n int) int {
	double := n << 1
	// Doubling wraps round just where n is out of bounds: halving does not give it back there.
	if double>>1 != n {
		return 0
	}
	if n < 0 {
		// ^x is -x less 1.
		return ^double
	}
	return double
}

// Unfold takes that back (A2).
func Unfold(n int) int {
	if n < 0 {
		return 0
	}
	half := n >> 1
	if n&1 == 1 {
		return ^half
	}
	return half
}
