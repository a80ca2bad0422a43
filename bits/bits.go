// Package bits: numbers by their bits.
package bits

// spread is odd, so that a product with it can be undone modulo 2^64: Mix keeps unlike numbers unlike by that.
const spread uint64 = 0x9e3779b97f4a7c15

// Turn turns a number's bits about by n places towards the higher ones.
func Turn(v uint64, n int) uint64 {
	// The lowest six bits are n modulo 64 for an n below 0 too, where the remainder would be below 0.
	k := uint(n) & 63
	return v<<k | v>>(64-k)
}

// Mix mixes a number into another one.
func Mix(h, v uint64) uint64 {
	x := (h ^ v) * spread
	x ^= x >> 29
	return Turn(x, 31)
}

// Low is a number's lower half.
func Low(v uint64) uint32 { return uint32(v) }

// High is a number's higher half.
func High(v uint64) uint32 { return uint32(v >> 32) }

// Join is a number of two halves.
func Join(high, low uint32) uint64 { return uint64(high)<<32 | uint64(low) }

// Signed is the lowest n bits as a number with a sign.
func Signed(v uint64, n int) int64 {
	// At the top the highest of these bits is the sign, which the shift back fills in with.
	k := uint(64 - cut(n))
	return int64(v<<k) >> k
}

// cut is a count of bits that a number has.
func cut(n int) int {
	if n < 1 {
		return 1
	}
	if n > 64 {
		return 64
	}
	return n
}

// Bytes are a number's bytes, the lowest first.
func Bytes(v uint64) [8]byte {
	var b [8]byte
	for i := range 8 {
		b[i] = byte(v >> (8 * uint(i)))
	}
	return b
}

// Of is the number of bytes, the lowest first.
func Of(b [8]byte) uint64 {
	v := uint64(0)
	for i := range 8 {
		v |= uint64(b[i]) << (8 * uint(i))
	}
	return v
}
