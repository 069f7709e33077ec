// Package num is layer 1: numbers within bounds. See shared/doc/01-num.md.
package num

import "watershed/api"

// The bounds of what Ceil divides, and of how many parts there may be.
const (
	maxCeil  = 1 << 40
	maxParts = 64
)

func isCount(v uint32) bool { return v <= api.MaxCount }

// Add is a sum of counts.
func Add(a, b uint32) (uint32, api.Errno) {
	if !isCount(a) || !isCount(b) {
		return 0, api.ErrRange
	}
	// Two counts are far below 2^31 each, so that the sum cannot wrap round.
	sum := a + b
	if !isCount(sum) {
		return 0, api.ErrOver
	}
	return sum, api.OK
}

// Sub is what is left of a count.
func Sub(a, b uint32) (uint32, api.Errno) {
	if !isCount(a) || !isCount(b) {
		return 0, api.ErrRange
	}
	if b > a {
		return 0, api.ErrOver
	}
	return a - b, api.OK
}

// Ceil is a number divided by another one, upwards.
func Ceil(n, d int) (int, api.Errno) {
	if n < 0 || n > maxCeil || d < 1 || d > maxCeil {
		return 0, api.ErrRange
	}
	return (n + d - 1) / d, api.OK
}

// Mix is a key's number.
func Mix(key int64) uint32 {
	x := uint64(key)
	x ^= x >> 32
	x *= 0x9E3779B97F4A7C15
	x ^= x >> 29
	x *= 0xBF58476D1CE4E5B9
	// The upper bits depend on all bits of the key, the lower ones on few.
	return uint32(x >> 32)
}

// Part is which of several a key goes to.
func Part(key int64, n int) (int, api.Errno) {
	if n < 1 || n > maxParts {
		return 0, api.ErrRange
	}
	return int(Mix(key) % uint32(n)), api.OK
}

// Floor is a value divided by another one, downwards, and the rest.
func Floor(v, d int64) (int64, int64, api.Errno) {
	if d < 1 {
		return 0, 0, api.ErrRange
	}
	q, r := v/d, v%d
	// Go rounds towards 0, which is upwards for a value below it.
	if r < 0 {
		q--
		r += d
	}
	return q, r, api.OK
}
