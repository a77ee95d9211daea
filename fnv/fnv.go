// Package fnv hashes keys and checks the sizes of keys and values.
package fnv

import "honeycomb/api"

const (
	offset uint32 = 2166136261
	prime  uint32 = 16777619

	maxBits = 31 // so that the number fits an int of 32 bits
)

// Sum returns the 32-bit FNV-1a hash of s.
func Sum(s string) uint32 {
	h := offset
	for i := range len(s) { // by bytes: a range over s itself would go by runes
		h ^= uint32(s[i])
		h *= prime
	}
	return h
}

// Bits returns the lowest depth bits of the hash of s; depth counts as 0 below 0, and as 31 above 31.
func Bits(s string, depth int) int {
	n := min(max(depth, 0), maxBits)
	return int(Sum(s) & (1<<n - 1))
}

// Key reports whether s has a key's size.
func Key(s string) bool { return 1 <= len(s) && len(s) <= api.MaxKey }

// Value reports whether s has a value's size.
func Value(s string) bool { return len(s) <= api.MaxValue }
