// Package sums holds the one sum of bytes that several layers go by (FNV-1a, of 64 bits).
package sums

// A sum begins with the first of these, and is multiplied by the second one at each byte.
const (
	begin = 14695981039346656037
	times = 1099511628211
)

// Of is the sum of bytes.
func Of(b []byte) uint64 {
	h := uint64(begin)
	for _, x := range b {
		h = (h ^ uint64(x)) * times
	}
	return h
}
