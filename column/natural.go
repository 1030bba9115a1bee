package column

import "slices"

// Bytes of a natural: how many bits each one tells, what it has beside them if it is not the last one, and how many there may be.
const (
	bits = 7
	more = 1 << bits
	most = 6
)

// natural that tells a number.
func natural(n int) int {
	if n < 0 {
		return -2*n - 1
	}
	return 2 * n
}

// number that a natural tells.
func number(n int) int {
	if n%2 == 1 {
		return -(n + 1) / 2
	}
	return n / 2
}

// put the bytes of a natural behind others.
func put(s []byte, n int) []byte {
	for n >= more {
		s = append(s, byte(n%more+more))
		n /= more
	}
	return append(s, byte(n))
}

// cut the natural off that a text begins with: what it is, and the rest of the text.
func cut(s string) (int, string, bool) {
	first := []byte(s[:min(len(s), most)])
	last := slices.IndexFunc(first, func(b byte) bool { return b < more })
	// A last byte of 0 behind others says nothing: put leaves it out.
	if last < 0 || last > 0 && first[last] == 0 {
		return 0, "", false
	}
	n := 0
	for i, b := range first[:last+1] {
		n |= int(b%more) << (bits * i)
	}
	return n, s[last+1:], true
}
