// Package number: numbers as bytes, the lowest first.
package number

// Bytes of a number, so many; what is too great for them is cut off.
func Bytes(n uint64, many int) string {
	s := make([]byte, many)
	for i := range s {
		s[i] = byte(n)
		n >>= 8
	}
	return string(s)
}

// Of bytes: the number.
func Of(s string) uint64 {
	var n uint64
	for i := len(s) - 1; i >= 0; i-- {
		n = n<<8 | uint64(s[i])
	}
	return n
}
