// Package number writes numbers as bytes, the higher ones first.
package number

// Append adds a number of so many bytes to a list.
func Append(b []byte, n uint64, size int) []byte {
	for i := size - 1; i >= 0; i-- {
		b = append(b, byte(n>>(8*i)))
	}
	return b
}

// Of is the number that bytes are.
func Of(b []byte) uint64 {
	var n uint64
	for _, x := range b {
		n = n<<8 | uint64(x)
	}
	return n
}
