package record

// halves has what a half of a byte leaves of itself, when the polynomial of the sum is divided out.
var halves = [16]uint32{
	0x00000000, 0x1db71064, 0x3b6e20c8, 0x26d930ac, 0x76dc4190, 0x6b6b51f4, 0x4db26158, 0x5005713c,
	0xedb88320, 0xf00f9344, 0xd6d6a3e8, 0xcb61b38c, 0x9b64c2b0, 0x86d3d2d4, 0xa00ae278, 0xbdbdf21c,
}

// sum is the CRC-32 of bytes: of a block, it is another one whenever up to four bits are turned.
func sum(bytes []byte) uint32 {
	rest := ^uint32(0)
	for _, b := range bytes {
		rest ^= uint32(b)
		rest = rest>>4 ^ halves[rest&15]
		rest = rest>>4 ^ halves[rest&15]
	}
	return ^rest
}
