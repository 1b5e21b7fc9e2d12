// Package field reckons with bytes as numbers of the field of 256.
package field

// reduction is what x^8 comes to: the field's polynomial without its highest power.
const reduction = 1<<4 | 1<<3 | 1<<2 | 1

// Mul multiplies two numbers.
func Mul(a, b byte) byte {
	var product byte
	for b != 0 {
		if b&1 != 0 {
			product ^= a
		}
		a = timesX(a)
		b >>= 1
	}
	return product
}

// timesX multiplies a number by the polynomial x.
func timesX(a byte) byte {
	if a&0x80 != 0 {
		return a<<1 ^ reduction
	}
	return a << 1
}

// Inv tells the number whose product with a is 1, and 0 of 0.
// The 255 numbers that are not 0 are a group, so that a to the power of 254 is it: 254 is 2 + 4 + .. + 128.
func Inv(a byte) byte {
	inverse, power := byte(1), a
	for range 7 {
		power = Mul(power, power)
		inverse = Mul(inverse, power)
	}
	return inverse
}

// Table has the products of one number with the lower and with the higher half of a byte.
// Products are linear over bits, so that two short tables do for all 256 bytes, and are quickly made even for a short shard.
type Table struct{ low, high [16]byte }

// TableOf makes the table of a number.
func TableOf(c byte) Table { return Table{low: multiples(c), high: multiples(Mul(c, 1<<4))} }

// multiples has the products of c with the 16 numbers that are less than x^4: those with a power of x, and sums of them.
func multiples(c byte) [16]byte {
	var l [16]byte
	for power := 1; power < len(l); power *= 2 {
		for i := range power {
			l[power+i] = l[i] ^ c
		}
		c = timesX(c)
	}
	return l
}

// Times multiplies the table's number by another.
func (t *Table) Times(b byte) byte { return t.low[b&15] ^ t.high[b>>4] }

// AddTimes adds c times each byte of from to the byte of to at the same place, as far as both lists go.
func AddTimes(to, from []byte, c byte) {
	if c == 0 {
		return
	}
	t := TableOf(c)
	for i := range min(len(to), len(from)) {
		to[i] ^= t.Times(from[i])
	}
}
