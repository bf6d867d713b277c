// Package crc is layer 1: a check of bytes, which goes together with others. See shared/doc/01-crc.md.
package crc

// A remainder has its power k at the bit 31 - k; so one is the highest bit,
// and rest, which is P without its power 32, reads backwards too.
const (
	one     uint32 = 1 << 31
	oneByte uint32 = one >> 8
	rest    uint32 = 0x82F63B78
)

// Sum tells the check of bytes.
func Sum(b []byte) uint32 {
	table := halfTable()
	// To begin with all bits set turns the 32 highest coefficients, those of a
	// short row too; bytes come in past the highest power, as if the four
	// bytes 0 already stood behind them.
	r := ^uint32(0)
	for _, c := range b {
		r ^= uint32(c)
		r = r>>4 ^ table[r&15]
		r = r>>4 ^ table[r&15]
	}
	return ^r
}

// Times tells the product of two remainders.
func Times(a, b uint32) uint32 {
	product := uint32(0)
	for ; a != 0; a <<= 1 {
		if a&one != 0 {
			product ^= b
		}
		b = raise(b)
	}
	return product
}

// Power tells the remainder that stands for so many bytes.
func Power(bytes int) uint32 {
	// Bytes are counted, not bits: eight times a great count would not fit an int.
	power, square := one, oneByte
next:
	if bytes <= 0 {
		return power
	}
	if bytes&1 == 1 {
		power = Times(power, square)
	}
	square = Times(square, square)
	bytes >>= 1
	goto next
}

// Join tells the check of two rows, one behind the other, by both checks.
func Join(a, b uint32, bytes int) uint32 {
	return Times(a, Power(bytes)) ^ b
}

// raise tells a remainder's product with the power 1.
func raise(r uint32) uint32 {
	if r&1 == 0 {
		return r >> 1
	}
	return r>>1 ^ rest
}

// halfTable tells what each half of a byte leaves, once its four powers have
// gone past the highest one.
func halfTable() [16]uint32 {
	var table [16]uint32
	fill := func(half int) {
		r := uint32(half)
		for range 4 {
			r = raise(r)
		}
		table[half] = r
	}
	for half := range len(table) {
		fill(half)
	}
	return table
}
