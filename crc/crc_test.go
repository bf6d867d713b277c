package crc_test

import (
	"bytes"
	"hash/crc32"
	"math"
	"math/big"
	"math/bits"
	"math/rand/v2"
	"testing"

	"treadwheel/crc"
)

const one = 0x80000000

// The document's words, one by one, on polynomials of any length: the power k
// is the bit k of a big number.

func polynomialP() *big.Int {
	p := new(big.Int)
	for _, k := range []int{32, 28, 27, 26, 25, 23, 22, 20, 19, 18, 14, 13, 11, 10, 9, 8, 6, 0} {
		p.SetBit(p, k, 1)
	}
	return p
}

func remainder(f *big.Int) *big.Int {
	r := new(big.Int).Set(f)
	p := polynomialP()
	for r.BitLen() > 32 {
		r.Xor(r, new(big.Int).Lsh(p, uint(r.BitLen()-33)))
	}
	return r
}

func number(r *big.Int) uint32 { return bits.Reverse32(uint32(r.Uint64())) }

func polynomial(n uint32) *big.Int {
	return new(big.Int).SetUint64(uint64(bits.Reverse32(n)))
}

func polynomialOfBytes(b []byte) *big.Int {
	f := new(big.Int)
	highest := 8*len(b) - 1
	for i := range 8 * len(b) {
		f.SetBit(f, highest-i, uint(b[i/8]>>(i%8)&1))
	}
	return f
}

func product(a, b *big.Int) *big.Int {
	f := new(big.Int)
	for k := range a.BitLen() {
		if a.Bit(k) == 1 {
			f.Xor(f, new(big.Int).Lsh(b, uint(k)))
		}
	}
	return f
}

func plainSum(b []byte) uint32 {
	f := polynomialOfBytes(append(bytes.Clone(b), 0, 0, 0, 0))
	highest := 8*(len(b)+4) - 1
	for i := range 32 {
		f.SetBit(f, highest-i, 1-f.Bit(highest-i))
	}
	return ^number(remainder(f))
}

func plainTimes(a, b uint32) uint32 {
	return number(remainder(product(polynomial(a), polynomial(b))))
}

func plainPower(count int) uint32 {
	return number(remainder(new(big.Int).Lsh(big.NewInt(1), uint(8*count))))
}

// plainPowerBySquares goes by the bits of eight times the count, of which no
// int is great enough.
func plainPowerBySquares(count int) uint32 {
	power := new(big.Int).Mul(big.NewInt(8), big.NewInt(int64(count)))
	f := big.NewInt(1)
	for k := power.BitLen() - 1; k >= 0; k-- {
		f = product(f, f)
		if power.Bit(k) == 1 {
			f.Lsh(f, 1)
		}
		f = remainder(f)
	}
	return number(f)
}

func source() *rand.Rand { return rand.New(rand.NewPCG(32, 3720)) }

func row(r *rand.Rand, n int) []byte {
	b := make([]byte, n)
	for i := range b {
		b[i] = byte(r.Uint32())
	}
	return b
}

// remainders are the edges, each power alone, and some others.
func remainders() []uint32 {
	l := []uint32{0, math.MaxUint32, math.MaxUint32 - 1, one - 1, one + 1, 0x12345678, 0x82F63B78, 0xAAAAAAAA, 0x55555555}
	for k := range 32 {
		l = append(l, 1<<k)
	}
	r := source()
	for range 20 {
		l = append(l, r.Uint32())
	}
	return l
}

func same(t *testing.T, what string, got, want uint32) {
	t.Helper()
	if got != want {
		t.Errorf("%s: %08X, not %08X", what, got, want)
	}
}

func TestSumExamples(t *testing.T) {
	same(t, "123456789", crc.Sum([]byte("123456789")), 0xE3069283)
	same(t, "nothing", crc.Sum([]byte{}), 0)
	same(t, "32 bytes 0", crc.Sum(make([]byte, 32)), 0x8A9136AA)
	same(t, "32 bytes ff", crc.Sum(bytes.Repeat([]byte{0xFF}, 32)), 0x62A8AB43)
}

func TestSumOfNil(t *testing.T) {
	same(t, "nil", crc.Sum(nil), 0)
	same(t, "an empty piece", crc.Sum([]byte("123456789")[4:4]), 0)
}

func TestSumOfEachByte(t *testing.T) {
	seen := map[uint32]int{}
	for c := range 256 {
		n := crc.Sum([]byte{byte(c)})
		same(t, "a single byte", n, plainSum([]byte{byte(c)}))
		if d, ok := seen[n]; ok {
			t.Errorf("bytes %d and %d have one Sum", d, c)
		}
		seen[n] = c
	}
}

func TestSumOfRows(t *testing.T) {
	r := source()
	for n := range 70 {
		b := row(r, n)
		same(t, "a row", crc.Sum(b), plainSum(b))
		same(t, "bytes 0", crc.Sum(make([]byte, n)), plainSum(make([]byte, n)))
	}
}

func TestSumOfLongRows(t *testing.T) {
	r := source()
	for _, n := range []int{255, 256, 257, 4095, 4096, 65537, 1 << 20} {
		b := row(r, n)
		same(t, "a long row", crc.Sum(b), crc32.Checksum(b, crc32.MakeTable(crc32.Castagnoli)))
	}
}

func TestSumOnlyReads(t *testing.T) {
	all := row(source(), 64)
	was := bytes.Clone(all)
	for n := range len(all) {
		b := all[n/2 : n]
		first := crc.Sum(b)
		same(t, "the same row again", crc.Sum(b), first)
		if !bytes.Equal(all, was) {
			t.Fatalf("%d bytes: what was handed in, or what lies around it, is not as it was", n)
		}
	}
}

func TestSumKeepsNothing(t *testing.T) {
	b := []byte("123456789")
	crc.Sum(b)
	b[0] = 'x'
	same(t, "a row that was changed", crc.Sum(b), plainSum(b))
	same(t, "the row as it was", crc.Sum([]byte("123456789")), 0xE3069283)
}

func TestTimesExamples(t *testing.T) {
	same(t, "1 and another", crc.Times(one, 0x12345678), 0x12345678)
	same(t, "powers 1 and 31", crc.Times(one>>1, 1), 0x82F63B78)
	same(t, "powers 16 and 15", crc.Times(one>>16, one>>15), 1)
	same(t, "all bits and the power 1", crc.Times(math.MaxUint32, one>>1), plainTimes(math.MaxUint32, one>>1))
}

func TestTimesOfEdges(t *testing.T) {
	for _, a := range remainders() {
		same(t, "0 ahead", crc.Times(0, a), 0)
		same(t, "0 behind", crc.Times(a, 0), 0)
		same(t, "1 ahead", crc.Times(one, a), a)
		same(t, "1 behind", crc.Times(a, one), a)
	}
	same(t, "all bits, twice", crc.Times(math.MaxUint32, math.MaxUint32), plainTimes(math.MaxUint32, math.MaxUint32))
}

func TestTimesIsTheRemainder(t *testing.T) {
	for _, a := range remainders() {
		for _, b := range remainders() {
			same(t, "a product", crc.Times(a, b), plainTimes(a, b))
		}
	}
}

func TestTimesGoesTogether(t *testing.T) {
	l := remainders()
	for _, a := range l {
		for _, b := range l {
			same(t, "in either order", crc.Times(a, b), crc.Times(b, a))
			for _, c := range l {
				same(t, "in groups", crc.Times(crc.Times(a, b), c), crc.Times(a, crc.Times(b, c)))
				same(t, "by sums", crc.Times(a, b^c), crc.Times(a, b)^crc.Times(a, c))
				same(t, "by sums ahead", crc.Times(a^b, c), crc.Times(a, c)^crc.Times(b, c))
			}
		}
	}
}

func TestPowerExamples(t *testing.T) {
	same(t, "0", crc.Power(0), one)
	same(t, "1", crc.Power(1), 0x00800000)
	same(t, "2", crc.Power(2), 0x00008000)
	same(t, "3", crc.Power(3), 0x00000080)
	same(t, "4", crc.Power(4), 0x82F63B78)
}

func TestPowerBelowNought(t *testing.T) {
	for _, n := range []int{-1, -2, -3, -8, -256, math.MinInt32, -math.MaxInt, math.MinInt} {
		same(t, "below 0", crc.Power(n), one)
	}
}

func TestPowerOfCounts(t *testing.T) {
	for n := range 300 {
		same(t, "a count", crc.Power(n), plainPower(n))
	}
	for _, n := range []int{1023, 1024, 1025, 4096} {
		same(t, "a greater count", crc.Power(n), plainPower(n))
	}
}

func TestPowerOfHugeCounts(t *testing.T) {
	for k := range bits.UintSize - 1 {
		n := 1 << k
		same(t, "a power of 2", crc.Power(n), plainPowerBySquares(n))
		same(t, "one less", crc.Power(n-1), plainPowerBySquares(n-1))
	}
	same(t, "the greatest int", crc.Power(math.MaxInt), plainPowerBySquares(math.MaxInt))
	same(t, "the last but one", crc.Power(math.MaxInt-1), plainPowerBySquares(math.MaxInt-1))
	// The powers come round after 2^31 - 1.
	same(t, "all the way round", crc.Power(math.MaxInt32), one)
}

func TestPowerOfSums(t *testing.T) {
	counts := []int{0, 1, 2, 3, 7, 8, 255, 256, 4096, 1000003, math.MaxInt / 2}
	for _, a := range counts {
		for _, b := range counts {
			same(t, "of a sum", crc.Power(a+b), crc.Times(crc.Power(a), crc.Power(b)))
		}
	}
	same(t, "the greatest int", crc.Power(math.MaxInt), crc.Times(crc.Power(math.MaxInt-5), crc.Power(5)))
}

func TestJoinIsTimesAndOr(t *testing.T) {
	for _, a := range remainders() {
		for _, n := range []int{0, 1, 4, 5, 1 << 20, math.MaxInt} {
			b := bits.RotateLeft32(a, n%32) + 77
			same(t, "a Join", crc.Join(a, b, n), plainTimes(a, plainPowerBySquares(n))^b)
		}
	}
}

func TestJoinBelowNought(t *testing.T) {
	for _, a := range remainders() {
		for _, n := range []int{-1, -4, math.MinInt32, math.MinInt, 0} {
			same(t, "bytes below 0", crc.Join(a, 0x12345678, n), a^0x12345678)
		}
	}
}

func TestJoinOfTwoRows(t *testing.T) {
	whole := row(source(), 41)
	for cut := range len(whole) + 1 {
		a, b := whole[:cut], whole[cut:]
		same(t, "two rows", crc.Join(crc.Sum(a), crc.Sum(b), len(b)), crc.Sum(whole))
	}
	text := []byte("123456789")
	same(t, "an empty row behind", crc.Join(crc.Sum(text), crc.Sum(nil), 0), 0xE3069283)
	same(t, "an empty row ahead", crc.Join(crc.Sum(nil), crc.Sum(text), len(text)), 0xE3069283)
	same(t, "two empty rows", crc.Join(crc.Sum(nil), crc.Sum(nil), 0), 0)
}

func TestJoinOfThreeRows(t *testing.T) {
	r := source()
	for range 300 {
		whole := row(r, r.IntN(60))
		i := r.IntN(len(whole) + 1)
		j := i + r.IntN(len(whole)-i+1)
		a, b, c := crc.Sum(whole[:i]), crc.Sum(whole[i:j]), crc.Sum(whole[j:])
		first := crc.Join(crc.Join(a, b, j-i), c, len(whole)-j)
		last := crc.Join(a, crc.Join(b, c, len(whole)-j), len(whole)-i)
		same(t, "the first two joined first", first, crc.Sum(whole))
		same(t, "the last two joined first", last, crc.Sum(whole))
	}
}

func TestEvenDifferences(t *testing.T) {
	r := source()
	odd := 0
	for k := range 400 {
		a := row(r, r.IntN(40))
		b := row(r, len(a))
		if k%2 == 0 { // few bits apart
			b = bytes.Clone(a)
			for range r.IntN(4) * min(1, len(a)) {
				b[r.IntN(len(b))] ^= 1 << r.IntN(8)
			}
		}
		apart := 0
		for i := range a {
			apart += bits.OnesCount8(a[i] ^ b[i])
		}
		odd += apart % 2
		sums := bits.OnesCount32(crc.Sum(a) ^ crc.Sum(b))
		if sums%2 != apart%2 {
			t.Errorf("%x and %x: the rows differ in %d bits, the Sums in %d", a, b, apart, sums)
		}
	}
	if odd < 100 || odd > 300 {
		t.Errorf("%d of 400 pairs are apart in an odd number of bits", odd)
	}
}

func TestEachBitIsTold(t *testing.T) {
	b := row(source(), 32)
	sum := crc.Sum(b)
	for i := range 8 * len(b) {
		c := bytes.Clone(b)
		c[i/8] ^= 1 << (i % 8)
		if n := bits.OnesCount32(crc.Sum(c) ^ sum); n%2 != 1 {
			t.Errorf("bit %d turned: %d bits of the Sum", i, n)
		}
	}
}
