package fixed_test

import (
	"math"
	"math/big"
	"math/rand/v2"
	"strings"
	"testing"

	"treadwheel/api"
	"treadwheel/fixed"
)

const (
	one      int64 = 4294967296
	inf      int64 = 4611686018427387904
	greatest int64 = math.MaxInt64
	least    int64 = math.MinInt64
)

// edges are numbers at which something turns, some below 0 and some above Inf
// among them.
var edges = []int64{
	least, least + 1, -inf - 1, -inf, -inf + 1, -one - 1, -one, -one + 1, -10, -2, -1,
	0, 1, 2, 3, 7, 9, 10, 1 << 16, 1<<31 - 1, 1 << 31, 1<<31 + 1, one - 1, one, one + 1, 2*one - 1, 2 * one,
	1<<47 - 1, 1 << 47, 1<<47 + 1, inf/2 - 1, inf / 2, inf/2 + 1, inf - one, inf - 2, inf - 1,
	inf, inf + 1, inf + 2, inf + one, greatest - 1, greatest,
}

func bigOf(n int64) *big.Int { return big.NewInt(n) }

// plainMul takes the document's words on big numbers.
func plainMul(a, b int64) (int64, api.Errno) {
	if a < 0 || b < 0 {
		return 0, api.ErrArg
	}
	product := new(big.Int).Mul(bigOf(a), bigOf(b))
	product.Rsh(product, 32)
	if product.Cmp(bigOf(inf)) > 0 {
		return 0, api.ErrOver
	}
	return product.Int64(), api.OK
}

// plainDistance tells the distance as which a number counts.
func plainDistance(a int64) *big.Int {
	switch {
	case a < 0:
		return bigOf(0)
	case a > inf:
		return bigOf(inf)
	}
	return bigOf(a)
}

// plainAdd takes the document's words on big numbers.
func plainAdd(a, b int64) int64 {
	sum := new(big.Int).Add(plainDistance(a), plainDistance(b))
	if sum.Cmp(bigOf(inf)) > 0 {
		return inf
	}
	return sum.Int64()
}

// plainApart takes the document's words on big numbers.
func plainApart(a, b int64) int64 {
	apart := new(big.Int).Sub(plainDistance(a), plainDistance(b))
	return apart.Abs(apart).Int64()
}

// plainText works the digits out one by one, the first one first.
func plainText(a int64) string {
	if a < 0 {
		return ""
	}
	var b strings.Builder
	whole, rest := new(big.Int).DivMod(bigOf(a), bigOf(one), new(big.Int))
	b.WriteString(whole.String() + ".")
	for range 9 {
		rest.Mul(rest, bigOf(10))
		digit := new(big.Int)
		digit.DivMod(rest, bigOf(one), rest)
		b.WriteString(digit.String())
	}
	return b.String()
}

// someNumber is an edge, a number not far from one, or one of any length.
func someNumber(rnd *rand.Rand) int64 {
	n := edges[rnd.IntN(len(edges))]
	switch rnd.IntN(4) {
	case 0:
		n += rnd.Int64N(2001) - 1000
	case 1, 2:
		n = int64(rnd.Uint64() >> (1 + rnd.IntN(63)))
	}
	return n
}

func mustMul(t *testing.T, a, b, want int64, wantErrno api.Errno) {
	t.Helper()
	if got, errno := fixed.Mul(a, b); got != want || errno != wantErrno {
		t.Errorf("Mul(%d, %d): %d, %d, not %d, %d", a, b, got, errno, want, wantErrno)
	}
}

// mustMulEither asks either way round.
func mustMulEither(t *testing.T, a, b, want int64, wantErrno api.Errno) {
	t.Helper()
	mustMul(t, a, b, want, wantErrno)
	mustMul(t, b, a, want, wantErrno)
}

func mustShare(t *testing.T, a, n, want int64, wantErrno api.Errno) {
	t.Helper()
	if got, errno := fixed.Share(a, n); got != want || errno != wantErrno {
		t.Errorf("Share(%d, %d): %d, %d, not %d, %d", a, n, got, errno, want, wantErrno)
	}
}

// mustAdd asks either way round.
func mustAdd(t *testing.T, a, b, want int64) {
	t.Helper()
	if got := fixed.Add(a, b); got != want {
		t.Errorf("Add(%d, %d): %d, not %d", a, b, got, want)
	}
	if got := fixed.Add(b, a); got != want {
		t.Errorf("Add(%d, %d): %d, not %d", b, a, got, want)
	}
}

// mustBeApart asks either way round.
func mustBeApart(t *testing.T, a, b, want int64) {
	t.Helper()
	if got := fixed.Apart(a, b); got != want {
		t.Errorf("Apart(%d, %d): %d, not %d", a, b, got, want)
	}
	if got := fixed.Apart(b, a); got != want {
		t.Errorf("Apart(%d, %d): %d, not %d", b, a, got, want)
	}
}

func mustBeText(t *testing.T, a int64, want string) {
	t.Helper()
	if got := fixed.Text(a); got != want {
		t.Errorf("Text(%d): %q, not %q", a, got, want)
	}
}

func TestOneAndInfAreThoseOfApi(t *testing.T) {
	if api.One != one || api.Inf != inf {
		t.Errorf("One is %d, Inf %d", int64(api.One), int64(api.Inf))
	}
}

// P5.1

func TestMulOfTheExamples(t *testing.T) {
	mustMul(t, one/2, 3, 1, api.OK)
	mustMul(t, inf, one+1, 0, api.ErrOver)
	mustMul(t, -1, 1, 0, api.ErrArg)
}

func TestMulByNought(t *testing.T) {
	for _, b := range edges {
		if b >= 0 {
			mustMulEither(t, 0, b, 0, api.OK)
		}
	}
}

func TestMulByOne(t *testing.T) {
	for _, b := range []int64{0, 1, 2, one - 1, one, one + 1, inf - 1, inf} {
		mustMulEither(t, one, b, b, api.OK)
	}
	mustMulEither(t, one, inf+1, 0, api.ErrOver)
	mustMulEither(t, one, greatest, 0, api.ErrOver)
}

func TestMulCutsOff(t *testing.T) {
	mustMulEither(t, 1, 1, 0, api.OK)
	mustMulEither(t, 1, one-1, 0, api.OK)
	mustMulEither(t, 2, one/2-1, 0, api.OK)
	mustMulEither(t, 2, one/2, 1, api.OK)
	mustMulEither(t, one-1, one-1, one-2, api.OK)
	mustMulEither(t, one+1, one+1, one+2, api.OK)
	mustMulEither(t, one/2, one/2, one/4, api.OK)
	mustMulEither(t, 3*one+one/2, 2*one, 7*one, api.OK)
}

func TestMulWhoseProductIsInfJustSo(t *testing.T) {
	for k := 32; k <= 62; k++ {
		mustMulEither(t, 1<<k, 1<<(94-k), inf, api.OK)
	}
}

func TestMulWhoseProductIsInfAndARest(t *testing.T) {
	// 2^94 and 1, and 2^94 and 2^32 less 2 behind it.
	mustMulEither(t, 140737471578113, 5*3761*7484047069, inf, api.OK)
	mustMulEither(t, 88792149463, 223071980443718706, inf, api.OK)
	mustMulEither(t, one-1, inf+1<<30+1, inf, api.OK)
}

func TestMulWhoseProductIsJustBelowInf(t *testing.T) {
	mustMulEither(t, 1<<47-1, 1<<47+1, inf-1, api.OK) // 2^94 less 1
	mustMulEither(t, one, inf-1, inf-1, api.OK)
	mustMulEither(t, one-1, inf+1<<30, inf-1, api.OK)
}

func TestMulWhoseProductIsNextAboveInf(t *testing.T) {
	mustMulEither(t, one, inf+1, 0, api.ErrOver)
	// 2^62 and 1 are the product of 2^31 + 1 less 2^16, and of 2^31 + 1 and 2^16.
	mustMulEither(t, (1<<31+1-1<<16)<<16, (1<<31+1+1<<16)<<16, 0, api.ErrOver)
	mustMulEither(t, one-1, inf+1<<30+2, 0, api.ErrOver)
}

func TestMulOfProductsLongerThan64Bits(t *testing.T) {
	mustMulEither(t, one, one, one, api.OK)
	mustMulEither(t, one, 1<<33, 1<<33, api.OK)
	mustMulEither(t, 1<<33, 1<<33, 1<<34, api.OK)
	mustMulEither(t, 1<<40+1, 1<<40+1, 1<<48+1<<9, api.OK)
	mustMulEither(t, greatest, 1, 1<<31-1, api.OK)
	mustMulEither(t, greatest, 2, one-1, api.OK)
	mustMulEither(t, greatest, one/2, inf-1, api.OK)
	mustMulEither(t, inf, one-1, inf-1<<30, api.OK)
	mustMulEither(t, inf+1, one-1, inf-1<<30, api.OK)
	mustMulEither(t, 12345*one, 1000*one, 12345000*one, api.OK)
}

func TestMulOfTheGreatest(t *testing.T) {
	mustMul(t, greatest, greatest, 0, api.ErrOver)
	mustMulEither(t, greatest, inf, 0, api.ErrOver)
	mustMul(t, inf, inf, 0, api.ErrOver)
	// Products by 2^32 whose lowest 64 bits alone are not above Inf.
	mustMul(t, 1<<48, 1<<48, 0, api.ErrOver)
	mustMulEither(t, 1<<48, 1<<48+1, 0, api.ErrOver)
	mustMulEither(t, 1<<62, 1<<34, 0, api.ErrOver)
	mustMulEither(t, 1<<62, 1<<35, 0, api.ErrOver)
	mustMulEither(t, 1<<60+1<<20, 1<<60, 0, api.ErrOver)
	// Products by 2^32 of 2^63 less 1, of 2^63, and of 2^64 less 2.
	mustMulEither(t, greatest, one, 0, api.ErrOver)
	mustMulEither(t, 1<<62, 1<<33, 0, api.ErrOver)
	mustMulEither(t, greatest, 1<<33, 0, api.ErrOver)
}

func TestMulBelowNought(t *testing.T) {
	for _, a := range edges {
		for _, b := range edges {
			if a < 0 || b < 0 {
				mustMul(t, a, b, 0, api.ErrArg)
			}
		}
	}
	mustMulEither(t, least, 0, 0, api.ErrArg)
	mustMulEither(t, least, one, 0, api.ErrArg)
	mustMul(t, least, least, 0, api.ErrArg)
}

func TestMulBelowNoughtIsToldAheadOfTooGreat(t *testing.T) {
	mustMulEither(t, -1, greatest, 0, api.ErrArg)
	mustMulEither(t, -one, inf+1, 0, api.ErrArg)
	mustMulEither(t, least, greatest, 0, api.ErrArg)
	mustMul(t, -inf, -inf, 0, api.ErrArg)
}

func TestMulOfAllEdges(t *testing.T) {
	for _, a := range edges {
		for _, b := range edges {
			want, wantErrno := plainMul(a, b)
			mustMul(t, a, b, want, wantErrno)
		}
	}
}

func TestMulOfRandomNumbers(t *testing.T) {
	rnd := rand.New(rand.NewPCG(5, 1))
	seen := map[api.Errno]int{}
	for range 200000 {
		a, b := someNumber(rnd), someNumber(rnd)
		want, wantErrno := plainMul(a, b)
		mustMul(t, a, b, want, wantErrno)
		seen[wantErrno]++
	}
	for _, errno := range []api.Errno{api.OK, api.ErrArg, api.ErrOver} {
		if seen[errno] < 10000 {
			t.Errorf("only %d pairs of error %d", seen[errno], errno)
		}
	}
}

func TestMulOfRandomNumbersAboutInf(t *testing.T) {
	rnd := rand.New(rand.NewPCG(5, 2))
	seen := map[api.Errno]int{}
	for range 50000 {
		// Factors from above 2^31 on have another one below 2^63.
		a := int64(rnd.Uint64()>>(1+rnd.IntN(31))) | 1<<32
		quotient := new(big.Int).Div(new(big.Int).Lsh(big.NewInt(1), 94), bigOf(a)).Int64()
		for _, b := range []int64{quotient - 1, quotient, quotient + 1, quotient + 2} {
			want, wantErrno := plainMul(a, b)
			mustMulEither(t, a, b, want, wantErrno)
			seen[wantErrno]++
		}
	}
	if seen[api.OK] < 10000 || seen[api.ErrOver] < 10000 {
		t.Errorf("too few of a kind: %v", seen)
	}
}

// P5.2

func TestShareOfTheExample(t *testing.T) {
	mustShare(t, 7, 2, 3, api.OK)
}

func TestShareOfNought(t *testing.T) {
	for _, n := range edges {
		if n > 0 {
			mustShare(t, 0, n, 0, api.OK)
		}
	}
}

func TestShareOfLessThanThereAre(t *testing.T) {
	mustShare(t, 1, 2, 0, api.OK)
	mustShare(t, 6, 7, 0, api.OK)
	mustShare(t, one-1, one, 0, api.OK)
	mustShare(t, inf, inf+1, 0, api.OK)
	mustShare(t, greatest-1, greatest, 0, api.OK)
}

func TestShareOfMultiples(t *testing.T) {
	for _, n := range []int64{1, 2, 3, 7, 512, one - 1, one, 1<<55 - 1} {
		for _, times := range []int64{1, 2, 5, 100} {
			if n > 1 {
				mustShare(t, times*n+1, n, times, api.OK)
				mustShare(t, times*n-1, n, times-1, api.OK)
			}
			mustShare(t, times*n, n, times, api.OK)
		}
	}
}

func TestShareByOne(t *testing.T) {
	for _, a := range edges {
		if a >= 0 {
			mustShare(t, a, 1, a, api.OK)
		}
	}
}

func TestShareOfTheGreatest(t *testing.T) {
	mustShare(t, greatest, 1, greatest, api.OK)
	mustShare(t, greatest, greatest, 1, api.OK)
	mustShare(t, greatest, 2, inf-1, api.OK)
	mustShare(t, greatest, inf, 1, api.OK)
	mustShare(t, greatest, one, 1<<31-1, api.OK)
}

func TestShareOfWhatMayNotBe(t *testing.T) {
	for _, a := range edges {
		mustShare(t, a, 0, 0, api.ErrArg)
		mustShare(t, a, -1, 0, api.ErrArg)
		mustShare(t, a, least, 0, api.ErrArg)
		if a < 0 {
			mustShare(t, a, 1, 0, api.ErrArg)
			mustShare(t, a, greatest, 0, api.ErrArg)
			mustShare(t, a, a, 0, api.ErrArg)
		}
	}
	mustShare(t, least, least, 0, api.ErrArg)
	mustShare(t, least, -1, 0, api.ErrArg)
	mustShare(t, -7, 2, 0, api.ErrArg)
	mustShare(t, 7, -2, 0, api.ErrArg)
}

func TestShareOfRandomNumbers(t *testing.T) {
	rnd := rand.New(rand.NewPCG(5, 3))
	for range 100000 {
		a, n := someNumber(rnd), someNumber(rnd)
		if a < 0 || n < 1 {
			mustShare(t, a, n, 0, api.ErrArg)
			continue
		}
		mustShare(t, a, n, new(big.Int).Div(bigOf(a), bigOf(n)).Int64(), api.OK)
	}
}

// P5.3

func TestAddOfTheExamples(t *testing.T) {
	mustAdd(t, inf-1, 5, inf)
	mustAdd(t, -3, 4, 4)
}

func TestAddOfDistances(t *testing.T) {
	mustAdd(t, 0, 0, 0)
	mustAdd(t, 0, 5, 5)
	mustAdd(t, 2, 3, 5)
	mustAdd(t, one, one, 2*one)
	mustAdd(t, inf, 0, inf)
	mustAdd(t, inf, 1, inf)
	mustAdd(t, inf, inf, inf)
}

func TestAddAboutInf(t *testing.T) {
	for _, a := range []int64{0, 1, 5, one, inf/2 - 1, inf / 2} {
		if a > 0 {
			mustAdd(t, a, inf-1-a, inf-1)
			mustAdd(t, a, inf-a+1, inf)
		}
		mustAdd(t, a, inf-a, inf)
	}
	mustAdd(t, 0, inf-1, inf-1)
}

func TestAddBelowNought(t *testing.T) {
	for _, a := range edges {
		if a >= 0 {
			continue
		}
		mustAdd(t, a, 0, 0)
		mustAdd(t, a, 4, 4)
		mustAdd(t, a, inf-1, inf-1)
		mustAdd(t, a, inf, inf)
		mustAdd(t, a, a, 0)
	}
}

func TestAddAboveInf(t *testing.T) {
	for _, a := range edges {
		if a <= inf {
			continue
		}
		mustAdd(t, a, 0, inf)
		mustAdd(t, a, 4, inf)
		mustAdd(t, a, -4, inf)
		mustAdd(t, a, inf, inf)
		mustAdd(t, a, a, inf)
	}
}

func TestAddOfTheGreatestAndTheLeast(t *testing.T) {
	mustAdd(t, greatest, greatest, inf)
	mustAdd(t, least, least, 0)
	mustAdd(t, greatest, least, inf)
	mustAdd(t, greatest, 1, inf)
	mustAdd(t, least, -1, 0)
}

func TestAddOfAllEdges(t *testing.T) {
	for _, a := range edges {
		for _, b := range edges {
			mustAdd(t, a, b, plainAdd(a, b))
		}
	}
}

func TestAddOfRandomNumbers(t *testing.T) {
	rnd := rand.New(rand.NewPCG(5, 4))
	for range 100000 {
		a, b := someNumber(rnd), someNumber(rnd)
		mustAdd(t, a, b, plainAdd(a, b))
	}
}

// P5.4

func TestApartOfTheExample(t *testing.T) {
	mustBeApart(t, 2, 9, 7)
}

func TestApartOfANumberAndItself(t *testing.T) {
	for _, a := range edges {
		mustBeApart(t, a, a, 0)
	}
}

func TestApartOfDistances(t *testing.T) {
	mustBeApart(t, 0, inf, inf)
	mustBeApart(t, 1, inf, inf-1)
	mustBeApart(t, 0, 1, 1)
	mustBeApart(t, inf-1, inf, 1)
	mustBeApart(t, 0, inf-1, inf-1)
	mustBeApart(t, one, one/2, one/2)
}

func TestApartBelowNought(t *testing.T) {
	for _, a := range edges {
		if a >= 0 {
			continue
		}
		mustBeApart(t, a, 0, 0)
		mustBeApart(t, a, -5, 0)
		mustBeApart(t, a, 4, 4)
		mustBeApart(t, a, inf, inf)
	}
}

func TestApartAboveInf(t *testing.T) {
	for _, a := range edges {
		if a <= inf {
			continue
		}
		mustBeApart(t, a, inf, 0)
		mustBeApart(t, a, inf+5, 0)
		mustBeApart(t, a, inf-4, 4)
		mustBeApart(t, a, 0, inf)
		mustBeApart(t, a, -1, inf)
	}
}

func TestApartOfTheGreatestAndTheLeast(t *testing.T) {
	mustBeApart(t, greatest, least, inf)
	mustBeApart(t, greatest, inf, 0)
	mustBeApart(t, least, 0, 0)
	mustBeApart(t, least, inf-1, inf-1)
	mustBeApart(t, greatest, 1, inf-1)
}

func TestApartOfAllEdges(t *testing.T) {
	for _, a := range edges {
		for _, b := range edges {
			mustBeApart(t, a, b, plainApart(a, b))
		}
	}
}

func TestApartOfRandomNumbers(t *testing.T) {
	rnd := rand.New(rand.NewPCG(5, 5))
	for range 100000 {
		a, b := someNumber(rnd), someNumber(rnd)
		mustBeApart(t, a, b, plainApart(a, b))
	}
}

// P5.5

func TestTextOfTheExample(t *testing.T) {
	mustBeText(t, one+one/2, "1.500000000")
}

func TestTextOfWholeNumbers(t *testing.T) {
	for n, want := range map[int64]string{
		0: "0.000000000", 1: "1.000000000", 9: "9.000000000", 10: "10.000000000", 100: "100.000000000", 109: "109.000000000",
		1234567890: "1234567890.000000000", 1<<30 - 1: "1073741823.000000000", 1<<31 - 1: "2147483647.000000000",
	} {
		mustBeText(t, n*one, want)
	}
}

func TestTextOfTheEdges(t *testing.T) {
	mustBeText(t, 0, "0.000000000")
	mustBeText(t, 1, "0.000000000") // 2 is the tenth digit
	mustBeText(t, one-1, "0.999999999")
	mustBeText(t, one, "1.000000000")
	mustBeText(t, one+1, "1.000000000")
	mustBeText(t, 3*one-1, "2.999999999")
	mustBeText(t, 10*one-1, "9.999999999")
	mustBeText(t, inf-1, "1073741823.999999999")
	mustBeText(t, inf, "1073741824.000000000")
	mustBeText(t, greatest, "2147483647.999999999")
}

func TestTextWhoseFirstDigitsAreNought(t *testing.T) {
	mustBeText(t, 5, "0.000000001")
	mustBeText(t, 43, "0.000000010")
	mustBeText(t, 64, "0.000000014")
	mustBeText(t, 9*one+99, "9.000000023")
	mustBeText(t, one/512, "0.001953125")
	mustBeText(t, one/10, "0.099999999")
	mustBeText(t, 4294968, "0.001000000")
}

func TestTextWhoseLastDigitsAreNought(t *testing.T) {
	mustBeText(t, one/4, "0.250000000")
	mustBeText(t, 7*one+one/8, "7.125000000")
	mustBeText(t, 100*one+one/2, "100.500000000")
	mustBeText(t, one/256, "0.003906250")
}

func TestTextIsCutOff(t *testing.T) {
	mustBeText(t, 4, "0.000000000")          // 9 is the tenth digit
	mustBeText(t, 8, "0.000000001")          // 8
	mustBeText(t, 2863311530, "0.666666666") // 6
	mustBeText(t, one-5, "0.999999998")      // 8
	mustBeText(t, 4294967, "0.000999999")    // 9
	mustBeText(t, one/1024, "0.000976562")   // 5, and no more behind it
}

func TestTextBelowNought(t *testing.T) {
	for _, a := range edges {
		if a < 0 {
			mustBeText(t, a, "")
		}
	}
	mustBeText(t, -one/2, "")
}

func TestTextOfAllEdges(t *testing.T) {
	for _, a := range edges {
		mustBeText(t, a, plainText(a))
	}
}

func TestTextOfRandomNumbers(t *testing.T) {
	rnd := rand.New(rand.NewPCG(5, 6))
	for range 50000 {
		a := someNumber(rnd)
		mustBeText(t, a, plainText(a))
	}
}

// P5.6

func TestAddIsTheSameEitherWayRound(t *testing.T) {
	for _, a := range edges {
		for _, b := range edges {
			if there, back := fixed.Add(a, b), fixed.Add(b, a); there != back {
				t.Errorf("Add(%d, %d): %d, and %d the other way round", a, b, there, back)
			}
		}
	}
}

func TestAddOfThreeIsTheSameInWhicheverWay(t *testing.T) {
	for _, a := range edges {
		for _, b := range edges {
			for _, c := range edges {
				first := fixed.Add(fixed.Add(a, b), c)
				for _, other := range []int64{fixed.Add(a, fixed.Add(b, c)), fixed.Add(fixed.Add(a, c), b)} {
					if first != other {
						t.Errorf("%d, %d and %d together: %d, and %d", a, b, c, first, other)
					}
				}
			}
		}
	}
}

func TestMulByOneChangesNothing(t *testing.T) {
	rnd := rand.New(rand.NewPCG(5, 7))
	numbers := append([]int64{}, edges...)
	for range 50000 {
		numbers = append(numbers, someNumber(rnd))
	}
	for _, a := range numbers {
		if a >= 0 && a <= inf {
			mustMulEither(t, a, one, a, api.OK)
		}
	}
}

func TestWhatIsSharedIsNotMoreThanThereWas(t *testing.T) {
	rnd := rand.New(rand.NewPCG(5, 8))
	numbers := append([]int64{}, edges...)
	for range 300 {
		numbers = append(numbers, someNumber(rnd))
	}
	for _, a := range numbers {
		for _, n := range numbers {
			if a < 0 || n < 1 {
				continue
			}
			share, errno := fixed.Share(a, n)
			all := new(big.Int).Mul(bigOf(n), bigOf(share))
			if errno != api.OK || all.Cmp(bigOf(a)) > 0 || all.Cmp(bigOf(a-n)) <= 0 {
				t.Errorf("Share(%d, %d): %d, %d", a, n, share, errno)
			}
		}
	}
}
