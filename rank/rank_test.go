package rank_test

import (
	"math"
	"math/big"
	"math/rand/v2"
	"testing"

	"treadwheel/api"
	"treadwheel/fixed"
	"treadwheel/rank"
)

const (
	one      int64 = 4294967296
	inf      int64 = 4611686018427387904
	greatest int64 = math.MaxInt64
	least    int64 = math.MinInt64
)

// counts are numbers of vertices and of edges, some that may not be among them.
var counts = []int{
	math.MinInt, math.MinInt + 1, -1 << 32, -512, -2, -1,
	0, 1, 2, 3, 4, 7, 511, 512, 513, 1 << 31, 1 << 32, 1<<32 + 1, math.MaxInt - 1, math.MaxInt,
}

// values are what may be had, and what may not.
var values = []int64{
	least, least + 1, -inf, -one, -2, -1,
	0, 1, 2, 3, 7, 511, 512, 513, one/2 - 1, one / 2, one - 1, one, one + 1, 2 * one,
	inf/2 - 1, inf / 2, inf - one, inf - 1, inf, inf + 1, greatest - 1, greatest,
}

// dampings are those that may be, and those that may not.
var dampings = []int64{
	least, least + 1, least + one, -inf, -one, -1,
	0, 1, 2, one / 4, one/2 - 1, one / 2, one/2 + 1, 3650722201, one - 2, one - 1, one,
	one + 1, 2 * one, inf, greatest - 1, greatest,
}

func bigOf(n int64) *big.Int { return big.NewInt(n) }

// plainShare takes the document's words on big numbers; 0 where it is an error.
func plainShare(a int64, n int) int64 {
	if a < 0 || n < 1 {
		return 0
	}
	return new(big.Int).Div(bigOf(a), bigOf(int64(n))).Int64()
}

// plainTake takes the document's words on big numbers.
func plainTake(vertices int, damp, mail, sum int64) int64 {
	if vertices < 1 || damp < 0 || damp > one || mail < 0 || sum < 0 {
		return 0
	}
	together := new(big.Int).Add(bigOf(min(mail, inf)), bigOf(plainShare(sum, vertices)))
	if together.Cmp(bigOf(inf)) > 0 {
		together = bigOf(inf)
	}
	flow := together.Mul(together, bigOf(damp))
	flow.Div(flow, bigOf(one))
	if flow.Cmp(bigOf(inf)) > 0 {
		return 0
	}
	return flow.Add(flow, bigOf(plainShare(one-damp, vertices))).Int64()
}

// someOf is one of a list's numbers, a number not far from one, or one of any
// length from 0 on.
func someOf(rnd *rand.Rand, list []int64) int64 {
	n := list[rnd.IntN(len(list))]
	switch rnd.IntN(4) {
	case 0:
		n += rnd.Int64N(2001) - 1000
	case 1:
		n = int64(rnd.Uint64() >> (1 + rnd.IntN(63)))
	}
	return n
}

// someCount is mostly a number of vertices that a graph may have.
func someCount(rnd *rand.Rand) int {
	if rnd.IntN(4) == 0 {
		return counts[rnd.IntN(len(counts))]
	}
	return 1 + rnd.IntN(512)
}

func mustStart(t *testing.T, vertices int, want int64) {
	t.Helper()
	if got := rank.Start(vertices); got != want {
		t.Errorf("Start(%d): %d, not %d", vertices, got, want)
	}
}

func mustGive(t *testing.T, value int64, out int, want int64) {
	t.Helper()
	if got := rank.Give(value, out); got != want {
		t.Errorf("Give(%d, %d): %d, not %d", value, out, got, want)
	}
}

func mustTake(t *testing.T, vertices int, damp, mail, sum, want int64) {
	t.Helper()
	if got := rank.Take(vertices, damp, mail, sum); got != want {
		t.Errorf("Take(%d, %d, %d, %d): %d, not %d", vertices, damp, mail, sum, got, want)
	}
}

// P7.1

func TestStartOfTheExamples(t *testing.T) {
	mustStart(t, 1, one)
	mustStart(t, 4, one/4)
	mustStart(t, 0, 0)
}

func TestStartWithoutARest(t *testing.T) {
	mustStart(t, 2, 2147483648)
	mustStart(t, 512, 8388608)
	mustStart(t, 1<<32, 1)
}

func TestStartWithARest(t *testing.T) {
	mustStart(t, 3, 1431655765)
	mustStart(t, 7, 613566756)
	mustStart(t, 511, 8405024)
	mustStart(t, 513, 8372255)
}

func TestStartOfMoreVerticesThanOneHasUnits(t *testing.T) {
	mustStart(t, 1<<32-1, 1)
	mustStart(t, 1<<32+1, 0)
	mustStart(t, math.MaxInt, 0)
}

func TestStartOfFewerThanOneVertex(t *testing.T) {
	for _, n := range []int{0, -1, -2, -4, -512, -1 << 32, math.MinInt + 1, math.MinInt} {
		mustStart(t, n, 0)
	}
}

func TestStartOfAllCounts(t *testing.T) {
	for _, n := range counts {
		mustStart(t, n, plainShare(one, n))
	}
	for n := -3; n <= 513; n++ {
		mustStart(t, n, plainShare(one, n))
	}
}

// P7.2

func TestGiveOfTheExamples(t *testing.T) {
	mustGive(t, 7, 2, 3)
	mustGive(t, 7, 0, 0)
}

func TestGiveWithoutARest(t *testing.T) {
	mustGive(t, 6, 2, 3)
	mustGive(t, 9, 3, 3)
	mustGive(t, one, 2, one/2)
	mustGive(t, one, 512, 8388608)
	mustGive(t, inf, 512, 1<<53)
	mustGive(t, greatest, 7, 1317624576693539401)
	mustGive(t, greatest, math.MaxInt, 1)
}

func TestGiveWithARest(t *testing.T) {
	mustGive(t, 1, 2, 0)
	mustGive(t, 8, 3, 2)
	mustGive(t, 511, 512, 0)
	mustGive(t, 1023, 512, 1)
	mustGive(t, one, 3, 1431655765)
	mustGive(t, inf, 3, 1537228672809129301)
	mustGive(t, greatest, 2, inf-1)
	mustGive(t, greatest, 512, 1<<54-1)
	mustGive(t, greatest-1, math.MaxInt, 0)
}

func TestGiveAlongOneEdge(t *testing.T) {
	for _, value := range values {
		mustGive(t, value, 1, max(value, 0))
	}
}

func TestGiveOfNought(t *testing.T) {
	for _, out := range counts {
		mustGive(t, 0, out, 0)
	}
}

func TestGiveAlongFewerThanOneEdge(t *testing.T) {
	for _, value := range values {
		for _, out := range []int{0, -1, -2, math.MinInt} {
			mustGive(t, value, out, 0)
		}
	}
}

func TestGiveOfAValueBelowNought(t *testing.T) {
	for _, value := range []int64{-1, -2, -7, -one, -inf, least} {
		for _, out := range counts {
			mustGive(t, value, out, 0)
		}
	}
}

func TestGiveOfAllValues(t *testing.T) {
	for _, value := range values {
		for _, out := range counts {
			mustGive(t, value, out, plainShare(value, out))
		}
	}
}

func TestGiveOfRandomNumbers(t *testing.T) {
	rnd := rand.New(rand.NewPCG(7, 1))
	for range 50000 {
		value, out := someOf(rnd, values), someCount(rnd)
		mustGive(t, value, out, plainShare(value, out))
	}
}

// P7.3

func TestTakeOfTheExamples(t *testing.T) {
	mustTake(t, 2, one, 5, 4, 7)
	mustTake(t, 2, 0, 5, 4, one/2)
}

func TestTakeOfOneVertex(t *testing.T) {
	mustTake(t, 1, one, 5, 4, 9)
	mustTake(t, 1, one, one, 0, one)
	mustTake(t, 1, one/2, 0, one, one)
	mustTake(t, 1, one/4, one, 0, one)
	mustTake(t, 1, 0, 5, 4, one)
}

func TestTakeOfMoreVertices(t *testing.T) {
	mustTake(t, 2, one/2, one/2, one/2, one/4+3*one/8)
	mustTake(t, 3, one/2, one/2, one/4, 715827882+1252698794)
	mustTake(t, 512, one/2, one, one, 4194304+2151677952)
	mustTake(t, 4, one/4, 0, 0, 3*one/16)
}

func TestTakeOfNothingSent(t *testing.T) {
	mustTake(t, 2, one, 0, 0, 0)
	mustTake(t, 2, one, 0, 5, 2)
	mustTake(t, 2, one, 5, 0, 5)
	mustTake(t, 2, one/2, 0, 0, one/4)
}

func TestTakeWhoseSumIsSharedWithARest(t *testing.T) {
	mustTake(t, 3, one, 0, 8, 2)
	mustTake(t, 3, one, 1, 2, 1)
	mustTake(t, 512, one, 7, 511, 7)
	mustTake(t, 512, one, 7, 1023, 8)
	mustTake(t, 2, one, 0, greatest, inf-1)
	// Cut off ahead of what mail adds: 3 and 3 by 2 are 4, not 4 and a half.
	mustTake(t, 2, one/2, 3, 3, one/4+2)
}

func TestTakeWhoseSumIsLessThanTheVertices(t *testing.T) {
	mustTake(t, math.MaxInt, one, 5, 4, 5)
	mustTake(t, math.MaxInt, one, 5, greatest, 6)
	mustTake(t, math.MaxInt, one/2, 8, greatest-1, 4)
	mustTake(t, 1<<32, one, 5, 1<<32-1, 5)
}

func TestTakeCutsOffEachOfTheTwo(t *testing.T) {
	// Half of 3 units, and a third of One less a half: each is cut off by itself.
	mustTake(t, 3, one/2, 3, 0, 715827882+1)
	mustTake(t, 2, one-1, 1, 0, 0)
	mustTake(t, 1, one-1, 1, 0, 1)
	mustTake(t, 1, 1, one-1, 0, one-1)
	mustTake(t, 1, 1, one, 0, one)
}

func TestTakeOfDampOne(t *testing.T) {
	for _, n := range []int{1, 2, 3, 512, math.MaxInt} {
		mustTake(t, n, one, 5, 0, 5)
		mustTake(t, n, one, 0, 0, 0)
		mustTake(t, n, one, inf, 0, inf)
		mustTake(t, n, one, inf-1, 0, inf-1)
	}
}

func TestTakeOfDampNought(t *testing.T) {
	for _, n := range []int{1, 2, 3, 512, 1 << 32, math.MaxInt} {
		for _, v := range []int64{0, 1, one, inf, greatest} {
			mustTake(t, n, 0, v, 0, plainShare(one, n))
			mustTake(t, n, 0, 0, v, plainShare(one, n))
			mustTake(t, n, 0, v, v, plainShare(one, n))
		}
	}
}

// At damps that may be Mul answers no error, whatever is sent and lost: Inf by
// One is Inf just so.
func TestTakeOfTheGreatestAtWhichMulAnswersNoError(t *testing.T) {
	for _, x := range [][2]int64{{inf, 0}, {inf - 1, 1}, {0, inf}, {inf, inf}, {inf, 1}, {inf + 1, 0}, {0, inf + 1}, {greatest, greatest}} {
		if product, errno := fixed.Mul(one, fixed.Add(x[0], x[1])); product != inf || errno != api.OK {
			t.Errorf("Mul of One, and of %d and %d: %d, %d", x[0], x[1], product, errno)
		}
		mustTake(t, 1, one, x[0], x[1], inf)
		mustTake(t, 1, one-1, x[0], x[1], inf-1<<30+1)
		mustTake(t, 1, one/2, x[0], x[1], inf/2+one/2)
		mustTake(t, 1, 1, x[0], x[1], 1<<30+one-1)
		mustTake(t, 1, 0, x[0], x[1], one)
	}
	mustTake(t, 2, one, inf, greatest, inf)
	mustTake(t, 512, one, inf, greatest, inf)
	mustTake(t, 512, one, greatest, 0, inf)
}

func TestTakeOfNumbersAtWhichMulAnswersAnError(t *testing.T) {
	for _, x := range []struct {
		damp, mail, sum int64
		errno           api.Errno
	}{
		{one + 1, inf, 0, api.ErrOver},
		{one + 1, inf - 1, 1, api.ErrOver},
		{one + 1, 0, greatest, api.ErrOver},
		{2 * one, inf, inf, api.ErrOver},
		{inf, one + 1, 0, api.ErrOver},
		{greatest, greatest, greatest, api.ErrOver},
		{-1, 5, 4, api.ErrArg},
		{-one, 0, 0, api.ErrArg},
		{least, greatest, greatest, api.ErrArg},
	} {
		if _, errno := fixed.Mul(x.damp, fixed.Add(x.mail, x.sum)); errno != x.errno {
			t.Errorf("Mul of %d, and of %d and %d: %d, not %d", x.damp, x.mail, x.sum, errno, x.errno)
		}
		mustTake(t, 1, x.damp, x.mail, x.sum, 0)
		mustTake(t, 512, x.damp, x.mail, x.sum, 0)
	}
}

func TestTakeOfFewerThanOneVertex(t *testing.T) {
	for _, n := range []int{0, -1, -2, -512, math.MinInt + 1, math.MinInt} {
		for _, damp := range dampings {
			mustTake(t, n, damp, 0, 0, 0)
			mustTake(t, n, damp, 5, 4, 0)
			mustTake(t, n, damp, inf, greatest, 0)
		}
	}
}

func TestTakeOfADampThatMayNotBe(t *testing.T) {
	for _, damp := range []int64{one + 1, one + 2, 2 * one, inf, greatest, -1, -2, -one, -inf, least + one, least + 1, least} {
		for _, n := range counts {
			mustTake(t, n, damp, 0, 0, 0)
			mustTake(t, n, damp, 5, 4, 0)
			mustTake(t, n, damp, one, one, 0)
		}
	}
}

func TestTakeOfMailOrSumBelowNought(t *testing.T) {
	for _, low := range []int64{-1, -2, -one, -inf, least + 1, least} {
		for _, other := range values {
			for _, damp := range []int64{0, 1, one / 2, one - 1, one} {
				mustTake(t, 1, damp, low, other, 0)
				mustTake(t, 1, damp, other, low, 0)
				mustTake(t, 512, damp, low, other, 0)
				mustTake(t, 512, damp, other, low, 0)
			}
		}
	}
}

func TestTakeOfAllNumbers(t *testing.T) {
	for _, n := range counts {
		for _, damp := range dampings {
			for _, mail := range values {
				for _, sum := range values {
					mustTake(t, n, damp, mail, sum, plainTake(n, damp, mail, sum))
				}
			}
		}
	}
}

func TestTakeOfRandomNumbers(t *testing.T) {
	rnd := rand.New(rand.NewPCG(7, 2))
	right := 0
	for range 200000 {
		n, mail, sum := someCount(rnd), someOf(rnd, values), someOf(rnd, values)
		damp := rnd.Int64N(one + 1)
		if rnd.IntN(4) == 0 {
			damp = someOf(rnd, dampings)
		}
		want := plainTake(n, damp, mail, sum)
		mustTake(t, n, damp, mail, sum, want)
		if want != 0 {
			right++
		}
	}
	if right < 50000 {
		t.Errorf("only %d that are not 0", right)
	}
}

// P7.4

func mustNotGiveMore(t *testing.T, value int64, out int) {
	t.Helper()
	given := new(big.Int).Mul(bigOf(rank.Give(value, out)), bigOf(int64(out)))
	if given.Cmp(bigOf(max(value, 0))) > 0 {
		t.Errorf("of %d along %d edges: %s", value, out, given)
	}
}

func TestWhatIsGivenIsNotMoreThanThereWas(t *testing.T) {
	for _, value := range values {
		for _, out := range counts {
			mustNotGiveMore(t, value, out)
		}
	}
	rnd := rand.New(rand.NewPCG(7, 3))
	for range 50000 {
		mustNotGiveMore(t, someOf(rnd, values), someCount(rnd))
	}
}

// step tells what vertices of such ranks have next, by the package's calls,
// where edges lead from each vertex to those of its row.
func step(damp int64, ranks []int64, to [][]int) []int64 {
	mail, sum := make([]int64, len(ranks)), int64(0)
	for v, value := range ranks {
		if len(to[v]) == 0 {
			sum = fixed.Add(sum, value)
		}
		for _, u := range to[v] {
			mail[u] = fixed.Add(mail[u], rank.Give(value, len(to[v])))
		}
	}
	var next []int64
	for _, m := range mail {
		next = append(next, rank.Take(len(ranks), damp, m, sum))
	}
	return next
}

func total(ranks []int64) *big.Int {
	all := new(big.Int)
	for _, value := range ranks {
		all.Add(all, bigOf(value))
	}
	return all
}

// mustStayWithinOne goes some steps, and tells what there is behind the last one.
func mustStayWithinOne(t *testing.T, damp int64, ranks []int64, to [][]int) int64 {
	t.Helper()
	for range 5 {
		next := step(damp, ranks, to)
		if total(next).Cmp(bigOf(one)) > 0 {
			t.Errorf("damp %d, ranks %v, edges %v: %s together", damp, ranks, to, total(next))
		}
		ranks = next
	}
	return total(ranks).Int64()
}

// lawfulDampings are those at which all Take together is asked for.
var lawfulDampings = []int64{0, 1, one / 3, one / 2, 3650722201, one - 1, one}

// split tells so many ranks that have One together.
func split(rnd *rand.Rand, n int) []int64 {
	ranks, left := make([]int64, n), one
	for v := range n - 1 {
		ranks[v] = rnd.Int64N(left + 1)
		if rnd.IntN(2) == 0 {
			ranks[v] = min(left, one/int64(n))
		}
		left -= ranks[v]
	}
	ranks[n-1] = left
	rnd.Shuffle(n, func(i, j int) { ranks[i], ranks[j] = ranks[j], ranks[i] })
	return ranks
}

// someEdges leads from each vertex to some others; from those below bare to none.
func someEdges(rnd *rand.Rand, n, bare int) [][]int {
	to := make([][]int, n)
	for v := bare; v < n; v++ {
		to[v] = rnd.Perm(n)[:1+rnd.IntN(n)]
	}
	return to
}

func TestAllTakeTogetherIsOneWhereNothingIsCutOff(t *testing.T) {
	for _, damp := range []int64{0, one / 2, one} {
		for _, to := range [][][]int{
			{{1}, {2}, {3}, {0}},
			{{0, 1, 2, 3}, {0, 1, 2, 3}, {0, 1, 2, 3}, {0, 1, 2, 3}},
			{nil, {2}, {3}, {0}},
			{nil, nil, nil, nil},
		} {
			for _, ranks := range [][]int64{{one / 4, one / 4, one / 4, one / 4}, {one, 0, 0, 0}} {
				if all := mustStayWithinOne(t, damp, ranks, to); all != one {
					t.Errorf("damp %d, ranks %v, edges %v: %d together", damp, ranks, to, all)
				}
			}
		}
	}
}

func TestAllTakeTogetherWithoutAnyRank(t *testing.T) {
	ranks := make([]int64, 4)
	for damp, want := range map[int64]int64{0: one, one / 2: one / 2, one: 0} {
		if all := total(step(damp, ranks, make([][]int, 4))); all.Cmp(bigOf(want)) != 0 {
			t.Errorf("damp %d: %s together, not %d", damp, all, want)
		}
	}
}

func TestAllTakeTogetherFromTheStart(t *testing.T) {
	rnd := rand.New(rand.NewPCG(7, 4))
	for _, n := range []int{1, 2, 3, 7, 100, 511, 512} {
		ranks := make([]int64, n)
		for v := range ranks {
			ranks[v] = rank.Start(n)
		}
		for _, damp := range lawfulDampings {
			for _, bare := range []int{0, 1, n / 2, n} {
				mustStayWithinOne(t, damp, ranks, someEdges(rnd, n, bare))
			}
		}
	}
}

func TestAllTakeTogetherIsNotMoreThanOne(t *testing.T) {
	rnd := rand.New(rand.NewPCG(7, 5))
	for range 2000 {
		n := 1 + rnd.IntN(12)
		ranks := split(rnd, n)
		if rnd.IntN(3) == 0 {
			ranks[0] = rnd.Int64N(ranks[0] + 1)
		}
		for _, damp := range append([]int64{rnd.Int64N(one + 1)}, lawfulDampings...) {
			for _, bare := range []int{0, 1, n} {
				mustStayWithinOne(t, damp, ranks, someEdges(rnd, n, bare))
			}
		}
	}
}
