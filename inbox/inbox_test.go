package inbox_test

import (
	"math"
	"math/big"
	"math/rand/v2"
	"slices"
	"testing"

	"treadwheel/algos"
	"treadwheel/api"
	"treadwheel/inbox"
	"treadwheel/parts"
)

const (
	inf      int64 = 4611686018427387904
	greatest int64 = math.MaxInt64
	least    int64 = math.MinInt64
)

// numbers are values that may be, and others, rising.
var numbers = []int64{
	least, least + 1, -inf - 1, -inf, -2, -1,
	0, 1, 2, 3, 7, 4294967296, inf / 2, inf/2 + 1, inf - 2, inf - 1, inf, inf + 1, greatest - 1, greatest,
}

// vertices are those of workers, and others that there are not, falling.
var vertices = []int{
	math.MaxInt, math.MaxInt - 1, 1 << 32, 513, 512, 511, 510, 64, 63, 9, 8, 7, 6, 5, 4, 3, 2, 1, 0,
	-1, -2, -511, -512, -1 << 32, math.MinInt + 1, math.MinInt,
}

// noCounts are counts of workers that there may not be.
var noCounts = []int{math.MinInt, math.MinInt + 1, -64, -2, -1, 0, 65, 66, 128, 512, 1 << 32, math.MaxInt - 1, math.MaxInt}

// counts are counts of workers that there may be.
var counts = []int{1, 2, 3, 4, 5, 7, 8, 16, 31, 32, 33, 63, 64}

// kinds are the three that there are, and others.
var kinds = []uint8{1, 2, 3, 0, 4, 7, 128, 255}

func ofKind(kind uint8) api.Job { return api.Job{Kind: kind, Steps: 5} }

// messages are made of pairs of To and Value.
func messages(pairs ...int64) []api.Message {
	var l []api.Message
	for i := 0; i < len(pairs); i += 2 {
		l = append(l, api.Message{To: int(pairs[i]), Value: pairs[i+1]})
	}
	return l
}

// toOne are messages to one vertex.
func toOne(v int, values ...int64) []api.Message {
	var l []api.Message
	for _, value := range values {
		l = append(l, api.Message{To: v, Value: value})
	}
	return l
}

func sent(value int64) api.Mail { return api.Mail{Has: true, Value: value} }

// none is no mail: whatever stands in it, nothing was sent.
func none(value int64) api.Mail { return api.Mail{Value: value} }

// What follows takes the chapters' words plainly.

// counted is a number as chapter 5 counts it: a distance.
func counted(a int64) int64 {
	if a < 0 {
		return 0
	}
	if a > inf {
		return inf
	}
	return a
}

// plainCombine takes the words of P10.5, on big numbers.
func plainCombine(kind uint8, a, b int64) int64 {
	switch kind {
	case 1:
		sum := new(big.Int).Add(big.NewInt(counted(a)), big.NewInt(counted(b)))
		if sum.Cmp(big.NewInt(inf)) > 0 {
			return inf
		}
		return sum.Int64()
	case 2, 3:
		if a < b {
			return a
		}
		return b
	}
	return 0
}

// plainMail goes over all messages, and puts together those to one vertex.
func plainMail(kind uint8, v int, rows ...[]api.Message) api.Mail {
	var values []int64
	for _, row := range rows {
		for _, m := range row {
			if m.To == v {
				values = append(values, m.Value)
			}
		}
	}
	if len(values) == 0 {
		return api.Mail{}
	}
	all := values[0]
	for _, value := range values[1:] {
		all = plainCombine(kind, all, value)
	}
	return api.Mail{Has: true, Value: all}
}

func plainMerge(kind uint8, own []int, rows ...[]api.Message) []api.Mail {
	var l []api.Mail
	for _, v := range own {
		l = append(l, plainMail(kind, v, rows...))
	}
	return l
}

func plainFold(kind uint8, l []api.Message) []api.Message {
	var to []int
	for _, m := range l {
		if !slices.Contains(to, m.To) {
			to = append(to, m.To)
		}
	}
	slices.Sort(to)
	var folded []api.Message
	for _, v := range to {
		folded = append(folded, api.Message{To: v, Value: plainMail(kind, v, l).Value})
	}
	return folded
}

// plainWorker takes chapter 6's words, on big numbers.
func plainWorker(v, workers int) int {
	if v < 0 || v > 511 {
		return -1
	}
	n := new(big.Int).Mul(big.NewInt(2654435761), big.NewInt(int64(v)))
	modulus := big.NewInt(1 << 32)
	n.Mod(n, modulus).Mul(n, big.NewInt(int64(workers))).Div(n, modulus)
	return int(n.Int64())
}

func plainSplit(l []api.Message, workers int) [][]api.Message {
	if workers < 1 || workers > 64 {
		return nil
	}
	var rows [][]api.Message
	for w := range workers {
		var row []api.Message
		for _, m := range l {
			if plainWorker(m.To, workers) == w {
				row = append(row, m)
			}
		}
		rows = append(rows, row)
	}
	return rows
}

func plainSame(a, b []api.Mail) bool {
	if len(a) != len(b) {
		return false
	}
	for i := range a {
		if a[i].Has != b[i].Has {
			return false
		}
		if a[i].Has && a[i].Value != b[i].Value {
			return false
		}
	}
	return true
}

func sameRows(a, b [][]api.Message) bool {
	return slices.EqualFunc(a, b, func(a, b []api.Message) bool { return slices.Equal(a, b) })
}

func mustFold(t *testing.T, kind uint8, l, want []api.Message) {
	t.Helper()
	if got := inbox.Fold(ofKind(kind), l); !slices.Equal(got, want) {
		t.Errorf("Fold of the kind %d, %v: %v, not %v", kind, l, got, want)
	}
}

func mustSplit(t *testing.T, l []api.Message, workers int, want [][]api.Message) {
	t.Helper()
	if got := inbox.Split(l, workers); !sameRows(got, want) {
		t.Errorf("Split of %v by %d: %v, not %v", l, workers, got, want)
	}
}

// mustMerge asks of mail without Has that its Value is 0, too.
func mustMerge(t *testing.T, kind uint8, own []int, rows [][]api.Message, want ...api.Mail) {
	t.Helper()
	if got := inbox.Merge(ofKind(kind), own, rows...); !slices.Equal(got, want) {
		t.Errorf("Merge of the kind %d, %v, %v: %v, not %v", kind, own, rows, got, want)
	}
}

func mustBeSame(t *testing.T, a, b []api.Mail, want bool) {
	t.Helper()
	if got := inbox.Same(a, b); got != want {
		t.Errorf("Same(%v, %v): %v", a, b, got)
	}
	if got := inbox.Same(b, a); got != want {
		t.Errorf("Same(%v, %v): %v", b, a, got)
	}
}

// someValue is one of the numbers, one not far from one, or one of any length
// from 0 on.
func someValue(rnd *rand.Rand) int64 {
	switch rnd.IntN(4) {
	case 0:
		return numbers[rnd.IntN(len(numbers))] + rnd.Int64N(2001) - 1000
	case 1:
		return int64(rnd.Uint64() >> (1 + rnd.IntN(63)))
	}
	return numbers[rnd.IntN(len(numbers))]
}

// fromNought is a drawn value from 0 on, now and then past Inf.
func fromNought(rnd *rand.Rand) int64 {
	n := someValue(rnd)
	if n < 0 {
		return rnd.Int64()
	}
	return n
}

// someVertex is mostly one of few, so that several messages go to one.
func someVertex(rnd *rand.Rand) int {
	switch rnd.IntN(8) {
	case 0:
		return vertices[rnd.IntN(len(vertices))]
	case 1:
		return rnd.IntN(512)
	}
	return rnd.IntN(8)
}

// someMessages are up to so many, with drawn values.
func someMessages(rnd *rand.Rand, most int, value func(*rand.Rand) int64) []api.Message {
	l := make([]api.Message, rnd.IntN(most+1))
	for i := range l {
		l[i] = api.Message{To: someVertex(rnd), Value: value(rnd)}
	}
	return l
}

// someOwn are up to so many vertices, in any order, some twice.
func someOwn(rnd *rand.Rand, most int) []int {
	l := make([]int, rnd.IntN(most+1))
	for i := range l {
		l[i] = someVertex(rnd)
	}
	return l
}

// cut cuts messages into rows anyhow, some of them empty.
func cut(rnd *rand.Rand, l []api.Message) [][]api.Message {
	rows := [][]api.Message{nil}
	for _, m := range l {
		for rnd.IntN(4) == 0 {
			rows = append(rows, nil)
		}
		last := len(rows) - 1
		rows[last] = append(rows[last], m)
	}
	return rows
}

// P11.1

func TestFoldOfTheExamples(t *testing.T) {
	l := messages(3, 7, 1, 4, 3, 5)
	mustFold(t, api.Paths, l, messages(1, 4, 3, 5))
	mustFold(t, api.Rank, l, messages(1, 4, 3, 12))
	mustFold(t, api.Label, l, messages(1, 4, 3, 5))
}

func TestFoldOfNoMessages(t *testing.T) {
	for _, kind := range kinds {
		mustFold(t, kind, nil, nil)
		mustFold(t, kind, []api.Message{}, nil)
	}
}

func TestFoldOfOneMessageLeavesItsValue(t *testing.T) {
	for kind := range 256 {
		for _, value := range numbers {
			for _, v := range vertices {
				mustFold(t, uint8(kind), toOne(v, value), toOne(v, value))
			}
		}
	}
}

func TestFoldLeavesTheValueOfEachThatComesAlone(t *testing.T) {
	for _, kind := range kinds {
		for _, value := range numbers {
			l := messages(2, value, 0, value, 1, value)
			mustFold(t, kind, l, messages(0, value, 1, value, 2, value))
		}
	}
}

func TestFoldOfSeveralToOneVertex(t *testing.T) {
	mustFold(t, api.Rank, toOne(5, 3, 4), toOne(5, 7))
	mustFold(t, api.Rank, toOne(5, 3, 4, 0, 1), toOne(5, 8))
	mustFold(t, api.Rank, toOne(5, inf-1, 1), toOne(5, inf))
	mustFold(t, api.Rank, toOne(5, inf-1, 2), toOne(5, inf))
	mustFold(t, api.Rank, toOne(5, inf+1, 0), toOne(5, inf))
	mustFold(t, api.Rank, toOne(5, 0, greatest), toOne(5, inf))
	mustFold(t, api.Rank, toOne(5, -1, 4), toOne(5, 4))
	mustFold(t, api.Rank, toOne(5, least, -1), toOne(5, 0))
	for _, kind := range []uint8{api.Label, api.Paths} {
		mustFold(t, kind, toOne(5, 3, 4), toOne(5, 3))
		mustFold(t, kind, toOne(5, 4, 3), toOne(5, 3))
		mustFold(t, kind, toOne(5, 4, 1, 3), toOne(5, 1))
		mustFold(t, kind, toOne(5, 3, -1), toOne(5, -1))
		mustFold(t, kind, toOne(5, 0, least, greatest), toOne(5, least))
		mustFold(t, kind, toOne(5, greatest, inf+1), toOne(5, inf+1))
		mustFold(t, kind, toOne(5, greatest, greatest), toOne(5, greatest))
	}
}

func TestFoldOfOtherKinds(t *testing.T) {
	for kind := range 256 {
		if kind >= 1 && kind <= 3 {
			continue
		}
		mustFold(t, uint8(kind), toOne(5, 3, 4), toOne(5, 0))
		mustFold(t, uint8(kind), toOne(5, -3, -4, greatest), toOne(5, 0))
		mustFold(t, uint8(kind), messages(3, 7, 1, 4, 3, 5), messages(1, 4, 3, 0))
	}
}

func TestFoldOfEachValueWithEach(t *testing.T) {
	for _, kind := range kinds {
		for _, a := range numbers {
			for _, b := range numbers {
				two := plainCombine(kind, a, b)
				mustFold(t, kind, toOne(0, a, b), toOne(0, two))
				for _, c := range []int64{least, -1, 0, 1, inf - 1, inf, inf + 1, greatest} {
					mustFold(t, kind, toOne(0, a, b, c), toOne(0, plainCombine(kind, two, c)))
				}
			}
		}
	}
}

func TestFoldIsByCombineInOrder(t *testing.T) {
	rnd := rand.New(rand.NewPCG(11, 1))
	for range 2000 {
		kind := kinds[rnd.IntN(len(kinds))]
		values := []int64{someValue(rnd)}
		all := values[0]
		for range rnd.IntN(6) {
			value := someValue(rnd)
			values, all = append(values, value), algos.Combine(ofKind(kind), all, value)
		}
		mustFold(t, kind, toOne(7, values...), toOne(7, all))
	}
}

func TestFoldTellsVerticesRising(t *testing.T) {
	for _, kind := range kinds {
		var falling []api.Message
		for i, v := range vertices {
			falling = append(falling, api.Message{To: v, Value: int64(i)})
		}
		rising := slices.Clone(falling)
		slices.Reverse(rising)
		mustFold(t, kind, falling, rising)
		mustFold(t, kind, rising, rising)
	}
	mustFold(t, api.Rank, messages(-1, 2, least, 3, greatest, 4, -1, 5, greatest, 6), messages(least, 3, -1, 7, greatest, 10))
}

func TestFoldOfDrawnMessages(t *testing.T) {
	rnd := rand.New(rand.NewPCG(11, 2))
	for range 10000 {
		kind, l := kinds[rnd.IntN(len(kinds))], someMessages(rnd, 20, someValue)
		mustFold(t, kind, l, plainFold(kind, l))
	}
}

func TestFoldOfManyMessages(t *testing.T) {
	rnd := rand.New(rand.NewPCG(11, 3))
	for _, kind := range kinds {
		var l []api.Message
		for range 8192 {
			l = append(l, api.Message{To: rnd.IntN(512), Value: rnd.Int64N(1 << 40)})
		}
		mustFold(t, kind, l, plainFold(kind, l))
	}
}

func TestFoldGoesByTheKindAlone(t *testing.T) {
	l := messages(3, 7, 1, 4, 3, 5)
	for _, kind := range kinds {
		j := api.Job{Kind: kind, Steps: -9, Source: math.MinInt, Damp: greatest, Eps: least}
		if got := inbox.Fold(j, l); !slices.Equal(got, plainFold(kind, l)) {
			t.Errorf("Fold of %+v: %v", j, got)
		}
		if got := inbox.Merge(j, []int{3, 1}, l); !slices.Equal(got, plainMerge(kind, []int{3, 1}, l)) {
			t.Errorf("Merge of %+v: %v", j, got)
		}
	}
}

// P11.2

func TestSplitOfTheExample(t *testing.T) {
	mustSplit(t, messages(0, 9, 1, 8, 3, 7), 4, [][]api.Message{messages(0, 9), nil, messages(1, 8), messages(3, 7)})
}

func TestSplitByCountsOfWorkers(t *testing.T) {
	l := messages(0, 9, 1, 8, 3, 7, 0, 6)
	mustSplit(t, l, 1, [][]api.Message{l})
	mustSplit(t, l, 2, [][]api.Message{messages(0, 9, 0, 6), messages(1, 8, 3, 7)})
	for _, workers := range counts {
		if got := inbox.Split(l, workers); len(got) != workers {
			t.Errorf("Split by %d: %d rows", workers, len(got))
		}
		mustSplit(t, l, workers, plainSplit(l, workers))
	}
	for _, workers := range noCounts {
		mustSplit(t, l, workers, nil)
		mustSplit(t, nil, workers, nil)
	}
}

func TestSplitOfNoMessages(t *testing.T) {
	for _, workers := range counts {
		mustSplit(t, nil, workers, make([][]api.Message, workers))
		mustSplit(t, []api.Message{}, workers, make([][]api.Message, workers))
	}
}

func TestSplitLeavesOutThoseToNoWorkersVertex(t *testing.T) {
	for _, v := range []int{-1, -2, -512, math.MinInt, math.MinInt + 1, 512, 513, 1 << 32, 1<<32 + 1, math.MaxInt - 1, math.MaxInt} {
		for _, workers := range counts {
			mustSplit(t, toOne(v, 9), workers, make([][]api.Message, workers))
			mustSplit(t, []api.Message{{To: v, Value: 1}, {To: 511, Value: 2}, {To: v, Value: 3}, {To: 0, Value: 4}}, workers, plainSplit(messages(511, 2, 0, 4), workers))
		}
	}
}

func TestSplitOfEachVertex(t *testing.T) {
	for _, workers := range counts {
		for v := range 512 {
			rows := make([][]api.Message, workers)
			rows[parts.Of(v, workers)] = toOne(v, 9)
			mustSplit(t, toOne(v, 9), workers, rows)
		}
	}
}

func TestSplitKeepsTheOrder(t *testing.T) {
	// All of these are worker 0's of 2: by falling vertices, and to the same ones again.
	own := parts.Owned(512, 2, 0)
	slices.Reverse(own)
	var l []api.Message
	for i, v := range slices.Concat(own, own, own[:5]) {
		l = append(l, api.Message{To: v, Value: int64(1000 - i)}, api.Message{To: 1, Value: int64(i % 3)})
	}
	mustSplit(t, l, 2, plainSplit(l, 2))
	rows := inbox.Split(l, 2)
	if len(rows) != 2 || len(rows[0]) != len(l)/2 || len(rows[1]) != len(l)/2 {
		t.Fatalf("%d rows", len(rows))
	}
	for i := range rows[0] {
		if rows[0][i] != l[2*i] || rows[1][i] != l[2*i+1] {
			t.Fatalf("message %d: %v, %v", i, rows[0][i], rows[1][i])
		}
	}
}

func TestSplitLeavesValuesAndThoseThereTwice(t *testing.T) {
	for _, value := range numbers {
		l := toOne(3, value, value, 5, value)
		mustSplit(t, l, 1, [][]api.Message{l})
		mustSplit(t, l, 2, [][]api.Message{nil, l})
	}
}

func TestSplitOfWorkersWithoutAMessage(t *testing.T) {
	for _, workers := range counts {
		for w := range workers {
			var l []api.Message
			for i, v := range parts.Owned(512, workers, w) {
				l = append(l, api.Message{To: v, Value: int64(i)})
			}
			rows := make([][]api.Message, workers)
			rows[w] = l
			mustSplit(t, l, workers, rows)
		}
	}
}

func TestSplitOfDrawnMessages(t *testing.T) {
	rnd := rand.New(rand.NewPCG(11, 4))
	for range 2000 {
		l, workers := someMessages(rnd, 100, someValue), 1+rnd.IntN(64)
		mustSplit(t, l, workers, plainSplit(l, workers))
	}
}

// P11.3

func TestMergeOfTheExample(t *testing.T) {
	mustMerge(t, api.Label, []int{1, 2}, [][]api.Message{messages(1, 5), messages(3, 0, 1, 4)}, sent(4), none(0))
}

func TestMergeOfNoRows(t *testing.T) {
	for _, kind := range kinds {
		for _, rows := range [][][]api.Message{nil, {}, {nil}, {{}}, {nil, {}, nil}} {
			mustMerge(t, kind, []int{0, 2, 1}, rows, none(0), none(0), none(0))
			mustMerge(t, kind, []int{-1, math.MaxInt}, rows, none(0), none(0))
			mustMerge(t, kind, nil, rows)
			mustMerge(t, kind, []int{}, rows)
		}
		if got := inbox.Merge(ofKind(kind), []int{4}); !slices.Equal(got, []api.Mail{{}}) {
			t.Errorf("Merge without rows: %v", got)
		}
	}
}

func TestMergeOfEmptyRowsAmongOthers(t *testing.T) {
	mustMerge(t, api.Rank, []int{1, 2}, [][]api.Message{nil, messages(1, 5), {}, messages(2, 7, 1, 4), nil}, sent(9), sent(7))
}

func TestMergeOfNoOwn(t *testing.T) {
	for _, kind := range kinds {
		mustMerge(t, kind, nil, [][]api.Message{messages(1, 5, 2, 6), messages(1, 7)})
		mustMerge(t, kind, []int{}, [][]api.Message{messages(1, 5, 2, 6), messages(1, 7)})
	}
}

func TestMergeOfOwnInItsOrder(t *testing.T) {
	rows := [][]api.Message{messages(1, 5, 2, 6, 3, 7), messages(2, 1)}
	mustMerge(t, api.Rank, []int{1, 2, 3}, rows, sent(5), sent(7), sent(7))
	mustMerge(t, api.Paths, []int{3, 2, 1}, rows, sent(7), sent(1), sent(5))
	mustMerge(t, api.Paths, []int{3, 0, 1, 4, 2}, rows, sent(7), none(0), sent(5), none(0), sent(1))
}

func TestMergeOfOwnThatIsThereTwice(t *testing.T) {
	rows := [][]api.Message{messages(1, 5), messages(2, 1, 1, 2)}
	mustMerge(t, api.Rank, []int{1, 1}, rows, sent(7), sent(7))
	mustMerge(t, api.Label, []int{1, 0, 2, 1, 0, 1}, rows, sent(2), none(0), sent(1), sent(2), none(0), sent(2))
}

func TestMergeLeavesOutThoseToOtherVertices(t *testing.T) {
	for _, kind := range kinds {
		for _, v := range vertices {
			var others []api.Message
			for _, u := range vertices {
				if u != v {
					others = append(others, toOne(u, 9, 8)...)
				}
			}
			mustMerge(t, kind, []int{v}, [][]api.Message{others}, none(0))
			mustMerge(t, kind, []int{v}, [][]api.Message{others, toOne(v, 7), others}, sent(7))
		}
	}
}

func TestMergeOfOwnThatIsNoWorkersVertex(t *testing.T) {
	for i, v := range vertices {
		mustMerge(t, api.Rank, []int{v}, [][]api.Message{toOne(v, int64(i), 4)}, sent(int64(i)+4))
	}
}

func TestMergeOfOneMessageLeavesItsValue(t *testing.T) {
	for kind := range 256 {
		for _, value := range numbers {
			mustMerge(t, uint8(kind), []int{3}, [][]api.Message{toOne(3, value)}, sent(value))
			mustMerge(t, uint8(kind), []int{4, 3, 3}, [][]api.Message{nil, messages(2, 1, 3, value), messages(2, 1)}, none(0), sent(value), sent(value))
		}
	}
}

func TestMergeOfSeveralOfOneRowAndOfSeveral(t *testing.T) {
	for _, kind := range kinds {
		for _, a := range numbers {
			for _, b := range numbers {
				two := sent(plainCombine(kind, a, b))
				mustMerge(t, kind, []int{3}, [][]api.Message{toOne(3, a, b)}, two)
				mustMerge(t, kind, []int{3}, [][]api.Message{toOne(3, a), toOne(3, b)}, two)
				three := sent(plainCombine(kind, two.Value, 5))
				mustMerge(t, kind, []int{3}, [][]api.Message{toOne(3, a, b), toOne(3, 5)}, three)
				mustMerge(t, kind, []int{3}, [][]api.Message{toOne(3, a), toOne(3, b, 5)}, three)
				mustMerge(t, kind, []int{3}, [][]api.Message{toOne(3, a), toOne(3, b), toOne(3, 5)}, three)
			}
		}
	}
}

func TestMergeOfOtherKinds(t *testing.T) {
	for kind := range 256 {
		if kind >= 1 && kind <= 3 {
			continue
		}
		mustMerge(t, uint8(kind), []int{1, 2, 3, 4}, [][]api.Message{messages(1, 5, 3, 8), messages(3, 0, 2, 7, 1, 4)}, sent(0), sent(7), sent(0), none(0))
	}
}

func TestMergeOfDrawnRows(t *testing.T) {
	rnd := rand.New(rand.NewPCG(11, 5))
	for range 10000 {
		kind, own := kinds[rnd.IntN(len(kinds))], someOwn(rnd, 12)
		rows := cut(rnd, someMessages(rnd, 30, someValue))
		mustMerge(t, kind, own, rows, plainMerge(kind, own, rows...)...)
	}
}

func TestMergeOfManyRows(t *testing.T) {
	rnd := rand.New(rand.NewPCG(11, 6))
	for _, kind := range kinds {
		var rows [][]api.Message
		for range 300 {
			rows = append(rows, toOne(rnd.IntN(512), rnd.Int64N(1<<40), rnd.Int64N(1<<40)))
		}
		own := parts.Owned(512, 2, 1)
		mustMerge(t, kind, own, rows, plainMerge(kind, own, rows...)...)
	}
}

// P11.4

func TestSameOfLengths(t *testing.T) {
	mustBeSame(t, nil, nil, true)
	mustBeSame(t, nil, []api.Mail{}, true)
	mustBeSame(t, []api.Mail{}, []api.Mail{}, true)
	for _, m := range []api.Mail{sent(0), sent(7), none(0), none(7)} {
		mustBeSame(t, nil, []api.Mail{m}, false)
		mustBeSame(t, []api.Mail{}, []api.Mail{m}, false)
		mustBeSame(t, []api.Mail{m}, []api.Mail{m}, true)
		mustBeSame(t, []api.Mail{m}, []api.Mail{m, m}, false)
		mustBeSame(t, []api.Mail{m, m}, []api.Mail{m, m}, true)
		mustBeSame(t, []api.Mail{m, m}, []api.Mail{m, m, none(0)}, false)
	}
}

func TestSameOfOneMail(t *testing.T) {
	for _, a := range numbers {
		for _, b := range numbers {
			mustBeSame(t, []api.Mail{sent(a)}, []api.Mail{sent(b)}, a == b)
			mustBeSame(t, []api.Mail{none(a)}, []api.Mail{none(b)}, true)
			mustBeSame(t, []api.Mail{sent(a)}, []api.Mail{none(b)}, false)
			mustBeSame(t, []api.Mail{none(a)}, []api.Mail{sent(b)}, false)
		}
	}
}

func TestSameGoesByEachMail(t *testing.T) {
	l := []api.Mail{sent(3), none(5), sent(-1), none(0), sent(inf)}
	mustBeSame(t, l, slices.Clone(l), true)
	for i := range l {
		other := slices.Clone(l)
		other[i].Value++
		mustBeSame(t, l, other, !l[i].Has)
		other = slices.Clone(l)
		other[i].Has = !other[i].Has
		mustBeSame(t, l, other, false)
		for k := range i {
			swapped := slices.Clone(l)
			swapped[i], swapped[k] = swapped[k], swapped[i]
			mustBeSame(t, l, swapped, !l[i].Has && !l[k].Has)
		}
	}
}

func TestSameOfDrawnMail(t *testing.T) {
	rnd := rand.New(rand.NewPCG(11, 7))
	some := func() []api.Mail {
		l := make([]api.Mail, rnd.IntN(4))
		for i := range l {
			l[i] = api.Mail{Has: rnd.IntN(2) == 0, Value: rnd.Int64N(2)}
		}
		return l
	}
	for range 20000 {
		a, b := some(), some()
		mustBeSame(t, a, b, plainSame(a, b))
	}
}

// P11.5

var strange = api.Message{To: 2, Value: -77}

// roomy tells a list with memory behind its length.
func roomy[T any](l []T, behind T) []T {
	return append(slices.Clone(l), behind, behind, behind)[:len(l)]
}

// whole tells all memory of a list, what lies behind it included.
func whole[T any](l []T) []T { return l[:cap(l)] }

// spoil overwrites all of a list's memory.
func spoil[T any](l []T, by T) {
	for i := range whole(l) {
		whole(l)[i] = by
	}
}

// roomyRows tells rows with memory behind them, and behind each.
func roomyRows(rows [][]api.Message) [][]api.Message {
	var l [][]api.Message
	for _, row := range rows {
		l = append(l, roomy(row, strange))
	}
	return roomy(l, []api.Message{strange})
}

// cloneRows tells a copy of all memory of rows.
func cloneRows(rows [][]api.Message) [][]api.Message {
	var l [][]api.Message
	for _, row := range whole(rows) {
		l = append(l, slices.Clone(whole(row)))
	}
	return l
}

// wholeRows tells all memory of rows.
func wholeRows(rows [][]api.Message) [][]api.Message {
	var l [][]api.Message
	for _, row := range whole(rows) {
		l = append(l, whole(row))
	}
	return l
}

func TestFoldAndSplitOnlyRead(t *testing.T) {
	for _, l := range [][]api.Message{nil, messages(7, 3), messages(7, 3, 1, 9, 7, 2, 0, 5, 1, 4), messages(-1, 3, 512, 2, 0, 1)} {
		handed := roomy(l, strange)
		was := slices.Clone(whole(handed))
		for _, kind := range kinds {
			inbox.Fold(ofKind(kind), handed)
		}
		for _, workers := range slices.Concat(counts, noCounts) {
			inbox.Split(handed, workers)
		}
		if !slices.Equal(whole(handed), was) {
			t.Errorf("%v became %v", was, whole(handed))
		}
	}
}

func TestMergeOnlyReads(t *testing.T) {
	rows := roomyRows([][]api.Message{messages(7, 3, 1, 9), nil, messages(7, 2, 0, 5, 1, 4), messages(7, 7)})
	own := roomy([]int{7, 1, 2, 7, 3}, 2)
	rowsWere, ownWas := cloneRows(rows), slices.Clone(whole(own))
	for _, kind := range kinds {
		inbox.Merge(ofKind(kind), own, rows...)
	}
	if !sameRows(wholeRows(rows), rowsWere) || !slices.Equal(whole(own), ownWas) {
		t.Errorf("%v, %v became %v, %v", ownWas, rowsWere, whole(own), wholeRows(rows))
	}
	// What lies behind the rows, and behind each, is not among them.
	mustMerge(t, api.Label, own, rows, sent(2), sent(4), none(0), sent(2), none(0))
}

func TestSameOnlyReads(t *testing.T) {
	a, b := roomy([]api.Mail{sent(3), none(5)}, sent(8)), roomy([]api.Mail{sent(3), none(6)}, sent(9))
	aWas, bWas := slices.Clone(whole(a)), slices.Clone(whole(b))
	mustBeSame(t, a, b, true)
	if !slices.Equal(whole(a), aWas) || !slices.Equal(whole(b), bWas) {
		t.Errorf("%v, %v", whole(a), whole(b))
	}
}

func TestFoldAnswersNewMemory(t *testing.T) {
	for _, kind := range kinds {
		for _, l := range [][]api.Message{messages(5, 1), messages(0, 3, 1, 4), messages(7, 3, 1, 9, 7, 2)} {
			l = roomy(l, strange)
			was := slices.Clone(whole(l))
			first, second := inbox.Fold(ofKind(kind), l), inbox.Fold(ofKind(kind), l)
			want := slices.Clone(second)
			spoil(first, api.Message{To: 99, Value: 99})
			if !slices.Equal(whole(l), was) || !slices.Equal(second, want) {
				t.Errorf("Fold of the kind %d, %v: %v", kind, l, second)
			}
			mustFold(t, kind, l, want)
			spoil(l, strange)
			if !slices.Equal(second, want) {
				t.Errorf("Fold of the kind %d keeps what was handed in: %v", kind, second)
			}
		}
	}
}

func TestSplitAnswersNewMemory(t *testing.T) {
	l := roomy(messages(0, 9, 1, 8, 3, 7, 0, 6, 2, 5, 4, 4, 1, 3, 5, 2), strange)
	for _, workers := range counts {
		was := slices.Clone(whole(l))
		first, second := inbox.Split(l, workers), inbox.Split(l, workers)
		want := cloneRows(second[:len(second):len(second)])
		for w := range first {
			kept := slices.Clone(first[w])
			spoil(first[w], api.Message{To: 99, Value: 99})
			others := plainSplit(l, workers)
			others[w] = first[w]
			if !sameRows(first, others) {
				t.Errorf("Split by %d: row %d shares memory with another one", workers, w)
			}
			copy(first[w], kept)
		}
		for _, row := range first {
			spoil(row, strange)
		}
		spoil(first, []api.Message{strange})
		if !slices.Equal(whole(l), was) || !sameRows(wholeRows(second[:len(second):len(second)]), want) {
			t.Errorf("Split by %d: %v", workers, second)
		}
		mustSplit(t, l, workers, plainSplit(l, workers))
	}
}

func TestSplitKeepsNothing(t *testing.T) {
	l := messages(0, 9, 1, 8, 3, 7, 0, 6)
	for _, workers := range counts {
		handed := slices.Clone(l)
		rows := inbox.Split(handed, workers)
		spoil(handed, strange)
		if !sameRows(rows, plainSplit(l, workers)) {
			t.Errorf("Split by %d keeps what was handed in: %v", workers, rows)
		}
	}
}

func TestRowsOfASplitGrowApart(t *testing.T) {
	l := messages(0, 9, 1, 8, 3, 7, 0, 6, 2, 5, 4, 4, 1, 3, 5, 2)
	for _, workers := range counts {
		rows := inbox.Split(l, workers)
		for w := range rows {
			rows[w] = append(rows[w], api.Message{To: 99, Value: int64(w)})
		}
		for w, row := range plainSplit(l, workers) {
			if want := append(row, api.Message{To: 99, Value: int64(w)}); !slices.Equal(rows[w], want) {
				t.Errorf("Split by %d, row %d: %v, not %v", workers, w, rows[w], want)
			}
		}
	}
}

func TestMergeAnswersNewMemory(t *testing.T) {
	for _, kind := range kinds {
		own, rows := []int{7, 1, 2, 7}, [][]api.Message{messages(7, 3, 1, 9), messages(7, 2, 0, 5)}
		first, second := inbox.Merge(ofKind(kind), own, rows...), inbox.Merge(ofKind(kind), own, rows...)
		want := slices.Clone(second)
		spoil(first, sent(99))
		if !slices.Equal(second, want) || !slices.Equal(own, []int{7, 1, 2, 7}) || !sameRows(rows, [][]api.Message{messages(7, 3, 1, 9), messages(7, 2, 0, 5)}) {
			t.Errorf("Merge of the kind %d: %v, %v, %v", kind, second, own, rows)
		}
		mustMerge(t, kind, own, rows, want...)
		spoil(own, 0)
		for _, row := range rows {
			spoil(row, strange)
		}
		spoil(rows, nil)
		if !slices.Equal(second, want) {
			t.Errorf("Merge of the kind %d keeps what was handed in: %v", kind, second)
		}
	}
}

// P11.6

// folded tells rows of which some are folded ahead.
func folded(rnd *rand.Rand, kind uint8, rows [][]api.Message) [][]api.Message {
	var l [][]api.Message
	for _, row := range rows {
		if rnd.IntN(2) == 0 {
			row = inbox.Fold(ofKind(kind), row)
		}
		l = append(l, row)
	}
	return l
}

func shuffled[T any](rnd *rand.Rand, l []T) []T {
	l = slices.Clone(l)
	rnd.Shuffle(len(l), func(i, k int) { l[i], l[k] = l[k], l[i] })
	return l
}

func TestMergeIsTheSameHoweverMessagesCome(t *testing.T) {
	rnd := rand.New(rand.NewPCG(11, 8))
	for range 5000 {
		kind := kinds[rnd.IntN(len(kinds))]
		l, own := someMessages(rnd, 30, fromNought), someOwn(rnd, 12)
		want := inbox.Merge(ofKind(kind), own, l)
		for range 3 {
			mustMerge(t, kind, own, cut(rnd, l), want...)
			mustMerge(t, kind, own, cut(rnd, shuffled(rnd, l)), want...)
			rows := shuffled(rnd, cut(rnd, shuffled(rnd, l)))
			mustMerge(t, kind, own, rows, want...)
			mustMerge(t, kind, own, folded(rnd, kind, rows), want...)
			// Folded rows, put together to fewer, and folded again.
			again := folded(rnd, kind, cut(rnd, slices.Concat(folded(rnd, kind, rows)...)))
			mustMerge(t, kind, own, again, want...)
		}
		mustMerge(t, kind, own, [][]api.Message{inbox.Fold(ofKind(kind), l)}, want...)
	}
}

func TestMergeIsTheSameAtTheBounds(t *testing.T) {
	values := []int64{0, 1, inf/2 + 1, inf - 1, inf, inf + 1, greatest}
	for _, kind := range kinds {
		for _, a := range values {
			for _, b := range values {
				for _, c := range values {
					want := inbox.Merge(ofKind(kind), []int{5}, toOne(5, a, b, c))
					mustMerge(t, kind, []int{5}, [][]api.Message{toOne(5, c), toOne(5, a, b)}, want...)
					mustMerge(t, kind, []int{5}, [][]api.Message{toOne(5, c, b, a)}, want...)
					mustMerge(t, kind, []int{5}, [][]api.Message{toOne(5, a), inbox.Fold(ofKind(kind), toOne(5, b, c))}, want...)
				}
			}
		}
	}
}

func TestFoldIsTheSameInWhateverOrder(t *testing.T) {
	rnd := rand.New(rand.NewPCG(11, 9))
	for range 3000 {
		kind, l := kinds[rnd.IntN(len(kinds))], someMessages(rnd, 30, fromNought)
		want := inbox.Fold(ofKind(kind), l)
		mustFold(t, kind, shuffled(rnd, l), want)
		mustFold(t, kind, want, want)
	}
}

func TestSplitLosesNoneThatGoesToAWorkersVertex(t *testing.T) {
	rnd := rand.New(rand.NewPCG(11, 10))
	for range 3000 {
		l, workers := someMessages(rnd, 60, someValue), 1+rnd.IntN(64)
		left := map[api.Message]int{}
		for _, m := range l {
			if m.To >= 0 && m.To < 512 {
				left[m]++
			}
		}
		for w, row := range inbox.Split(l, workers) {
			for _, m := range row {
				if parts.Of(m.To, workers) != w {
					t.Fatalf("worker %d of %d: %v", w, workers, m)
				}
				left[m]--
			}
		}
		for m, n := range left {
			if n != 0 {
				t.Fatalf("Split by %d: %v is there %d times too few", workers, m, n)
			}
		}
	}
}

func TestWhatIsSplitIsMergedByAllWorkersToTheSame(t *testing.T) {
	rnd := rand.New(rand.NewPCG(11, 11))
	for range 300 {
		kind, workers := kinds[rnd.IntN(len(kinds))], 1+rnd.IntN(64)
		l := someMessages(rnd, 60, fromNought)
		rows := inbox.Split(inbox.Fold(ofKind(kind), l), workers)
		for w := range workers {
			own := parts.Owned(512, workers, w)
			mustMerge(t, kind, own, [][]api.Message{rows[w]}, plainMerge(kind, own, l)...)
		}
	}
}
