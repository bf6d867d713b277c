package algos_test

import (
	"math"
	"math/big"
	"math/rand/v2"
	"slices"
	"testing"

	"treadwheel/algos"
	"treadwheel/api"
	"treadwheel/fixed"
	"treadwheel/label"
	"treadwheel/paths"
	"treadwheel/rank"
)

const (
	one      int64 = 4294967296
	inf      int64 = 4611686018427387904
	heaviest int64 = 1<<31 - 1
	greatest int64 = math.MaxInt64
	least    int64 = math.MinInt64
)

// numbers are values that may be, and others, rising.
var numbers = []int64{
	least, least + 1, -inf - 1, -inf, -one, -2, -1,
	0, 1, 2, 3, 7, one - 1, one, one + 1, inf / 2, inf/2 + 1, inf - 2, inf - 1, inf, inf + 1, greatest - 1, greatest,
}

// ints are counts and vertices, some that may not be among them.
var ints = []int{math.MinInt, math.MinInt + 1, -512, -2, -1, 0, 1, 2, 3, 511, 512, 513, 1 << 32, math.MaxInt - 1, math.MaxInt}

// kinds are the three that there are.
var kinds = []uint8{1, 2, 3}

func ranks(steps int, damp, eps int64) api.Job {
	return api.Job{Kind: 1, Steps: steps, Damp: damp, Eps: eps}
}

func labels(steps int) api.Job { return api.Job{Kind: 2, Steps: steps} }

func ways(steps, source int) api.Job { return api.Job{Kind: 3, Steps: steps, Source: source} }

// others hands out a job of each Kind that there is not.
func others(yield func(api.Job) bool) {
	for kind := range 256 {
		if kind >= 1 && kind <= 3 {
			continue
		}
		if !yield(api.Job{Kind: uint8(kind), Steps: 5, Source: 0, Damp: one / 2, Eps: 1}) || !yield(api.Job{Kind: uint8(kind)}) {
			return
		}
	}
}

func sent(value int64) api.Mail { return api.Mail{Has: true, Value: value} }

// none is no mail: whatever stands in it, nothing was sent.
func none(value int64) api.Mail { return api.Mail{Value: value} }

// example is the chapters' graph.
func example() api.Graph {
	return api.Graph{Vertices: 4, Edges: []api.Edge{{From: 0, To: 1, Weight: 4}, {From: 0, To: 2, Weight: 1}, {From: 2, To: 1, Weight: 2}}}
}

// edgesFrom are edges from a vertex, of weights 1, 2, and so on.
func edgesFrom(v int, to ...int) []api.Edge {
	var l []api.Edge
	for i, u := range to {
		l = append(l, api.Edge{From: v, To: u, Weight: int64(i + 1)})
	}
	return l
}

// edgesTo are edges to a vertex, of weights 1, 2, and so on.
func edgesTo(v int, from ...int) []api.Edge {
	var l []api.Edge
	for i, u := range from {
		l = append(l, api.Edge{From: u, To: v, Weight: int64(i + 1)})
	}
	return l
}

// messages are made of pairs of To and Value.
func messages(pairs ...int64) []api.Message {
	var l []api.Message
	for i := 0; i < len(pairs); i += 2 {
		l = append(l, api.Message{To: int(pairs[i]), Value: pairs[i+1]})
	}
	return l
}

// plainTogether takes chapter 5's words on big numbers.
func plainTogether(a, b int64) int64 {
	sum := new(big.Int).Add(big.NewInt(counted(a)), big.NewInt(counted(b)))
	if sum.Cmp(big.NewInt(inf)) > 0 {
		return inf
	}
	return sum.Int64()
}

// counted is a number as chapter 5 counts it: a distance.
func counted(a int64) int64 {
	if a < 0 {
		return 0
	}
	if a > inf {
		return inf
	}
	return a
}

func plainApart(a, b int64) int64 {
	a, b = counted(a), counted(b)
	if a < b {
		return b - a
	}
	return a - b
}

// plainTake takes chapter 7's words on big numbers.
func plainTake(vertices int, damp, mail, sum int64) int64 {
	if vertices < 1 || damp < 0 || damp > one || mail < 0 || sum < 0 {
		return 0
	}
	flow := big.NewInt(plainTogether(mail, sum/int64(vertices)))
	flow.Mul(flow, big.NewInt(damp)).Div(flow, big.NewInt(one))
	if flow.Cmp(big.NewInt(inf)) > 0 {
		return 0
	}
	return flow.Int64() + (one-damp)/int64(vertices)
}

// plainCombine takes P10.5's words.
func plainCombine(kind uint8, a, b int64) int64 {
	switch {
	case kind == 1:
		return plainTogether(a, b)
	case kind != 2 && kind != 3:
		return 0
	case a < b:
		return a
	}
	return b
}

// plainSend takes P10.4's words: vertex by vertex of those to which something
// is sent, it puts together what goes there.
func plainSend(kind uint8, v int, value int64, changed bool, out, back []api.Edge) []api.Message {
	var all []api.Message
	switch {
	case kind == 1:
		for _, e := range out {
			given := int64(0)
			if value >= 0 {
				given = value / int64(len(out))
			}
			all = append(all, api.Message{To: e.To, Value: given})
		}
	case kind == 2 && changed:
		for _, u := range label.Near(v, out, back) {
			all = append(all, api.Message{To: u, Value: value})
		}
	case kind == 3 && changed:
		for _, e := range out {
			all = append(all, api.Message{To: e.To, Value: plainTogether(value, e.Weight)})
		}
	}
	var each []api.Message
	for _, m := range all {
		place := slices.IndexFunc(each, func(other api.Message) bool { return other.To == m.To })
		if place < 0 {
			each = append(each, m)
		} else {
			each[place].Value = plainCombine(kind, each[place].Value, m.Value)
		}
	}
	slices.SortFunc(each, func(a, b api.Message) int {
		if a.To < b.To {
			return -1
		}
		return 1
	})
	return each
}

// someOf is one of the numbers, a number not far from one, or one of any
// length from 0 on.
func someOf(rnd *rand.Rand) int64 {
	switch rnd.IntN(4) {
	case 0:
		return numbers[rnd.IntN(len(numbers))] + rnd.Int64N(2001) - 1000
	case 1:
		return int64(rnd.Uint64() >> (1 + rnd.IntN(63)))
	}
	return numbers[rnd.IntN(len(numbers))]
}

func mustCheck(t *testing.T, want api.Errno, g api.Graph, j api.Job) {
	t.Helper()
	if got := algos.Check(g, j); got != want {
		t.Errorf("Check of %d vertices, %d edges, %+v: %d, not %d", g.Vertices, len(g.Edges), j, got, want)
	}
}

func mustStart(t *testing.T, j api.Job, vertices, v int, want int64, wantChanged bool) {
	t.Helper()
	if got, changed := algos.Start(j, vertices, v); got != want || changed != wantChanged {
		t.Errorf("Start(%+v, %d, %d): %d %v, not %d %v", j, vertices, v, got, changed, want, wantChanged)
	}
}

func mustCompute(t *testing.T, j api.Job, vertices int, value int64, mail api.Mail, sum, want int64, wantChanged bool) {
	t.Helper()
	if got, changed := algos.Compute(j, vertices, value, mail, sum); got != want || changed != wantChanged {
		t.Errorf("Compute(%+v, %d, %d, %v, %d): %d %v, not %d %v", j, vertices, value, mail, sum, got, changed, want, wantChanged)
	}
}

func mustSend(t *testing.T, j api.Job, v int, value int64, changed bool, out, back []api.Edge, want []api.Message) {
	t.Helper()
	if got := algos.Send(j, v, value, changed, out, back); !slices.Equal(got, want) {
		t.Errorf("Send(%+v, %d, %d, %v, %v, %v): %v, not %v", j, v, value, changed, out, back, got, want)
	}
}

func mustCombine(t *testing.T, kind uint8, a, b, want int64) {
	t.Helper()
	if got := algos.Combine(api.Job{Kind: kind}, a, b); got != want {
		t.Errorf("Combine(%d, %d, %d): %d, not %d", kind, a, b, got, want)
	}
}

func mustPart(t *testing.T, kind uint8, was, value int64, changed bool, out []api.Edge, sum, most int64) {
	t.Helper()
	want := algos.Total{Sum: sum, Most: most}
	if got := algos.Part(api.Job{Kind: kind}, was, value, changed, out); got != want {
		t.Errorf("Part(%d, %d, %d, %v, %v): %v, not %v", kind, was, value, changed, out, got, want)
	}
}

func mustJoin(t *testing.T, kind uint8, a, b, want algos.Total) {
	t.Helper()
	if got := algos.Join(api.Job{Kind: kind}, a, b); got != want {
		t.Errorf("Join(%d, %v, %v): %v, not %v", kind, a, b, got, want)
	}
}

func mustDone(t *testing.T, j api.Job, step int, most int64, want bool) {
	t.Helper()
	if got := algos.Done(j, step, most); got != want {
		t.Errorf("Done(%+v, %d, %d): %v", j, step, most, got)
	}
}

// P10.1

func TestCheckOfJobsThatMayBe(t *testing.T) {
	mustCheck(t, api.OK, example(), ranks(5, one/2, 1))
	mustCheck(t, api.OK, example(), labels(5))
	mustCheck(t, api.OK, example(), ways(5, 2))
	mustCheck(t, api.OK, api.Graph{Vertices: 1}, ways(0, 0))
	mustCheck(t, api.OK, api.Graph{Vertices: 512}, ways(2000, 511))
}

func TestCheckOfSteps(t *testing.T) {
	for _, j := range []api.Job{ranks(0, one/2, 1), labels(0), ways(0, 2)} {
		for _, steps := range []int{0, 1, 2, 1000, 1999, 2000} {
			j.Steps = steps
			mustCheck(t, api.OK, example(), j)
		}
		for _, steps := range []int{-1, -2000, 2001, 2002, math.MinInt, math.MinInt + 1, math.MaxInt, math.MaxInt - 1} {
			j.Steps = steps
			mustCheck(t, api.ErrJob, example(), j)
		}
	}
}

func TestCheckOfRank(t *testing.T) {
	for _, n := range []int64{0, 1, one / 2, one - 1, one} {
		mustCheck(t, api.OK, example(), ranks(5, n, 1))
		mustCheck(t, api.OK, example(), ranks(5, one/2, n))
		mustCheck(t, api.OK, example(), ranks(5, n, n))
	}
	for _, n := range []int64{-1, one + 1, -one, 2 * one, inf, least, greatest} {
		mustCheck(t, api.ErrJob, example(), ranks(5, n, 1))
		mustCheck(t, api.ErrJob, example(), ranks(5, one/2, n))
	}
	for _, source := range []int{-1, 1, 3, 4, math.MinInt, math.MaxInt} {
		j := ranks(5, one/2, 1)
		j.Source = source
		mustCheck(t, api.ErrJob, example(), j)
	}
}

func TestCheckOfLabel(t *testing.T) {
	for _, n := range []int{-1, 1, 3, 4, math.MinInt, math.MaxInt} {
		mustCheck(t, api.ErrJob, example(), api.Job{Kind: 2, Steps: 5, Source: n})
		mustCheck(t, api.ErrJob, example(), api.Job{Kind: 2, Steps: 5, Damp: int64(n)})
		mustCheck(t, api.ErrJob, example(), api.Job{Kind: 2, Steps: 5, Eps: int64(n)})
	}
}

func TestCheckOfPaths(t *testing.T) {
	for source := range 4 {
		mustCheck(t, api.OK, example(), ways(5, source))
	}
	for _, source := range []int{-1, 4, 5, 511, math.MinInt, math.MaxInt} {
		mustCheck(t, api.ErrJob, example(), ways(5, source))
	}
	for _, n := range []int64{-1, 1, one, least, greatest} {
		mustCheck(t, api.ErrJob, example(), api.Job{Kind: 3, Steps: 5, Source: 2, Damp: n})
		mustCheck(t, api.ErrJob, example(), api.Job{Kind: 3, Steps: 5, Source: 2, Eps: n})
	}
}

func TestCheckOfOtherKinds(t *testing.T) {
	for j := range others {
		mustCheck(t, api.ErrJob, example(), j)
	}
}

func TestCheckTellsTheGraphsErrorFirst(t *testing.T) {
	many := make([]api.Edge, 8193)
	bad := []struct {
		g    api.Graph
		want api.Errno
	}{
		{api.Graph{}, api.ErrGraph},
		{api.Graph{Vertices: -1}, api.ErrGraph},
		{api.Graph{Vertices: 513}, api.ErrLimit},
		{api.Graph{Vertices: math.MaxInt}, api.ErrLimit},
		{api.Graph{Vertices: 4, Edges: many}, api.ErrLimit},
		{api.Graph{Vertices: 2, Edges: []api.Edge{{From: 0, To: 2}}}, api.ErrGraph},
		{api.Graph{Vertices: 2, Edges: []api.Edge{{From: 0, To: 1, Weight: -1}}}, api.ErrGraph},
		{api.Graph{Vertices: 2, Edges: []api.Edge{{From: 1, To: 0}, {From: 0, To: 1}}}, api.ErrGraph},
	}
	for _, x := range bad {
		for _, j := range []api.Job{ranks(5, one/2, 1), labels(5), ways(5, 0)} {
			mustCheck(t, x.want, x.g, j)
			j.Steps = -1
			mustCheck(t, x.want, x.g, j)
		}
		mustCheck(t, x.want, x.g, api.Job{})
		mustCheck(t, x.want, x.g, api.Job{Kind: 4})
		mustCheck(t, x.want, x.g, ways(5, 513))
	}
}

// P10.2

func TestStartOfTheExamples(t *testing.T) {
	mustStart(t, labels(5), 5, 3, 3, true)
	mustStart(t, ways(5, 2), 5, 3, inf, false)
}

func TestStartOfRank(t *testing.T) {
	for _, v := range ints {
		for _, x := range []struct {
			vertices int
			want     int64
		}{{1, one}, {2, one / 2}, {3, 1431655765}, {4, one / 4}, {512, one / 512}, {0, 0}, {-1, 0}, {math.MinInt, 0}, {math.MaxInt, 0}} {
			mustStart(t, ranks(5, one/2, 1), x.vertices, v, x.want, true)
		}
		for _, vertices := range ints {
			mustStart(t, ranks(5, 0, 0), vertices, v, rank.Start(vertices), true)
		}
	}
}

func TestStartOfLabel(t *testing.T) {
	for _, v := range ints {
		for _, vertices := range ints {
			mustStart(t, labels(5), vertices, v, int64(v), true)
		}
	}
}

func TestStartOfPaths(t *testing.T) {
	for _, v := range ints {
		for _, source := range ints {
			for _, vertices := range []int{math.MinInt, -1, 0, 1, 5, math.MaxInt} {
				if v == source {
					mustStart(t, ways(5, source), vertices, v, 0, true)
				} else {
					mustStart(t, ways(5, source), vertices, v, inf, false)
				}
			}
		}
	}
}

func TestStartOfOtherKinds(t *testing.T) {
	for j := range others {
		for _, v := range []int{-1, 0, 1, 3, math.MaxInt} {
			mustStart(t, j, 5, v, 0, false)
		}
	}
}

// P10.3

func TestComputeOfTheExample(t *testing.T) {
	mustCompute(t, ways(5, 0), 5, 9, sent(4), 0, 4, true)
}

func TestComputeOfRank(t *testing.T) {
	mustCompute(t, ranks(5, one, 0), 2, 9, sent(5), 4, 7, true)
	mustCompute(t, ranks(5, one, 0), 2, 7, sent(5), 4, 7, false)
	mustCompute(t, ranks(5, 0, 0), 2, one/2, sent(5), 4, one/2, false)
	mustCompute(t, ranks(5, 0, 0), 2, one/2+1, sent(5), 4, one/2, true)
	mustCompute(t, ranks(5, one/2, 0), 4, 0, sent(one), one, one/8+one/2+one/8, true)
}

func TestComputeOfRankGoesByAnyChangeWhateverEpsIs(t *testing.T) {
	mustCompute(t, ranks(5, one, one), 2, 6, sent(5), 4, 7, true)
	mustCompute(t, ranks(5, one, one), 2, 8, sent(5), 4, 7, true)
}

func TestComputeOfRankWithoutMail(t *testing.T) {
	for _, value := range numbers {
		mustCompute(t, ranks(5, one, 0), 2, 9, none(value), 4, 2, true)
		mustCompute(t, ranks(5, one, 0), 2, 2, none(value), 4, 2, false)
	}
}

func TestComputeOfRankWithMailBelowNought(t *testing.T) {
	for _, m := range []int64{-1, -2, -one, -inf, least + 1, least} {
		mustCompute(t, ranks(5, one, 0), 2, 9, sent(m), 4, 2, true)
		mustCompute(t, ranks(5, one, 0), 2, 2, sent(m), 4, 2, false)
	}
	mustCompute(t, ranks(5, one, 0), 2, 9, sent(0), 4, 2, true)
	mustCompute(t, ranks(5, one, 0), 2, 9, sent(1), 4, 3, true)
}

func TestComputeOfRankPastTheBounds(t *testing.T) {
	for _, vertices := range ints {
		for _, damp := range numbers {
			for _, sum := range numbers {
				for _, m := range []int64{least, -1, 0, 1, one, inf, inf + 1, greatest} {
					want := plainTake(vertices, damp, max(m, 0), sum)
					j := ranks(5, damp, 0)
					mustCompute(t, j, vertices, want, sent(m), sum, want, false)
					mustCompute(t, j, vertices, want+1, sent(m), sum, want, true)
				}
			}
		}
	}
}

func TestComputeOfRankOfDrawnNumbers(t *testing.T) {
	rnd := rand.New(rand.NewPCG(10, 3))
	for range 20000 {
		vertices, damp, value, m, sum := 1+rnd.IntN(512), someOf(rnd), someOf(rnd), someOf(rnd), someOf(rnd)
		if rnd.IntN(2) == 0 {
			damp = rnd.Int64N(one + 1)
		}
		want := plainTake(vertices, damp, max(m, 0), sum)
		mustCompute(t, ranks(5, damp, 0), vertices, value, sent(m), sum, want, want != value)
	}
}

func TestComputeOfLabel(t *testing.T) {
	mustCompute(t, labels(5), 5, 5, sent(3), 0, 3, true)
	mustCompute(t, labels(5), 5, 5, sent(5), 0, 5, false)
	mustCompute(t, labels(5), 5, 5, sent(7), 0, 5, false)
	mustCompute(t, labels(5), 5, 5, sent(-7), 0, -7, true)
	for _, value := range numbers {
		for _, m := range numbers {
			if m < value {
				mustCompute(t, labels(5), 5, value, sent(m), 1, m, true)
			} else {
				mustCompute(t, labels(5), 5, value, sent(m), 1, value, false)
			}
			mustCompute(t, labels(5), 5, value, none(m), 1, value, false)
		}
	}
}

func TestComputeOfPaths(t *testing.T) {
	mustCompute(t, ways(5, 0), 5, 5, sent(3), 0, 3, true)
	mustCompute(t, ways(5, 0), 5, 5, sent(5), 0, 5, false)
	mustCompute(t, ways(5, 0), 5, 5, sent(7), 0, 5, false)
	mustCompute(t, ways(5, 0), 5, 5, sent(-7), 0, 0, true)
	for _, value := range numbers {
		for _, m := range numbers {
			if max(m, 0) < value {
				mustCompute(t, ways(5, 2), 5, value, sent(m), 1, max(m, 0), true)
			} else {
				mustCompute(t, ways(5, 2), 5, value, sent(m), 1, value, false)
			}
			mustCompute(t, ways(5, 2), 5, value, none(m), 1, value, false)
		}
	}
}

func TestComputeOfLabelAndPathsGoesNotByVerticesNorSum(t *testing.T) {
	for _, vertices := range ints {
		for _, sum := range numbers {
			mustCompute(t, labels(5), vertices, 5, sent(3), sum, 3, true)
			mustCompute(t, ways(5, 0), vertices, 5, sent(3), sum, 3, true)
		}
	}
}

func TestComputeOfOtherKinds(t *testing.T) {
	for j := range others {
		mustCompute(t, j, 2, 9, sent(5), 4, 0, false)
		mustCompute(t, j, 2, 9, none(5), 4, 0, false)
		mustCompute(t, j, 2, 0, sent(0), 0, 0, false)
	}
}

// P10.4

func TestSendOfTheExample(t *testing.T) {
	mustSend(t, ranks(5, one, 0), 0, 8, false, edgesFrom(0, 1, 2), nil, messages(1, 4, 2, 4))
}

func TestSendOfEachKindChangedAndNot(t *testing.T) {
	out, back := edgesFrom(1, 0, 2), edgesTo(1, 3)
	mustSend(t, ranks(5, one, 0), 1, 8, true, out, back, messages(0, 4, 2, 4))
	mustSend(t, ranks(5, one, 0), 1, 8, false, out, back, messages(0, 4, 2, 4))
	mustSend(t, labels(5), 1, 8, true, out, back, messages(0, 8, 2, 8, 3, 8))
	mustSend(t, labels(5), 1, 8, false, out, back, nil)
	mustSend(t, ways(5, 1), 1, 8, true, out, back, messages(0, 9, 2, 10))
	mustSend(t, ways(5, 1), 1, 8, false, out, back, nil)
}

func TestSendWithoutEdges(t *testing.T) {
	for _, kind := range kinds {
		for _, changed := range []bool{false, true} {
			mustSend(t, api.Job{Kind: kind}, 0, 8, changed, nil, nil, nil)
			mustSend(t, api.Job{Kind: kind}, 0, 8, changed, []api.Edge{}, []api.Edge{}, nil)
		}
	}
	mustSend(t, ranks(5, one, 0), 0, 8, true, nil, edgesTo(0, 1, 2), nil)
	mustSend(t, ways(5, 0), 0, 8, true, nil, edgesTo(0, 1, 2), nil)
	mustSend(t, labels(5), 0, 8, true, nil, edgesTo(0, 1, 2), messages(1, 8, 2, 8))
	mustSend(t, labels(5), 0, 8, true, edgesFrom(0, 1, 2), nil, messages(1, 8, 2, 8))
}

func TestSendIsRisingWhateverTheEdgesOrder(t *testing.T) {
	mustSend(t, ranks(5, one, 0), 4, 9, true, edgesFrom(4, 7, 3, 1), nil, messages(1, 3, 3, 3, 7, 3))
	mustSend(t, labels(5), 4, 9, true, edgesFrom(4, 7, 3), edgesTo(4, 8, 1), messages(1, 9, 3, 9, 7, 9, 8, 9))
	mustSend(t, ways(5, 4), 4, 9, true, edgesFrom(4, 7, 3, 1), nil, messages(1, 12, 3, 11, 7, 10))
	ends := edgesFrom(0, math.MaxInt, math.MinInt, 0, -1)
	mustSend(t, ways(5, 4), 4, 0, true, ends, nil, messages(math.MinInt, 2, -1, 4, 0, 3, math.MaxInt, 1))
}

func TestSendOfManyEdgesToOneVertex(t *testing.T) {
	out := edgesFrom(0, 2, 1, 2, 3, 1, 2)
	mustSend(t, ranks(5, one, 0), 0, 60, true, out, nil, messages(1, 20, 2, 30, 3, 10))
	mustSend(t, ranks(5, one, 0), 0, 65, true, out, nil, messages(1, 20, 2, 30, 3, 10))
	mustSend(t, labels(5), 0, 60, true, out, nil, messages(1, 60, 2, 60, 3, 60))
	mustSend(t, ways(5, 0), 0, 60, true, out, nil, messages(1, 62, 2, 61, 3, 64))
	falling := []api.Edge{{From: 0, To: 1, Weight: 9}, {From: 0, To: 1, Weight: 2}, {From: 0, To: 1, Weight: 5}}
	mustSend(t, ways(5, 0), 0, 60, true, falling, nil, messages(1, 62))
}

func TestSendOfRankAtTheBounds(t *testing.T) {
	for _, value := range []int64{-1, -2, -inf, least + 1, least} {
		mustSend(t, ranks(5, one, 0), 0, value, true, edgesFrom(0, 1), nil, messages(1, 0))
		mustSend(t, ranks(5, one, 0), 0, value, true, edgesFrom(0, 1, 2), nil, messages(1, 0, 2, 0))
		mustSend(t, ranks(5, one, 0), 0, value, true, edgesFrom(0, 1, 1), nil, messages(1, 0))
	}
	mustSend(t, ranks(5, one, 0), 0, 0, true, edgesFrom(0, 1, 2), nil, messages(1, 0, 2, 0))
	mustSend(t, ranks(5, one, 0), 0, 1, true, edgesFrom(0, 1, 2), nil, messages(1, 0, 2, 0))
	for _, value := range []int64{inf - 1, inf, inf + 1, greatest} {
		mustSend(t, ranks(5, one, 0), 0, value, true, edgesFrom(0, 1), nil, messages(1, value))
		mustSend(t, ranks(5, one, 0), 0, value, true, edgesFrom(0, 2, 1), nil, messages(1, value/2, 2, value/2))
	}
	// Only where two go to one vertex are they put together, and are not above Inf.
	mustSend(t, ranks(5, one, 0), 0, greatest, true, edgesFrom(0, 1, 1, 2), nil, messages(1, inf, 2, greatest/3))
	mustSend(t, ranks(5, one, 0), 0, inf, true, edgesFrom(0, 1, 1), nil, messages(1, inf))
	mustSend(t, ranks(5, one, 0), 0, inf-1, true, edgesFrom(0, 1, 1), nil, messages(1, inf-2))
}

func TestSendOfLabelToNeighbours(t *testing.T) {
	// Both ways, to itself, and to the same one by both.
	out, back := edgesFrom(1, 1, 3, 5), edgesTo(1, 0, 1, 3)
	mustSend(t, labels(5), 1, 7, true, out, back, messages(0, 7, 3, 7, 5, 7))
	mustSend(t, labels(5), 1, 7, true, edgesFrom(1, 1), edgesTo(1, 1), nil)
	for _, value := range numbers {
		mustSend(t, labels(5), 1, value, true, out, back, messages(0, value, 3, value, 5, value))
	}
}

func TestSendToItself(t *testing.T) {
	mustSend(t, ranks(5, one, 0), 1, 8, false, edgesFrom(1, 1, 2), nil, messages(1, 4, 2, 4))
	mustSend(t, ways(5, 1), 1, 8, true, edgesFrom(1, 1, 2), nil, messages(1, 9, 2, 10))
}

func TestSendOfPathsAtTheBounds(t *testing.T) {
	heavy := []api.Edge{{From: 0, To: 1, Weight: heaviest}, {From: 0, To: 2, Weight: 0}}
	mustSend(t, ways(5, 0), 0, inf, true, heavy, nil, messages(1, inf, 2, inf))
	mustSend(t, ways(5, 0), 0, inf+1, true, heavy, nil, messages(1, inf, 2, inf))
	mustSend(t, ways(5, 0), 0, greatest, true, heavy, nil, messages(1, inf, 2, inf))
	mustSend(t, ways(5, 0), 0, inf-heaviest, true, heavy, nil, messages(1, inf, 2, inf-heaviest))
	mustSend(t, ways(5, 0), 0, inf-heaviest+1, true, heavy, nil, messages(1, inf, 2, inf-heaviest+1))
	mustSend(t, ways(5, 0), 0, inf-heaviest-1, true, heavy, nil, messages(1, inf-1, 2, inf-heaviest-1))
	for _, value := range []int64{-1, -inf, least} {
		mustSend(t, ways(5, 0), 0, value, true, heavy, nil, messages(1, heaviest, 2, 0))
	}
	mustSend(t, ways(5, 0), 0, 3, true, []api.Edge{{From: 0, To: 1, Weight: inf}, {From: 0, To: 2, Weight: greatest}, {From: 0, To: 3, Weight: least}}, nil, messages(1, inf, 2, inf, 3, 3))
}

func TestSendOfEdgesFromOtherVertices(t *testing.T) {
	out, back := edgesFrom(9, 3, 2), []api.Edge{{From: 4, To: 9}, {From: 2, To: 0}}
	mustSend(t, ranks(5, one, 0), 1, 8, true, out, back, messages(2, 4, 3, 4))
	mustSend(t, labels(5), 1, 8, true, out, back, messages(2, 8, 3, 8, 4, 8))
	mustSend(t, ways(5, 1), 1, 8, true, out, back, messages(2, 10, 3, 9))
}

func TestSendOfOtherKinds(t *testing.T) {
	for j := range others {
		for _, changed := range []bool{false, true} {
			if got := algos.Send(j, 1, 8, changed, edgesFrom(1, 2, 3), edgesTo(1, 4)); len(got) != 0 {
				t.Errorf("Send of the kind %d: %v", j.Kind, got)
			}
		}
	}
}

// someEdges are up to so many edges between few vertices.
func someEdges(rnd *rand.Rand, most int) []api.Edge {
	l := make([]api.Edge, rnd.IntN(most+1))
	for i := range l {
		l[i] = api.Edge{From: rnd.IntN(8), To: rnd.IntN(8), Weight: someOf(rnd)}
	}
	return l
}

func TestSendOfDrawnEdges(t *testing.T) {
	rnd := rand.New(rand.NewPCG(10, 4))
	for range 20000 {
		kind, v, value, changed := kinds[rnd.IntN(3)], rnd.IntN(8), someOf(rnd), rnd.IntN(3) > 0
		out, back := someEdges(rnd, 12), someEdges(rnd, 12)
		mustSend(t, api.Job{Kind: kind}, v, value, changed, out, back, plainSend(kind, v, value, changed, out, back))
	}
}

func TestSendOfManyDrawnEdges(t *testing.T) {
	rnd := rand.New(rand.NewPCG(10, 5))
	for _, kind := range kinds {
		var out []api.Edge
		for range 5000 {
			out = append(out, api.Edge{From: 0, To: rnd.IntN(512), Weight: rnd.Int64N(heaviest)})
		}
		mustSend(t, api.Job{Kind: kind}, 0, one, true, out, out, plainSend(kind, 0, one, true, out, out))
	}
}

// P10.5

func TestCombineOfOrdinaryNumbers(t *testing.T) {
	mustCombine(t, 1, 3, 4, 7)
	mustCombine(t, 2, 3, 4, 3)
	mustCombine(t, 3, 4, 3, 3)
	mustCombine(t, 1, inf-1, 5, inf)
	mustCombine(t, 1, -3, 4, 4)
	mustCombine(t, 2, -3, 4, -3)
	mustCombine(t, 3, -3, 4, -3)
	mustCombine(t, 2, greatest, inf, inf)
	mustCombine(t, 3, greatest, greatest, greatest)
}

func TestCombineOfEachWithEach(t *testing.T) {
	for _, a := range numbers {
		for _, b := range numbers {
			mustCombine(t, 1, a, b, plainTogether(a, b))
			mustCombine(t, 2, a, b, min(a, b))
			mustCombine(t, 3, a, b, min(a, b))
		}
	}
}

func TestCombineOfOtherKinds(t *testing.T) {
	for j := range others {
		for _, a := range numbers {
			if got := algos.Combine(j, a, 3); got != 0 {
				t.Errorf("Combine of the kind %d: %d", j.Kind, got)
			}
		}
	}
}

// P10.6

func TestPartOfRank(t *testing.T) {
	out := edgesFrom(0, 1)
	for _, changed := range []bool{false, true} {
		mustPart(t, 1, 2, 9, changed, nil, 9, 7)
		mustPart(t, 1, 2, 9, changed, []api.Edge{}, 9, 7)
		mustPart(t, 1, 2, 9, changed, out, 0, 7)
		mustPart(t, 1, 9, 2, changed, nil, 2, 7)
		mustPart(t, 1, 9, 9, changed, nil, 9, 0)
		mustPart(t, 1, 9, 0, changed, nil, 0, 9)
		mustPart(t, 1, 9, -5, changed, nil, 0, 9)
		mustPart(t, 1, 9, -5, changed, out, 0, 9)
	}
}

func TestPartOfRankAtTheBounds(t *testing.T) {
	for _, was := range numbers {
		for _, value := range numbers {
			for _, changed := range []bool{false, true} {
				apart := plainApart(was, value)
				mustPart(t, 1, was, value, changed, nil, max(value, 0), apart)
				mustPart(t, 1, was, value, changed, edgesFrom(0, 1, 2), 0, apart)
			}
		}
	}
}

func TestPartOfLabelAndPaths(t *testing.T) {
	for _, kind := range []uint8{2, 3} {
		for _, was := range numbers {
			for _, value := range numbers {
				for _, out := range [][]api.Edge{nil, edgesFrom(0, 1)} {
					mustPart(t, kind, was, value, true, out, 0, 1)
					mustPart(t, kind, was, value, false, out, 0, 0)
				}
			}
		}
	}
}

func TestPartOfOtherKinds(t *testing.T) {
	for j := range others {
		for _, changed := range []bool{false, true} {
			if got := algos.Part(j, 2, 9, changed, nil); got != (algos.Total{}) {
				t.Errorf("Part of the kind %d: %v", j.Kind, got)
			}
		}
	}
}

// P10.7

func TestJoinOfOrdinaryTotals(t *testing.T) {
	mustJoin(t, 1, algos.Total{Sum: 3, Most: 4}, algos.Total{Sum: 5, Most: 7}, algos.Total{Sum: 8, Most: 7})
	mustJoin(t, 1, algos.Total{Sum: 3, Most: 7}, algos.Total{Sum: 5, Most: 4}, algos.Total{Sum: 8, Most: 7})
	mustJoin(t, 2, algos.Total{Sum: 3, Most: 4}, algos.Total{Sum: 5, Most: 7}, algos.Total{Sum: 8, Most: 11})
	mustJoin(t, 3, algos.Total{Sum: 3, Most: 4}, algos.Total{Sum: 5, Most: 7}, algos.Total{Sum: 8, Most: 11})
	for _, kind := range kinds {
		mustJoin(t, kind, algos.Total{}, algos.Total{}, algos.Total{})
	}
}

func TestJoinOfEachWithEach(t *testing.T) {
	for _, kind := range kinds {
		for _, a := range numbers {
			for _, b := range numbers {
				most := plainTogether(a, b)
				if kind == 1 {
					most = max(a, b)
				}
				mustJoin(t, kind, algos.Total{Sum: a}, algos.Total{Sum: b}, algos.Total{Sum: plainTogether(a, b)})
				mustJoin(t, kind, algos.Total{Most: a}, algos.Total{Most: b}, algos.Total{Most: most})
				mustJoin(t, kind, algos.Total{Sum: b, Most: a}, algos.Total{Sum: a, Most: b}, algos.Total{Sum: plainTogether(a, b), Most: most})
			}
		}
	}
}

func TestJoinOfOtherKinds(t *testing.T) {
	for j := range others {
		if got := algos.Join(j, algos.Total{Sum: 3, Most: 4}, algos.Total{Sum: 5, Most: 7}); got != (algos.Total{}) {
			t.Errorf("Join of the kind %d: %v", j.Kind, got)
		}
	}
}

// P10.8

func TestDoneOfTheExamples(t *testing.T) {
	for _, j := range []api.Job{ranks(5, one, 0), labels(5), ways(5, 0)} {
		mustDone(t, j, 5, 9, true)
		mustDone(t, j, 0, 0, false)
		mustDone(t, j, 1, 0, true)
	}
}

func TestDoneBySteps(t *testing.T) {
	for _, kind := range kinds {
		for _, steps := range []int{0, 1, 2, 5, 2000} {
			j := api.Job{Kind: kind, Steps: steps}
			for _, step := range []int{math.MinInt, -1, 0, 1, steps - 1, steps, steps + 1, 2000, math.MaxInt} {
				mustDone(t, j, step, 9, step >= steps)
				mustDone(t, j, step, greatest, step >= steps)
			}
		}
	}
}

func TestDoneOfNoSteps(t *testing.T) {
	for _, kind := range kinds {
		mustDone(t, api.Job{Kind: kind}, 0, 9, true)
		mustDone(t, api.Job{Kind: kind}, 0, 0, true)
		mustDone(t, api.Job{Kind: kind}, -1, 0, false)
		mustDone(t, api.Job{Kind: kind, Steps: -3}, -3, 9, true)
		mustDone(t, api.Job{Kind: kind, Steps: -3}, -4, 0, false)
	}
}

func TestDoneOfRankByHowMuchHasChanged(t *testing.T) {
	for _, eps := range []int64{least, -1, 0, 1, 7, one, greatest} {
		for _, most := range append([]int64{-1, 0, 1, eps - 1, eps, eps + 1}, numbers...) {
			for _, step := range []int{1, 2, 4} {
				mustDone(t, ranks(5, one, eps), step, most, most <= eps)
			}
			for _, step := range []int{math.MinInt, -1, 0} {
				mustDone(t, ranks(5, one, eps), step, most, false)
			}
		}
	}
}

func TestDoneOfLabelAndPathsGoesNotByEps(t *testing.T) {
	for _, kind := range []uint8{2, 3} {
		for _, eps := range []int64{least, -1, 0, 1, 7, one, greatest} {
			j := api.Job{Kind: kind, Steps: 5, Eps: eps}
			for _, most := range append([]int64{-1, 0, 1, eps - 1, eps, eps + 1}, numbers...) {
				for _, step := range []int{1, 2, 4} {
					mustDone(t, j, step, most, most <= 0)
				}
				mustDone(t, j, 0, most, false)
				mustDone(t, j, -1, most, false)
			}
		}
	}
}

func TestDoneOfOtherKinds(t *testing.T) {
	for j := range others {
		for _, step := range []int{-1, 0, 1, 4, 5, 6} {
			for _, most := range []int64{-1, 0, 1, 9} {
				mustDone(t, j, step, most, false)
			}
		}
	}
}

// P10.9

// withSpare is a list with more behind its length, and all of its memory.
func withSpare(l []api.Edge) (list, all []api.Edge) {
	all = append(slices.Clone(l), api.Edge{From: 71, To: 72, Weight: 73}, api.Edge{From: 81, To: 82, Weight: 83})
	return all[:len(l)], all
}

func TestSendAndPartOnlyRead(t *testing.T) {
	for _, kind := range kinds {
		j := api.Job{Kind: kind}
		out, outAll := withSpare(edgesFrom(1, 7, 3, 7, 1, 2))
		back, backAll := withSpare(edgesTo(1, 9, 3, 9, 1, 0))
		outWas, backWas := slices.Clone(outAll), slices.Clone(backAll)
		algos.Send(j, 1, 60, true, out, back)
		algos.Part(j, 2, 9, true, out)
		algos.Part(j, 2, 9, true, out[:0])
		if !slices.Equal(outAll, outWas) || !slices.Equal(backAll, backWas) {
			t.Errorf("kind %d: %v, %v", kind, outAll, backAll)
		}
	}
}

func TestCheckOnlyReads(t *testing.T) {
	g := example()
	algos.Check(g, labels(5))
	if !slices.Equal(g.Edges, example().Edges) || g.Vertices != 4 {
		t.Errorf("%v", g)
	}
}

func TestSendAnswersNewMemory(t *testing.T) {
	for _, kind := range kinds {
		j := api.Job{Kind: kind}
		out, back := edgesFrom(1, 7, 3, 2), edgesTo(1, 9, 3, 0)
		outWas, backWas := slices.Clone(out), slices.Clone(back)
		first, second := algos.Send(j, 1, 60, true, out, back), algos.Send(j, 1, 60, true, out, back)
		want := slices.Clone(second)
		for i := range first[:cap(first)] {
			first[:cap(first)][i] = api.Message{To: 99, Value: 99}
		}
		if !slices.Equal(second, want) || !slices.Equal(out, outWas) || !slices.Equal(back, backWas) {
			t.Errorf("kind %d: %v, %v, %v", kind, second, out, back)
		}
		mustSend(t, j, 1, 60, true, out, back, want)
	}
}

func TestSendKeepsNothing(t *testing.T) {
	for _, kind := range kinds {
		j := api.Job{Kind: kind}
		out, back := edgesFrom(1, 7, 3, 2), edgesTo(1, 9, 3, 0)
		got := algos.Send(j, 1, 60, true, out, back)
		want := slices.Clone(got)
		for i := range out {
			out[i], back[i] = api.Edge{}, api.Edge{}
		}
		if !slices.Equal(got, want) {
			t.Errorf("kind %d: %v, not %v", kind, got, want)
		}
	}
}

// P10.10

// fromNought is a drawn number from 0 on, now and then past Inf.
func fromNought(rnd *rand.Rand) int64 {
	n := someOf(rnd)
	if n < 0 {
		return rnd.Int64()
	}
	return n
}

func TestCombineEitherWayRoundAndOfThree(t *testing.T) {
	rnd := rand.New(rand.NewPCG(10, 10))
	for range 20000 {
		a, b, c := fromNought(rnd), fromNought(rnd), fromNought(rnd)
		for _, kind := range kinds {
			j := api.Job{Kind: kind}
			if algos.Combine(j, a, b) != algos.Combine(j, b, a) {
				t.Fatalf("Combine(%d, %d, %d) the other way round", kind, a, b)
			}
			if algos.Combine(j, algos.Combine(j, a, b), c) != algos.Combine(j, a, algos.Combine(j, b, c)) {
				t.Fatalf("Combine(%d) of %d, %d, %d", kind, a, b, c)
			}
		}
	}
}

func TestJoinEitherWayRoundAndOfThree(t *testing.T) {
	rnd := rand.New(rand.NewPCG(10, 11))
	some := func() algos.Total { return algos.Total{Sum: fromNought(rnd), Most: fromNought(rnd)} }
	for range 20000 {
		a, b, c := some(), some(), some()
		for _, kind := range kinds {
			j := api.Job{Kind: kind}
			if algos.Join(j, a, b) != algos.Join(j, b, a) {
				t.Fatalf("Join(%d, %v, %v) the other way round", kind, a, b)
			}
			if algos.Join(j, algos.Join(j, a, b), c) != algos.Join(j, a, algos.Join(j, b, c)) {
				t.Fatalf("Join(%d) of %v, %v, %v", kind, a, b, c)
			}
		}
	}
}

// The layers below are called for what they say.

func TestTheLayersBelowSayTheSame(t *testing.T) {
	rnd := rand.New(rand.NewPCG(10, 12))
	for range 5000 {
		vertices, v, value, m, sum := rnd.IntN(514), rnd.IntN(512), someOf(rnd), someOf(rnd), someOf(rnd)
		j := ranks(5, rnd.Int64N(one+1), 0)
		next := rank.Take(vertices, j.Damp, max(m, 0), sum)
		mustCompute(t, j, vertices, value, sent(m), sum, next, next != value)
		nextLabel, isOther := label.Take(value, sent(m))
		mustCompute(t, labels(5), vertices, value, sent(m), sum, nextLabel, isOther)
		nextPath, isLess := paths.Take(value, sent(m))
		mustCompute(t, ways(5, 0), vertices, value, sent(m), sum, nextPath, isLess)
		mustStart(t, ways(5, 7), vertices, v, paths.Start(v, 7), v == 7)
		mustCombine(t, 1, value, m, fixed.Add(value, m))
	}
}
