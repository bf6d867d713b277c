package paths_test

import (
	"math"
	"math/big"
	"math/rand/v2"
	"slices"
	"testing"

	"treadwheel/api"
	"treadwheel/paths"
)

const (
	inf      int64 = 4611686018427387904
	heaviest int64 = 1<<31 - 1
	greatest int64 = math.MaxInt64
	least    int64 = math.MinInt64
)

// numbers are distances, and others, rising.
var numbers = []int64{
	least, least + 1, -inf - 1, -inf, -inf + 1, -2, -1,
	0, 1, 2, 3, 4, 5, 1 << 31, inf / 2, inf/2 + 1, inf - 2, inf - 1, inf, inf + 1, greatest - 1, greatest,
}

// graphOf makes a graph of rows of From, To and Weight.
func graphOf(vertices int, rows ...[3]int64) api.Graph {
	g := api.Graph{Vertices: vertices}
	for _, r := range rows {
		g.Edges = append(g.Edges, api.Edge{From: int(r[0]), To: int(r[1]), Weight: r[2]})
	}
	return g
}

// example is the chapter's graph.
func example() api.Graph {
	return graphOf(4, [3]int64{0, 1, 4}, [3]int64{0, 2, 1}, [3]int64{2, 1, 2})
}

func sent(value int64) api.Mail { return api.Mail{Has: true, Value: value} }

// none is no mail: whatever stands in it, nothing was sent.
func none(value int64) api.Mail { return api.Mail{Value: value} }

func weighing(weight int64) api.Edge { return api.Edge{From: 0, To: 1, Weight: weight} }

// with tells a row with another value in one place.
func with(row []int64, place int, value int64) []int64 {
	other := slices.Clone(row)
	other[place] = value
	return other
}

func same(n int, value int64) []int64 { return slices.Repeat([]int64{value}, n) }

// plainTogether takes chapter 5's words on big numbers.
func plainTogether(a, b int64) int64 {
	a, b = min(max(a, 0), inf), min(max(b, 0), inf)
	sum := new(big.Int).Add(big.NewInt(a), big.NewInt(b))
	if sum.Cmp(big.NewInt(inf)) > 0 {
		return inf
	}
	return sum.Int64()
}

// plainMayBe takes chapter 4's words one by one.
func plainMayBe(g api.Graph) bool {
	if g.Vertices < 1 || g.Vertices > 512 || len(g.Edges) > 8192 {
		return false
	}
	for i, e := range g.Edges {
		if e.From < 0 || e.From >= g.Vertices || e.To < 0 || e.To >= g.Vertices || e.Weight < 0 || e.Weight > heaviest {
			return false
		}
		if i > 0 && 1000*g.Edges[i-1].From+g.Edges[i-1].To >= 1000*e.From+e.To {
			return false
		}
	}
	return true
}

// plainTight takes the document's words one by one.
func plainTight(g api.Graph, source int, row []int64) bool {
	if !plainMayBe(g) || source < 0 || source >= g.Vertices || len(row) != g.Vertices {
		return false
	}
	for _, value := range row {
		if value < 0 || value > inf {
			return false
		}
	}
	if row[source] != 0 {
		return false
	}
	for _, e := range g.Edges {
		if row[e.To] > plainTogether(row[e.From], e.Weight) {
			return false
		}
	}
	for v, value := range row {
		if v != source && value != inf && !plainReached(g, source, v, row, nil) {
			return false
		}
	}
	return true
}

// plainReached goes back from a vertex, by edges that give just its value, till
// the source; passed are those at which it was already.
func plainReached(g api.Graph, source, v int, row []int64, passed []int) bool {
	if v == source {
		return true
	}
	for _, e := range g.Edges {
		if e.To != v || e.From == v || slices.Contains(passed, e.From) {
			continue
		}
		if plainTogether(row[e.From], e.Weight) == row[v] && plainReached(g, source, e.From, row, append(slices.Clone(passed), v)) {
			return true
		}
	}
	return false
}

// plainDistances goes along all paths from the source on which no vertex is
// twice, and tells the least weights; for small graphs.
func plainDistances(g api.Graph, source int) []int64 {
	far := same(g.Vertices, inf)
	var walk func(v int, weight int64, passed []int)
	walk = func(v int, weight int64, passed []int) {
		far[v] = min(far[v], weight)
		for _, e := range g.Edges {
			if e.From == v && e.To != v && !slices.Contains(passed, e.To) {
				walk(e.To, weight+e.Weight, append(slices.Clone(passed), v))
			}
		}
	}
	walk(source, 0, nil)
	return far
}

// leastWeights tells the least weights of paths; for great graphs. What leads
// from a vertex is gone along anew whenever a lighter path to it is found.
func leastWeights(g api.Graph, source int) []int64 {
	out := make([][]api.Edge, g.Vertices)
	for _, e := range g.Edges {
		out[e.From] = append(out[e.From], e)
	}
	far := same(g.Vertices, inf)
	far[source] = 0
	for waiting := []int{source}; len(waiting) > 0; waiting = waiting[1:] {
		v := waiting[0]
		for _, e := range out[v] {
			if far[v]+e.Weight < far[e.To] {
				far[e.To] = far[v] + e.Weight
				waiting = append(waiting, e.To)
			}
		}
	}
	return far
}

// drawn is a graph of up to so many vertices, of light edges.
func drawn(rnd *rand.Rand, most int, weights int64) api.Graph {
	g := api.Graph{Vertices: 1 + rnd.IntN(most)}
	share := rnd.Float64()
	for from := range g.Vertices {
		for to := range g.Vertices {
			if rnd.Float64() < share {
				g.Edges = append(g.Edges, api.Edge{From: from, To: to, Weight: rnd.Int64N(weights)})
			}
		}
	}
	return g
}

// allRows hands out each row of so many numbers out of those that are there.
func allRows(length int, of []int64) func(func([]int64) bool) {
	return func(yield func([]int64) bool) {
		places := make([]int, length)
		row := same(length, of[0])
		for yield(row) {
			i := 0
			for i < length && places[i] == len(of)-1 {
				places[i], row[i] = 0, of[0]
				i++
			}
			if i == length {
				return
			}
			places[i]++
			row[i] = of[places[i]]
		}
	}
}

func mustStart(t *testing.T, v, source int, want int64) {
	t.Helper()
	if got := paths.Start(v, source); got != want {
		t.Errorf("Start(%d, %d): %d, not %d", v, source, got, want)
	}
}

func mustGive(t *testing.T, value int64, e api.Edge, want int64) {
	t.Helper()
	if got := paths.Give(value, e); got != want {
		t.Errorf("Give(%d, %v): %d, not %d", value, e, got, want)
	}
}

func mustTake(t *testing.T, value int64, mail api.Mail, want int64, wantLess bool) {
	t.Helper()
	if got, less := paths.Take(value, mail); got != want || less != wantLess {
		t.Errorf("Take(%d, %v): %d %v, not %d %v", value, mail, got, less, want, wantLess)
	}
}

func mustTight(t *testing.T, want bool, g api.Graph, source int, row ...int64) {
	t.Helper()
	if got := paths.Tight(g, source, row); got != want {
		if g.Vertices > 8 {
			t.Errorf("Tight of %d vertices, %d edges, from %d: %v", g.Vertices, len(g.Edges), source, got)
		} else {
			t.Errorf("Tight(%v, %d, %v): %v", g, source, row, got)
		}
	}
}

// P9.1

func TestStartOfTheSource(t *testing.T) {
	for _, v := range []int{math.MinInt, math.MinInt + 1, -2, -1, 0, 1, 2, 511, 512, math.MaxInt - 1, math.MaxInt} {
		mustStart(t, v, v, 0)
	}
}

func TestStartOfOtherVertices(t *testing.T) {
	all := []int{math.MinInt, math.MinInt + 1, -2, -1, 0, 1, 2, 511, 512, 1 << 32, math.MaxInt - 1, math.MaxInt}
	for i, v := range all {
		for k, source := range all {
			if i != k {
				mustStart(t, v, source, inf)
			}
		}
	}
}

// P9.2

func TestGiveOfTheExamples(t *testing.T) {
	mustGive(t, inf, weighing(4), inf)
	mustGive(t, 2, weighing(4), 6)
}

func TestGiveOfDistances(t *testing.T) {
	mustGive(t, 0, weighing(0), 0)
	mustGive(t, 5, weighing(0), 5)
	mustGive(t, 0, weighing(5), 5)
	mustGive(t, 7, weighing(heaviest), 7+heaviest)
	mustGive(t, inf-5, weighing(4), inf-1)
	mustGive(t, inf-5, weighing(5), inf)
	mustGive(t, inf-5, weighing(6), inf)
	mustGive(t, inf, weighing(0), inf)
	mustGive(t, inf, weighing(inf), inf)
}

func TestGiveOfWhatIsNoDistance(t *testing.T) {
	mustGive(t, -1, weighing(4), 4)
	mustGive(t, 4, weighing(-1), 4)
	mustGive(t, -1, weighing(-1), 0)
	mustGive(t, least, weighing(least), 0)
	mustGive(t, greatest, weighing(1), inf)
	mustGive(t, greatest, weighing(greatest), inf)
	mustGive(t, greatest, weighing(least), inf)
	mustGive(t, least, weighing(greatest), inf)
	mustGive(t, inf+1, weighing(-2), inf)
}

func TestGiveOfEachWithEach(t *testing.T) {
	for _, value := range numbers {
		for _, weight := range numbers {
			mustGive(t, value, weighing(weight), plainTogether(value, weight))
		}
	}
}

func TestGiveDoesNotGoByWhereTheEdgeLeads(t *testing.T) {
	for _, ends := range [][2]int{{0, 0}, {1, 0}, {-1, 5}, {math.MaxInt, math.MinInt}} {
		mustGive(t, 2, api.Edge{From: ends[0], To: ends[1], Weight: 4}, 6)
	}
}

// P9.3

func TestTakeOfTheExamples(t *testing.T) {
	mustTake(t, 5, sent(3), 3, true)
	mustTake(t, 5, api.Mail{}, 5, false)
}

func TestTakeWithoutMailWhateverStandsInIt(t *testing.T) {
	for _, value := range numbers {
		for _, m := range numbers {
			mustTake(t, value, none(m), value, false)
		}
	}
}

func TestTakeOfLessTheSameAndMore(t *testing.T) {
	for _, value := range []int64{1, 2, 5, heaviest, inf - 1, inf, inf + 1, greatest - 1} {
		mustTake(t, value, sent(value-1), value-1, true)
		mustTake(t, value, sent(value), value, false)
		mustTake(t, value, sent(value+1), value, false)
	}
	mustTake(t, 0, sent(0), 0, false)
	mustTake(t, 0, sent(1), 0, false)
	mustTake(t, greatest, sent(0), 0, true)
	mustTake(t, greatest, sent(greatest-1), greatest-1, true)
	mustTake(t, greatest, sent(greatest), greatest, false)
}

func TestTakeOfMailBelowNought(t *testing.T) {
	for _, m := range []int64{-1, -2, -inf, least + 1, least} {
		mustTake(t, 0, sent(m), 0, false)
		for _, value := range []int64{1, 2, inf - 1, inf, inf + 1, greatest} {
			mustTake(t, value, sent(m), 0, true)
		}
		for _, value := range []int64{-1, -2, -inf, least + 1, least} {
			mustTake(t, value, sent(m), value, false)
		}
	}
}

func TestTakeOfValuesBelowNought(t *testing.T) {
	for _, value := range []int64{-1, -2, -inf, least + 1, least} {
		for _, m := range numbers {
			mustTake(t, value, sent(m), value, false)
			mustTake(t, value, none(m), value, false)
		}
	}
}

func TestTakeOfEachWithEach(t *testing.T) {
	for _, value := range numbers {
		for _, m := range numbers {
			counted := m
			if m < 0 {
				counted = 0
			}
			if counted < value {
				mustTake(t, value, sent(m), counted, true)
			} else {
				mustTake(t, value, sent(m), value, false)
			}
		}
	}
}

// P9.4

func TestTightOfTheExamples(t *testing.T) {
	mustTight(t, true, example(), 0, 0, 3, 1, inf)
	mustTight(t, false, example(), 0, 0, 4, 1, inf)
	mustTight(t, false, example(), 0, 0, 2, 1, inf)
	mustTight(t, false, example(), 0, 0, 3, 1, 7)
}

func TestTightFromEachSource(t *testing.T) {
	mustTight(t, true, example(), 1, inf, 0, inf, inf)
	mustTight(t, true, example(), 2, inf, 2, 0, inf)
	mustTight(t, true, example(), 3, inf, inf, inf, 0)
	for source := 1; source < 4; source++ {
		mustTight(t, false, example(), source, 0, 3, 1, inf)
	}
}

func TestTightOfOneVertex(t *testing.T) {
	for _, g := range []api.Graph{graphOf(1), graphOf(1, [3]int64{0, 0, 0}), graphOf(1, [3]int64{0, 0, 5})} {
		for _, value := range numbers {
			mustTight(t, value == 0, g, 0, value)
		}
	}
}

func TestTightOfVerticesWithoutEdges(t *testing.T) {
	mustTight(t, true, graphOf(3), 1, inf, 0, inf)
	mustTight(t, false, graphOf(3), 1, 0, 0, inf)
	mustTight(t, false, graphOf(3), 1, inf, 0, 1)
	mustTight(t, false, graphOf(3), 1, inf, inf, inf)
	mustTight(t, false, graphOf(3), 1, 0, 0, 0)
}

func TestTightOfGraphsThatMayNotBe(t *testing.T) {
	bad := map[string]api.Graph{
		"nothing":               {},
		"vertices below 0":      {Vertices: -1},
		"the least vertices":    {Vertices: math.MinInt},
		"an edge to none":       graphOf(2, [3]int64{0, 1, 1}, [3]int64{0, 2, 1}),
		"an edge from none":     graphOf(2, [3]int64{0, 1, 1}, [3]int64{2, 1, 1}),
		"an edge from below 0":  graphOf(2, [3]int64{-1, 1, 1}, [3]int64{0, 1, 1}),
		"an edge to below 0":    graphOf(2, [3]int64{0, -1, 1}, [3]int64{0, 1, 1}),
		"edges that fall":       graphOf(2, [3]int64{1, 0, 1}, [3]int64{0, 1, 1}),
		"edges that fall by To": graphOf(2, [3]int64{0, 1, 1}, [3]int64{0, 0, 1}),
		"an edge twice":         graphOf(2, [3]int64{0, 1, 1}, [3]int64{0, 1, 1}),
		"a pair twice":          graphOf(2, [3]int64{0, 1, 1}, [3]int64{0, 1, 2}),
		"a weight below 0":      graphOf(2, [3]int64{0, 1, 1}, [3]int64{1, 1, -1}),
		"a weight too great":    graphOf(2, [3]int64{0, 1, 1}, [3]int64{1, 0, 1 << 31}),
		"the greatest weight":   graphOf(2, [3]int64{0, 1, 1}, [3]int64{1, 1, greatest}),
	}
	for what, g := range bad {
		for _, row := range [][]int64{nil, {0}, {0, 1}, {0, 1, inf}, {0, 1, 1}} {
			if paths.Tight(g, 0, row) {
				t.Errorf("Tight of %s, %v", what, row)
			}
		}
	}
	mustTight(t, true, graphOf(2, [3]int64{0, 1, 1}), 0, 0, 1)
	mustTight(t, true, graphOf(2, [3]int64{0, 1, 1}, [3]int64{1, 0, heaviest}), 0, 0, 1)
}

func TestTightOfGraphsPastTheLimits(t *testing.T) {
	mustTight(t, true, graphOf(512), 0, with(same(512, inf), 0, 0)...)
	mustTight(t, false, graphOf(513), 0, with(same(513, inf), 0, 0)...)
	g := crowded(8193)
	row := leastWeights(g, 0)
	mustTight(t, false, g, 0, row...)
	g.Edges = g.Edges[:8192]
	mustTight(t, true, g, 0, row...)
	mustTight(t, false, api.Graph{Vertices: math.MaxInt}, 0, 0)
}

// crowded has 512 vertices and the first so many pairs of all, which rise.
func crowded(edges int) api.Graph {
	g := api.Graph{Vertices: 512}
	for i := range edges {
		g.Edges = append(g.Edges, api.Edge{From: i / 512, To: i % 512, Weight: int64(i*7919%1000 + 1)})
	}
	return g
}

func TestTightOfSourcesThatAreNoVertex(t *testing.T) {
	for _, source := range []int{math.MinInt, -1 << 32, -4, -1, 4, 5, 512, 1 << 32, math.MaxInt} {
		for _, row := range [][]int64{{0, 3, 1, inf}, same(4, inf), same(4, 0), nil} {
			mustTight(t, false, example(), source, row...)
		}
	}
}

func TestTightOfFewerAndMoreValues(t *testing.T) {
	mustTight(t, false, example(), 0)
	mustTight(t, false, example(), 0, []int64{}...)
	mustTight(t, false, example(), 0, 0)
	mustTight(t, false, example(), 0, 0, 3, 1)
	mustTight(t, false, example(), 0, 0, 3, 1, inf, inf)
	mustTight(t, false, example(), 0, 0, 3, 1, inf, 0)
	mustTight(t, false, example(), 3, inf, inf, inf)
	mustTight(t, false, graphOf(1), 0)
	mustTight(t, false, graphOf(1), 0, 0, inf)
	// What stands behind a list's length is no value.
	longer := []int64{0, 3, 1, inf, 5}
	mustTight(t, false, example(), 0, longer[:3]...)
	mustTight(t, true, example(), 0, longer[:4]...)
}

func TestTightOfWhatIsNoDistance(t *testing.T) {
	row := []int64{0, 3, 1, inf}
	for place := range row {
		for _, value := range []int64{least, -inf, -1, inf + 1, greatest} {
			mustTight(t, false, example(), 0, with(row, place, value)...)
		}
	}
	// Put together with an edge, these would count as what is right.
	mustTight(t, false, graphOf(2, [3]int64{0, 1, 5}), 0, -1, 5)
	mustTight(t, false, graphOf(2, [3]int64{0, 1, 0}), 0, 0, -1)
	mustTight(t, false, graphOf(2, [3]int64{0, 1, 0}, [3]int64{1, 0, 0}), 0, -1, -1)
	mustTight(t, false, graphOf(2, [3]int64{1, 0, 0}), 0, 0, inf+1)
}

func TestTightOfSourcesWithAnotherValue(t *testing.T) {
	mustTight(t, false, example(), 0, 1, 3, 1, inf)
	mustTight(t, false, example(), 0, 1, 4, 2, inf)
	mustTight(t, false, example(), 0, inf, inf, inf, inf)
	mustTight(t, false, example(), 3, inf, inf, inf, inf)
	mustTight(t, false, graphOf(2, [3]int64{0, 1, 2}, [3]int64{1, 0, 2}), 0, 4, 2)
}

func TestTightOfValuesOffByOne(t *testing.T) {
	graphs := []api.Graph{
		graphOf(3, [3]int64{0, 1, 4}, [3]int64{0, 2, 1}, [3]int64{2, 1, 2}),
		graphOf(3, [3]int64{0, 1, 1}, [3]int64{1, 2, 1}),
		graphOf(3, [3]int64{0, 1, heaviest}, [3]int64{1, 2, heaviest}),
		graphOf(3, [3]int64{0, 1, 0}, [3]int64{1, 2, 0}, [3]int64{2, 0, 0}),
		graphOf(3, [3]int64{0, 1, 3}, [3]int64{1, 1, 1}, [3]int64{1, 2, 1}, [3]int64{2, 2, 0}),
	}
	for _, g := range graphs {
		row := plainDistances(g, 0)
		mustTight(t, true, g, 0, row...)
		for v, value := range row {
			mustTight(t, false, g, 0, with(row, v, value-1)...)
			mustTight(t, false, g, 0, with(row, v, value+1)...)
		}
	}
}

func TestTightOfVerticesToWhichNoPathLeads(t *testing.T) {
	graphs := []api.Graph{
		graphOf(3, [3]int64{0, 1, 2}),
		graphOf(3, [3]int64{0, 1, 2}, [3]int64{2, 0, 0}, [3]int64{2, 1, 0}),
		graphOf(3, [3]int64{0, 1, 2}, [3]int64{2, 2, 1}),
		graphOf(3, [3]int64{0, 1, 2}, [3]int64{2, 0, 1}, [3]int64{2, 2, 0}),
	}
	for _, g := range graphs {
		for _, value := range numbers {
			mustTight(t, value == inf, g, 0, 0, 2, value)
		}
	}
}

func TestTightOfVerticesThatAPathReachesWithInf(t *testing.T) {
	mustTight(t, false, example(), 0, 0, inf, 1, inf)
	mustTight(t, false, example(), 0, 0, 4, inf, inf)
	mustTight(t, false, example(), 0, 0, inf, inf, inf)
	mustTight(t, false, graphOf(2, [3]int64{0, 1, heaviest}), 0, 0, inf)
}

func TestTightOfRingsThatHoldThemselvesUp(t *testing.T) {
	two := graphOf(3, [3]int64{1, 2, 0}, [3]int64{2, 1, 0})
	three := graphOf(4, [3]int64{1, 2, 0}, [3]int64{2, 3, 0}, [3]int64{3, 1, 0})
	outward := graphOf(3, [3]int64{1, 0, 3}, [3]int64{1, 2, 0}, [3]int64{2, 1, 0})
	for _, g := range []api.Graph{two, three, outward} {
		for _, value := range []int64{0, 1, 7, heaviest, inf - 1} {
			mustTight(t, false, g, 0, with(same(g.Vertices, value), 0, 0)...)
		}
		mustTight(t, true, g, 0, with(same(g.Vertices, inf), 0, 0)...)
	}
}

func TestTightOfRingsThatAreReached(t *testing.T) {
	g := graphOf(4, [3]int64{0, 3, 5}, [3]int64{1, 2, 0}, [3]int64{2, 3, 0}, [3]int64{3, 1, 0})
	mustTight(t, true, g, 0, 0, 5, 5, 5)
	for _, value := range []int64{0, 1, 4, 6, inf} {
		mustTight(t, false, g, 0, 0, value, value, value)
	}
	for source := 1; source < 4; source++ {
		mustTight(t, true, g, source, inf, 0, 0, 0)
		mustTight(t, false, g, source, 0, 0, 0, 0)
	}
	whole := graphOf(3, [3]int64{0, 1, 0}, [3]int64{1, 2, 0}, [3]int64{2, 0, 0})
	mustTight(t, true, whole, 1, 0, 0, 0)
	mustTight(t, false, whole, 1, 1, 0, 0)
}

func TestTightOfEdgesFromAVertexToItself(t *testing.T) {
	for _, weight := range []int64{0, 1, heaviest} {
		alone := graphOf(2, [3]int64{0, 0, weight}, [3]int64{1, 1, weight})
		mustTight(t, true, alone, 0, 0, inf)
		mustTight(t, true, alone, 1, inf, 0)
		for _, value := range []int64{0, 1, 7, inf - 1} {
			mustTight(t, false, alone, 0, 0, value)
		}
		led := graphOf(2, [3]int64{0, 0, weight}, [3]int64{0, 1, 3}, [3]int64{1, 1, weight})
		mustTight(t, true, led, 0, 0, 3)
		mustTight(t, false, led, 0, 0, 2)
		mustTight(t, false, led, 0, 0, 4)
	}
}

func TestTightOfEdgesIntoTheSource(t *testing.T) {
	for _, weight := range []int64{0, 1, heaviest} {
		g := graphOf(3, [3]int64{0, 1, 2}, [3]int64{1, 0, weight}, [3]int64{2, 0, weight})
		mustTight(t, true, g, 0, 0, 2, inf)
		mustTight(t, false, g, 0, 0, 2, 0)
		mustTight(t, true, g, 2, weight, weight+2, 0)
	}
	mustTight(t, true, graphOf(2, [3]int64{1, 0, 0}), 0, 0, inf)
	mustTight(t, false, graphOf(2, [3]int64{1, 0, 0}), 0, 0, 0)
}

func TestTightOfChainsOfGreatWeight(t *testing.T) {
	for _, falling := range []bool{false, true} {
		g, row := chain(512, heaviest, falling), same(512, 0)
		source := 0
		for v := range row {
			row[v] = int64(v) * heaviest
		}
		if falling {
			source = 511
			slices.Reverse(row)
		}
		mustTight(t, true, g, source, row...)
		for v, value := range row {
			mustTight(t, false, g, source, with(row, v, value-1)...)
			mustTight(t, false, g, source, with(row, v, value+1)...)
			mustTight(t, false, g, source, with(row, v, inf)...)
		}
		other := source ^ 511
		mustTight(t, true, g, other, with(same(512, inf), other, 0)...)
		mustTight(t, false, g, other, row...)
	}
}

// chain has an edge from each vertex to the next one, or to the one ahead. As
// edges rise, the one from the source is then the last one.
func chain(vertices int, weight int64, falling bool) api.Graph {
	g := api.Graph{Vertices: vertices}
	for v := range vertices {
		if falling && v > 0 {
			g.Edges = append(g.Edges, api.Edge{From: v, To: v - 1, Weight: weight})
		}
		if !falling && v < vertices-1 {
			g.Edges = append(g.Edges, api.Edge{From: v, To: v + 1, Weight: weight})
		}
	}
	return g
}

func TestTightOfChainsOfNoWeight(t *testing.T) {
	g := chain(512, 0, true)
	mustTight(t, true, g, 511, same(512, 0)...)
	mustTight(t, true, g, 255, append(same(256, 0), same(256, inf)...)...)
	mustTight(t, false, g, 255, append(same(255, 0), same(257, inf)...)...)
	mustTight(t, false, g, 255, same(512, 0)...)
	// A chain that is cut holds its second half up no longer.
	g.Edges = slices.DeleteFunc(g.Edges, func(e api.Edge) bool { return e.From == 300 })
	mustTight(t, false, g, 511, same(512, 0)...)
}

// Paths of a graph that may be never come to Inf, but values that are handed in
// do, and so do weights that may not be.
func TestTightOfPathsThatComeToInf(t *testing.T) {
	mustTight(t, true, graphOf(3, [3]int64{1, 2, 5}), 0, 0, inf, inf)
	for _, value := range []int64{inf - 6, inf - 5, inf - 4, inf - 1} {
		mustTight(t, false, graphOf(3, [3]int64{1, 2, 5}), 0, 0, value, plainTogether(value, 5))
		mustTight(t, false, graphOf(3, [3]int64{0, 1, 5}, [3]int64{1, 2, 5}), 0, 0, value, plainTogether(value, 5))
		mustTight(t, false, graphOf(3, [3]int64{1, 2, 5}, [3]int64{2, 1, 5}), 0, 0, value, inf)
		mustTight(t, false, graphOf(3, [3]int64{1, 2, 5}), 0, 0, inf, value)
	}
	for _, weight := range []int64{inf/2 - 1, inf / 2, inf/2 + 1, inf - 1, inf, inf + 1, greatest} {
		g := graphOf(3, [3]int64{0, 1, weight}, [3]int64{1, 2, weight})
		mustTight(t, false, g, 0, 0, min(weight, inf), plainTogether(weight, weight))
	}
}

func TestTightOfTheGreatestGraphs(t *testing.T) {
	rnd := rand.New(rand.NewPCG(9, 4))
	graphs := []api.Graph{crowded(8192)}
	for _, weights := range []int64{1, 2, 10, 1 << 31} {
		for _, edges := range []int{600, 1500, 8192} {
			graphs = append(graphs, strewn(rnd, 512, edges, weights))
		}
	}
	for _, g := range graphs {
		for _, source := range []int{0, 1, 255, 511} {
			row := leastWeights(g, source)
			mustTight(t, true, g, source, row...)
			for range 20 {
				v := rnd.IntN(512)
				mustTight(t, false, g, source, with(row, v, row[v]-1)...)
				mustTight(t, false, g, source, with(row, v, row[v]+1)...)
			}
		}
	}
}

// strewn has so many edges, anywhere.
func strewn(rnd *rand.Rand, vertices, edges int, weights int64) api.Graph {
	g := api.Graph{Vertices: vertices}
	places := rnd.Perm(vertices * vertices)[:edges]
	slices.Sort(places)
	for _, p := range places {
		g.Edges = append(g.Edges, api.Edge{From: p / vertices, To: p % vertices, Weight: rnd.Int64N(weights)})
	}
	return g
}

func TestTightOfAllRowsOfSmallValues(t *testing.T) {
	rnd := rand.New(rand.NewPCG(9, 5))
	small := []int64{-1, 0, 1, 2, 3, 4, inf - 1, inf, inf + 1}
	tight := 0
	for range 400 {
		g := drawn(rnd, 4, 3)
		source := rnd.IntN(g.Vertices+2) - 1
		for row := range allRows(g.Vertices, small) {
			want := plainTight(g, source, row)
			mustTight(t, want, g, source, row...)
			if want {
				tight++
			}
		}
	}
	if tight < 50 {
		t.Errorf("only %d rows are tight", tight)
	}
}

func TestTightOfSomeGraphsThatMayNotBe(t *testing.T) {
	rnd := rand.New(rand.NewPCG(9, 6))
	for range 20000 {
		g := drawn(rnd, 5, 3)
		source := rnd.IntN(g.Vertices)
		row := plainDistances(g, source)
		if len(g.Edges) > 0 {
			spoilOne(rnd, g)
		}
		mustTight(t, plainTight(g, source, row), g, source, row...)
	}
}

// spoilOne changes an edge, often so that the graph may not be.
func spoilOne(rnd *rand.Rand, g api.Graph) {
	i, k := rnd.IntN(len(g.Edges)), rnd.IntN(len(g.Edges))
	switch rnd.IntN(5) {
	case 0:
		g.Edges[i].From = rnd.IntN(g.Vertices+2) - 1
	case 1:
		g.Edges[i].To = rnd.IntN(g.Vertices+2) - 1
	case 2:
		g.Edges[i].Weight = rnd.Int64N(5) - 1
	case 3:
		g.Edges[i].Weight = 1 << 31
	case 4:
		g.Edges[i], g.Edges[k] = g.Edges[k], g.Edges[i]
	}
}

// P9.5

func TestTightOnlyReads(t *testing.T) {
	memory := append(example().Edges, api.Edge{From: 91, To: 92, Weight: -7}, api.Edge{From: 93, To: 94, Weight: 8})
	falling := append(slices.Clone(memory[1:3]), memory[0], memory[4])
	for _, edges := range [][]api.Edge{memory, falling} {
		g := api.Graph{Vertices: 4, Edges: edges[:3]}
		for _, row := range [][]int64{{0, 3, 1, inf, 7, -8}, {0, 4, 1, inf, 7, -8}, {0, 2, 1, inf, 7, -8}, {0, 3, 1, 7, 7, -8}, {0, 3, -1, inf, 7, -8}, {inf, 3, 1, inf + 1, 7, -8}} {
			edgesWas, rowWas := slices.Clone(edges), slices.Clone(row)
			for source := -1; source < 5; source++ {
				paths.Tight(g, source, row[:4])
				paths.Tight(g, source, row[:3])
			}
			if !slices.Equal(edges, edgesWas) || !slices.Equal(row, rowWas) {
				t.Errorf("Tight changed what was handed in: %v, %v", edges, row)
			}
		}
	}
}

func TestTightKeepsNothing(t *testing.T) {
	g, row := example(), []int64{0, 3, 1, inf}
	mustTight(t, true, g, 0, row...)
	row[1] = 4
	mustTight(t, false, g, 0, row...)
	g.Edges[2].Weight = 3
	mustTight(t, true, g, 0, row...)
	row[3] = 0
	mustTight(t, false, g, 0, row...)
	mustTight(t, true, g, 3, inf, inf, inf, 0)
	mustTight(t, true, example(), 0, 0, 3, 1, inf)
}

// P9.6

func TestJustOneRowIsTight(t *testing.T) {
	rnd := rand.New(rand.NewPCG(9, 7))
	small := []int64{0, 1, 2, 3, 4, 5, 6, inf}
	for range 400 {
		g := drawn(rnd, 4, 3)
		source := rnd.IntN(g.Vertices)
		var tight [][]int64
		for row := range allRows(g.Vertices, small) {
			if paths.Tight(g, source, row) {
				tight = append(tight, slices.Clone(row))
			}
		}
		if want := plainDistances(g, source); len(tight) != 1 || !slices.Equal(tight[0], want) {
			t.Errorf("of %v from %d these are tight: %v, not just %v", g, source, tight, want)
		}
	}
}

func TestTakeIsNotAboveTheValue(t *testing.T) {
	for _, value := range numbers {
		for _, m := range numbers {
			for _, mail := range []api.Mail{sent(m), none(m)} {
				if got, less := paths.Take(value, mail); got > value || less != (got < value) {
					t.Errorf("Take(%d, %v): %d %v", value, mail, got, less)
				}
			}
		}
	}
}

// A row is tight just when no mail changes it any more, if it came of Start.
func TestStartGiveAndTakeComeToWhatIsTight(t *testing.T) {
	rnd := rand.New(rand.NewPCG(9, 8))
	for range 300 {
		g := drawn(rnd, 12, 20)
		source := rnd.IntN(g.Vertices)
		row := make([]int64, g.Vertices)
		for v := range row {
			row[v] = paths.Start(v, source)
		}
		more := true
		for round := 0; more && round <= g.Vertices; round++ {
			was := slices.Clone(row)
			more = sendAlongAll(g, row)
			mustTight(t, !more, g, source, was...)
		}
		if !slices.Equal(row, leastWeights(g, source)) {
			t.Fatalf("of %v from %d it comes to %v", g, source, row)
		}
	}
}

// sendAlongAll gives along each edge once: has a value become less?
func sendAlongAll(g api.Graph, row []int64) bool {
	more := false
	for _, e := range g.Edges {
		next, less := paths.Take(row[e.To], sent(paths.Give(row[e.From], e)))
		row[e.To] = next
		more = more || less
	}
	return more
}
