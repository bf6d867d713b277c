package meaning_test

import (
	"math"
	"math/rand/v2"
	"slices"
	"testing"

	"treadwheel/api"
	"treadwheel/meaning"
	"treadwheel/paths"
	"treadwheel/seq"
)

const (
	one      int64 = 4294967296
	inf      int64 = 4611686018427387904
	heaviest int64 = 1<<31 - 1
	greatest int64 = math.MaxInt64
	least    int64 = math.MinInt64
)

// noSteps are numbers that no state's Step is, of any job.
var noSteps = []int{math.MinInt, math.MinInt + 1, -1 << 32, -2000, -2, -1, 2001, 1 << 32, math.MaxInt - 1, math.MaxInt}

func ranks(steps int, damp, eps int64) api.Job {
	return api.Job{Kind: 1, Steps: steps, Damp: damp, Eps: eps}
}

func labels(steps int) api.Job { return api.Job{Kind: 2, Steps: steps} }

func ways(steps, source int) api.Job { return api.Job{Kind: 3, Steps: steps, Source: source} }

func row(values ...int64) []int64 { return values }

func same(n int, value int64) []int64 { return slices.Repeat(row(value), n) }

// with tells a row with another value in one place.
func with(values []int64, place int, value int64) []int64 {
	other := slices.Clone(values)
	other[place] = value
	return other
}

// rising tells so many numbers from one on.
func rising(first, n int) []int64 {
	var values []int64
	for i := range n {
		values = append(values, int64(first+i))
	}
	return values
}

// behind is a state of which nothing is told but Step and Values.
func behind(step int, values ...int64) api.State { return api.State{Step: step, Values: values} }

// graphOf has an edge for each row of From, To and Weight, as they stand.
func graphOf(vertices int, rows ...[3]int64) api.Graph {
	g := api.Graph{Vertices: vertices}
	for _, r := range rows {
		g.Edges = append(g.Edges, api.Edge{From: int(r[0]), To: int(r[1]), Weight: r[2]})
	}
	return g
}

// ordered has edges of any order, put into the one that a graph's have.
func ordered(vertices int, edges []api.Edge) api.Graph {
	slices.SortFunc(edges, func(a, b api.Edge) int { return (a.From-b.From)*512 + a.To - b.To })
	return api.Graph{Vertices: vertices, Edges: edges}
}

// example is the chapter's graph.
func example() api.Graph {
	return graphOf(4, [3]int64{0, 1, 4}, [3]int64{0, 2, 1}, [3]int64{2, 1, 2})
}

// along leads from each vertex of a list to the next one.
func along(list []int, weight int64) api.Graph {
	var edges []api.Edge
	for i := range len(list) - 1 {
		edges = append(edges, api.Edge{From: list[i], To: list[i+1], Weight: weight})
	}
	return ordered(len(list), edges)
}

// turning goes along a list by edges of which every other one leads back,
// beginning with the first one or the second.
func turning(list []int, first int) api.Graph {
	g := along(list, 1)
	place := make([]int, len(list))
	for i, v := range list {
		place[v] = i
	}
	var edges []api.Edge
	for _, e := range g.Edges {
		if place[e.From]%2 == first {
			e.From, e.To = e.To, e.From
		}
		edges = append(edges, e)
	}
	return ordered(len(list), edges)
}

// upward are so many vertices in order, downward the other way.
func upward(vertices int) []int {
	var list []int
	for v := range vertices {
		list = append(list, v)
	}
	return list
}

func downward(vertices int) []int {
	list := upward(vertices)
	slices.Reverse(list)
	return list
}

// ring leads from each vertex to the next one, and from the last to the first.
func ring(vertices int, weight int64) api.Graph {
	g := along(upward(vertices), weight)
	return ordered(vertices, append(g.Edges, api.Edge{From: vertices - 1, To: 0, Weight: weight}))
}

// strewn has so many edges, anywhere.
func strewn(rnd *rand.Rand, vertices, edges int, weights int64) api.Graph {
	g := api.Graph{Vertices: vertices}
	places := rnd.Perm(vertices * vertices)[:edges]
	slices.Sort(places)
	for _, p := range places {
		g.Edges = append(g.Edges, api.Edge{From: p / vertices, To: p % vertices, Weight: rnd.Int64N(weights)})
	}
	return g
}

// drawn is a graph of up to so many vertices, with few edges or many.
func drawn(rnd *rand.Rand, most int) api.Graph {
	vertices := 1 + rnd.IntN(most)
	edges := rnd.IntN([]int{1, 2, vertices + 1, vertices*vertices + 1}[rnd.IntN(4)])
	return strewn(rnd, vertices, min(edges, vertices*vertices), []int64{1, 2, 5, 1 << 31}[rnd.IntN(4)])
}

// someJobs are jobs of each Kind that may be on a graph.
func someJobs(rnd *rand.Rand, g api.Graph, steps int) []api.Job {
	damp := []int64{0, one / 2, one / 100 * 85, one, rnd.Int64N(one + 1)}[rnd.IntN(5)]
	eps := []int64{0, 1, one / 1000, one / 10}[rnd.IntN(4)]
	return []api.Job{ranks(steps, damp, eps), labels(steps), ways(steps, rnd.IntN(g.Vertices))}
}

// copied tells a state that shares nothing with one.
func copied(s api.State) api.State {
	s.Values, s.Changed, s.Inbox = slices.Clone(s.Values), slices.Clone(s.Changed), slices.Clone(s.Inbox)
	return s
}

// noGraphs are graphs that may not be, by the error that graph.Check has for them.
func noGraphs() map[api.Errno][]api.Graph {
	tooMany := api.Graph{Vertices: 512}
	for i := range 8193 {
		tooMany.Edges = append(tooMany.Edges, api.Edge{From: i / 512, To: i % 512})
	}
	return map[api.Errno][]api.Graph{
		api.ErrLimit: {{Vertices: 513}, {Vertices: math.MaxInt}, tooMany},
		api.ErrGraph: {
			{}, {Edges: []api.Edge{}}, {Vertices: -1}, {Vertices: math.MinInt}, graphOf(0, [3]int64{0, 0, 1}),
			graphOf(2, [3]int64{0, 2, 1}), graphOf(2, [3]int64{2, 0, 1}), graphOf(2, [3]int64{0, -1, 1}), graphOf(2, [3]int64{-1, 0, 1}),
			graphOf(2, [3]int64{0, 1, -1}), graphOf(2, [3]int64{0, 1, heaviest + 1}), graphOf(2, [3]int64{0, 1, greatest}),
			graphOf(2, [3]int64{0, 1, 1}, [3]int64{0, 1, 2}), graphOf(2, [3]int64{0, 1, 1}, [3]int64{0, 0, 1}), graphOf(2, [3]int64{1, 0, 1}, [3]int64{0, 1, 1}),
		},
	}
}

// say tells a graph in a fault, if it is small.
func say(g api.Graph) any {
	if len(g.Edges) > 40 {
		return len(g.Edges)
	}
	return g
}

func mustLabel(t *testing.T, g api.Graph, want ...int64) {
	t.Helper()
	if got, errno := meaning.Labels(g); errno != api.OK || !slices.Equal(got, want) {
		t.Errorf("Labels of %v: %v %d, not %v", say(g), got, errno, want)
	}
}

func mustReach(t *testing.T, g api.Graph, source int, want ...int64) {
	t.Helper()
	if got, errno := meaning.Distances(g, source); errno != api.OK || !slices.Equal(got, want) {
		t.Errorf("Distances of %v from %d: %v %d, not %v", say(g), source, got, errno, want)
	}
}

func mustRefuse(t *testing.T, g api.Graph, source int, want api.Errno) {
	t.Helper()
	if got, errno := meaning.Distances(g, source); errno != want || len(got) != 0 {
		t.Errorf("Distances of %v from %d: %v %d, not %d", say(g), source, got, errno, want)
	}
}

func mustMean(t *testing.T, want bool, g api.Graph, j api.Job, s api.State) {
	t.Helper()
	if got := meaning.Means(g, j, s); got != want {
		t.Errorf("Means of %v, %+v, %+v: %v", say(g), j, s, got)
	}
}

func mustRun(t *testing.T, g api.Graph, j api.Job) api.State {
	t.Helper()
	s, errno := seq.Run(g, j)
	if errno != api.OK {
		t.Fatalf("Run of %v, %+v: error %d", say(g), j, errno)
	}
	return s
}

// P13.1

func TestLabelsOfTheExample(t *testing.T) {
	mustLabel(t, example(), 0, 0, 0, 3)
}

func TestLabelsOfGraphsThatMayNotBe(t *testing.T) {
	for want, graphs := range noGraphs() {
		for _, g := range graphs {
			if got, errno := meaning.Labels(g); errno != want || len(got) != 0 {
				t.Errorf("Labels of %v: %v %d, not %d", say(g), got, errno, want)
			}
		}
	}
}

func TestLabelsOfOneVertex(t *testing.T) {
	mustLabel(t, graphOf(1), 0)
	mustLabel(t, graphOf(1, [3]int64{0, 0, 0}), 0)
	mustLabel(t, graphOf(1, [3]int64{0, 0, heaviest}), 0)
}

func TestLabelsOfVerticesWithoutEdges(t *testing.T) {
	for _, vertices := range []int{1, 2, 3, 7, 511, 512} {
		mustLabel(t, graphOf(vertices), rising(0, vertices)...)
	}
	mustLabel(t, graphOf(4, [3]int64{1, 2, 1}), 0, 1, 1, 3)
	mustLabel(t, graphOf(3, [3]int64{0, 0, 1}, [3]int64{1, 1, 1}, [3]int64{2, 2, 1}), 0, 1, 2)
}

func TestLabelsOfEdgesThatLeadFromGreaterToLess(t *testing.T) {
	mustLabel(t, graphOf(2, [3]int64{1, 0, 1}), 0, 0)
	mustLabel(t, graphOf(5, [3]int64{3, 1, 1}, [3]int64{4, 3, 1}), 0, 1, 2, 1, 1)
	mustLabel(t, graphOf(5, [3]int64{3, 1, 1}, [3]int64{4, 0, 1}, [3]int64{4, 3, 1}), 0, 0, 2, 0, 0)
	mustLabel(t, graphOf(4, [3]int64{3, 0, 1}, [3]int64{3, 1, 1}, [3]int64{3, 2, 1}), 0, 0, 0, 0)
	mustLabel(t, along(downward(40), 1), same(40, 0)...)
}

func TestLabelsOfVerticesThatMeetOnlyBothWays(t *testing.T) {
	mustLabel(t, graphOf(3, [3]int64{0, 2, 1}, [3]int64{1, 2, 1}), 0, 0, 0)
	mustLabel(t, graphOf(3, [3]int64{2, 0, 1}, [3]int64{2, 1, 1}), 0, 0, 0)
	rnd := rand.New(rand.NewPCG(13, 1))
	for _, list := range [][]int{upward(512), downward(512), rnd.Perm(512), rnd.Perm(511)} {
		for first := range 2 {
			mustLabel(t, turning(list, first), same(len(list), 0)...)
		}
	}
}

func TestLabelsOfSeveralGroups(t *testing.T) {
	mustLabel(t, graphOf(6, [3]int64{0, 3, 1}, [3]int64{1, 4, 1}, [3]int64{5, 2, 1}), 0, 1, 2, 0, 1, 2)
	mustLabel(t, graphOf(6, [3]int64{1, 5, 1}, [3]int64{2, 4, 1}, [3]int64{4, 3, 1}, [3]int64{5, 1, 1}), 0, 1, 2, 2, 2, 1)
	// The last edge of all puts two groups together.
	mustLabel(t, graphOf(6, [3]int64{0, 1, 1}, [3]int64{2, 3, 1}, [3]int64{4, 5, 1}, [3]int64{5, 3, 1}), 0, 0, 2, 2, 2, 2)
	mustLabel(t, graphOf(6, [3]int64{1, 2, 1}, [3]int64{3, 4, 1}, [3]int64{5, 0, 1}, [3]int64{5, 4, 1}), 0, 1, 1, 0, 0, 0)
	// A row that is cut in its middle.
	g := along(upward(512), 1)
	g.Edges = slices.Delete(g.Edges, 255, 256)
	mustLabel(t, g, append(same(256, 0), same(256, 256)...)...)
	var edges []api.Edge
	for v := range 505 {
		edges = append(edges, api.Edge{From: v + 7, To: v})
	}
	want := slices.Repeat(rising(0, 7), 74)[:512]
	mustLabel(t, ordered(512, edges), want...)
}

func TestLabelsOfTheLongestRows(t *testing.T) {
	rnd := rand.New(rand.NewPCG(13, 2))
	for _, list := range [][]int{upward(512), downward(512), rnd.Perm(512), rnd.Perm(512)} {
		mustLabel(t, along(list, 1), same(512, 0)...)
	}
	mustLabel(t, ring(512, 1), same(512, 0)...)
}

func TestLabelsDoNotGoByWeights(t *testing.T) {
	for _, weight := range []int64{0, 1, heaviest} {
		mustLabel(t, graphOf(4, [3]int64{1, 3, weight}, [3]int64{3, 2, weight}), 0, 1, 1, 1)
	}
}

func TestLabelsOfDrawnGraphs(t *testing.T) {
	rnd := rand.New(rand.NewPCG(13, 3))
	for range 3000 {
		g := drawn(rnd, 14)
		mustLabel(t, g, plainLabels(g)...)
	}
	for _, edges := range []int{100, 250, 400, 8192} {
		g := strewn(rnd, 512, edges, 1)
		mustLabel(t, g, plainLabels(g)...)
	}
}

// P13.2

func TestDistancesOfTheExample(t *testing.T) {
	mustReach(t, example(), 0, 0, 3, 1, inf)
	mustReach(t, example(), 1, inf, 0, inf, inf)
	mustReach(t, example(), 2, inf, 2, 0, inf)
	mustReach(t, example(), 3, inf, inf, inf, 0)
	mustRefuse(t, example(), 4, api.ErrArg)
}

func TestDistancesOfGraphsThatMayNotBe(t *testing.T) {
	for want, graphs := range noGraphs() {
		for _, g := range graphs {
			for _, source := range []int{math.MinInt, -1, 0, 1, 2, 512, 513, math.MaxInt} {
				mustRefuse(t, g, source, want)
			}
		}
	}
}

func TestDistancesFromWhatIsNoVertex(t *testing.T) {
	for _, source := range []int{math.MinInt, math.MinInt + 1, -1 << 32, -4, -1, 4, 5, 512, 1 << 32, math.MaxInt} {
		mustRefuse(t, example(), source, api.ErrArg)
	}
	for _, vertices := range []int{1, 2, 512} {
		mustRefuse(t, graphOf(vertices), -1, api.ErrArg)
		mustRefuse(t, graphOf(vertices), vertices, api.ErrArg)
		mustReach(t, graphOf(vertices), vertices-1, with(same(vertices, inf), vertices-1, 0)...)
	}
}

func TestDistancesOfOneVertex(t *testing.T) {
	mustReach(t, graphOf(1), 0, 0)
	for _, weight := range []int64{0, 1, heaviest} {
		mustReach(t, graphOf(1, [3]int64{0, 0, weight}), 0, 0)
	}
}

func TestDistancesOfEdgesOfNoWeight(t *testing.T) {
	g := graphOf(4, [3]int64{0, 1, 0}, [3]int64{1, 2, 0}, [3]int64{2, 3, 7})
	mustReach(t, g, 0, 0, 0, 0, 7)
	mustReach(t, g, 2, inf, inf, 0, 7)
	mustReach(t, along(downward(512), 0), 511, same(512, 0)...)
	mustReach(t, ring(6, 0), 3, same(6, 0)...)
}

func TestDistancesOfEdgesOfTheGreatestWeight(t *testing.T) {
	mustReach(t, graphOf(2, [3]int64{0, 1, heaviest}), 0, 0, heaviest)
	mustReach(t, graphOf(3, [3]int64{0, 1, heaviest}, [3]int64{1, 2, heaviest}), 0, 0, heaviest, 2*heaviest)
	mustReach(t, graphOf(3, [3]int64{0, 1, heaviest - 1}, [3]int64{0, 2, heaviest}, [3]int64{1, 2, 0}), 0, 0, heaviest-1, heaviest-1)
}

func TestDistancesOnRings(t *testing.T) {
	for source := range 6 {
		want := same(6, 0)
		for i := range 6 {
			want[(source+i)%6] = int64(i) * 5
		}
		mustReach(t, ring(6, 5), source, want...)
	}
	// A ring that is reached from outside, and leads nowhere else.
	g := graphOf(4, [3]int64{0, 3, 5}, [3]int64{1, 2, 1}, [3]int64{2, 3, 1}, [3]int64{3, 1, 1})
	mustReach(t, g, 0, 0, 6, 7, 5)
	mustReach(t, g, 1, inf, 0, 1, 2)
}

func TestDistancesOfEdgesToItself(t *testing.T) {
	for _, weight := range []int64{0, 3, heaviest} {
		g := graphOf(3, [3]int64{0, 0, weight}, [3]int64{0, 1, 4}, [3]int64{1, 1, weight}, [3]int64{2, 2, weight})
		mustReach(t, g, 0, 0, 4, inf)
		mustReach(t, g, 1, inf, 0, inf)
		mustReach(t, g, 2, inf, inf, 0)
	}
}

func TestDistancesByWaysOfUnlikeLengths(t *testing.T) {
	// One edge of 9, two of 4, three of 2, four of 1: the more there are, the shorter.
	g := graphOf(8,
		[3]int64{0, 1, 9}, [3]int64{0, 2, 4}, [3]int64{0, 3, 2}, [3]int64{0, 5, 1},
		[3]int64{2, 1, 4}, [3]int64{3, 4, 2}, [3]int64{4, 1, 2}, [3]int64{5, 6, 1}, [3]int64{6, 7, 1}, [3]int64{7, 1, 1})
	mustReach(t, g, 0, 0, 4, 4, 2, 4, 1, 2, 3)
	// The longer one is found first, and gone on from.
	mustReach(t, graphOf(4, [3]int64{0, 1, 5}, [3]int64{0, 2, 3}, [3]int64{1, 3, 1}, [3]int64{2, 1, 1}), 0, 0, 4, 3, 5)
	// The way of fewer edges is the shorter one, or just as long.
	mustReach(t, graphOf(3, [3]int64{0, 1, 2}, [3]int64{0, 2, 1}, [3]int64{2, 1, 2}), 0, 0, 2, 1)
	mustReach(t, graphOf(3, [3]int64{0, 1, 3}, [3]int64{0, 2, 1}, [3]int64{2, 1, 2}), 0, 0, 3, 1)
}

func TestDistancesToWhereNoWayLeads(t *testing.T) {
	for _, vertices := range []int{2, 3, 7, 512} {
		for _, source := range []int{0, 1, vertices - 1} {
			mustReach(t, graphOf(vertices), source, with(same(vertices, inf), source, 0)...)
		}
	}
	// Edges lead to the source, and among those that it doesn't reach.
	g := graphOf(4, [3]int64{0, 1, 1}, [3]int64{2, 0, 0}, [3]int64{2, 3, 0}, [3]int64{3, 1, 0}, [3]int64{3, 2, 0})
	mustReach(t, g, 0, 0, 1, inf, inf)
	mustReach(t, along(downward(512), 3), 0, with(same(512, inf), 0, 0)...)
}

func TestDistancesOfTheLongestRows(t *testing.T) {
	rnd := rand.New(rand.NewPCG(13, 4))
	for _, list := range [][]int{upward(512), downward(512), rnd.Perm(512)} {
		for _, first := range []int{0, 1, 256, 511} {
			want := same(512, inf)
			for i, v := range list[first:] {
				want[v] = int64(i) * heaviest
			}
			mustReach(t, along(list, heaviest), list[first], want...)
		}
	}
}

// With the greatest distance first, or the one found last, each of these forks
// would double how often all behind it is gone over again.
func TestDistancesBehindManyForks(t *testing.T) {
	const forks = 30
	g := api.Graph{Vertices: 2*forks + 1}
	for i := range forks {
		v := 2 * i
		g.Edges = append(g.Edges,
			api.Edge{From: v, To: v + 1}, api.Edge{From: v, To: v + 2, Weight: 1 << (forks - i)}, api.Edge{From: v + 1, To: v + 2})
	}
	mustReach(t, g, 0, same(g.Vertices, 0)...)
}

func TestDistancesOfDrawnGraphs(t *testing.T) {
	rnd := rand.New(rand.NewPCG(13, 5))
	for range 2000 {
		g := drawn(rnd, 12)
		for source := range g.Vertices {
			mustReach(t, g, source, plainDistances(g, source)...)
		}
	}
	for _, edges := range []int{600, 1500, 8192} {
		g := strewn(rnd, 512, edges, 1<<31)
		mustReach(t, g, 300, plainDistances(g, 300)...)
	}
}

// P13.3

func TestMeansOfGraphsThatMayNotBe(t *testing.T) {
	for _, graphs := range noGraphs() {
		for _, g := range graphs {
			for _, j := range []api.Job{ranks(5, one/2, 0), labels(5), labels(0), ways(5, 0), ways(0, 0), {}} {
				for _, s := range []api.State{{}, behind(0, 0, 1), behind(5, 0, 1), behind(5, 0, 0), behind(1, rising(0, 513)...)} {
					mustMean(t, false, g, j, s)
				}
			}
		}
	}
}

func TestMeansOfJobsThatMayNotBe(t *testing.T) {
	for _, j := range []api.Job{
		{}, {Kind: 0, Steps: 9}, {Kind: 4, Steps: 9}, {Kind: 255, Steps: 9},
		ranks(-1, one, 0), ranks(2001, one, 0), ranks(9, -1, 0), ranks(9, one+1, 0), ranks(9, one, -1), ranks(9, one, one+1), {Kind: 1, Steps: 9, Source: 1},
		labels(-1), labels(2001), labels(math.MinInt), labels(math.MaxInt), {Kind: 2, Steps: 9, Source: 1}, {Kind: 2, Steps: 9, Damp: 1}, {Kind: 2, Steps: 9, Eps: 1},
		ways(-1, 0), ways(2001, 0), ways(9, -1), ways(9, 4), ways(9, math.MaxInt), {Kind: 3, Steps: 9, Damp: 1}, {Kind: 3, Steps: 9, Eps: 1},
	} {
		for _, step := range []int{-1, 0, 1, 3, 9, 2001, math.MinInt, math.MaxInt} {
			for _, values := range [][]int64{nil, {0, 0, 0, 3}, {0, 3, 1, inf}, {0, 1, 2, 3}, same(4, one/4), same(4, 0), same(4, inf)} {
				mustMean(t, false, example(), j, behind(step, values...))
			}
		}
		mustMean(t, false, example(), j, api.State{})
	}
}

// rankJobs end by their Steps, by Eps, and before the first step.
func rankJobs() []api.Job {
	return []api.Job{ranks(9, one/2, 0), ranks(2000, one/2, one/1000), ranks(2000, 0, 0), ranks(1, one, 0), ranks(0, one/2, 0)}
}

func TestMeansOfRank(t *testing.T) {
	rnd := rand.New(rand.NewPCG(13, 6))
	for _, g := range []api.Graph{example(), ring(5, 1), graphOf(1), graphOf(3), strewn(rnd, 20, 60, 5)} {
		for _, j := range rankJobs() {
			end := mustRun(t, g, j)
			mustMean(t, true, g, j, end)
			for v := range end.Inbox {
				for _, value := range []int64{least, -1, 1, 77, inf, greatest} {
					if s := copied(end); !s.Inbox[v].Has {
						s.Inbox[v].Value = value
						mustMean(t, true, g, j, s)
					}
				}
			}
			for _, s := range othersOf(end) {
				mustMean(t, false, g, j, s)
			}
		}
	}
}

// othersOf are states that differ from one in one thing each.
func othersOf(s api.State) []api.State {
	var list []api.State
	other := func(change func(s *api.State)) {
		spoilt := copied(s)
		change(&spoilt)
		list = append(list, spoilt)
	}
	for _, step := range append(slices.Clone(noSteps), s.Step-1, s.Step+1) {
		other(func(s *api.State) { s.Step = step })
	}
	for _, by := range []int64{-1, 1, least, one} {
		other(func(s *api.State) { s.Sum += by })
		other(func(s *api.State) { s.Most += by })
	}
	for v := range s.Values {
		other(func(s *api.State) { s.Values[v]++ })
		other(func(s *api.State) { s.Values[v]-- })
		other(func(s *api.State) { s.Changed[v] = !s.Changed[v] })
		other(func(s *api.State) { s.Inbox[v].Has = !s.Inbox[v].Has })
		if s.Inbox[v].Has {
			other(func(s *api.State) { s.Inbox[v].Value++ })
			other(func(s *api.State) { s.Inbox[v].Value-- })
		}
	}
	last := len(s.Values) - 1
	other(func(s *api.State) { s.Values = s.Values[:last] })
	other(func(s *api.State) { s.Changed = s.Changed[:last] })
	other(func(s *api.State) { s.Inbox = s.Inbox[:last] })
	other(func(s *api.State) { s.Values = append(s.Values, 0) })
	other(func(s *api.State) { s.Changed = append(s.Changed, false) })
	other(func(s *api.State) { s.Inbox = append(s.Inbox, api.Mail{}) })
	other(func(s *api.State) { *s = api.State{} })
	return list
}

// Of Rank no other step's state means the result, whether it is ahead of the
// end or past it.
func TestMeansOfRankAtOtherSteps(t *testing.T) {
	for _, j := range rankJobs() {
		end := mustRun(t, example(), j)
		for k := range 12 {
			s, errno := seq.At(example(), j, k)
			if errno != api.OK {
				t.Fatalf("At %d: error %d", k, errno)
			}
			mustMean(t, k == end.Step, example(), j, s)
		}
	}
}

// shape is a job of Label or Paths, with what it comes to, and what is there
// behind two steps, which is not yet that.
type shape struct {
	g          api.Graph
	job        func(steps int) api.Job
	end, early []int64
}

// shapes come to their ends behind five steps.
func shapes() []shape {
	byWay := func(source int) func(int) api.Job {
		return func(steps int) api.Job { return ways(steps, source) }
	}
	return []shape{
		{along(upward(6), 3), labels, same(6, 0), row(0, 0, 0, 1, 2, 3)},
		{along(downward(6), 3), labels, same(6, 0), row(0, 0, 0, 1, 2, 3)},
		{turning(upward(6), 1), labels, same(6, 0), row(0, 0, 0, 1, 2, 3)},
		{along(upward(6), 3), byWay(0), row(0, 3, 6, 9, 12, 15), row(0, 3, 6, inf, inf, inf)},
		{along(downward(6), heaviest), byWay(5), row(5*heaviest, 4*heaviest, 3*heaviest, 2*heaviest, heaviest, 0), row(inf, inf, inf, 2*heaviest, heaviest, 0)},
		{ring(6, 0), byWay(4), same(6, 0), row(0, inf, inf, inf, 0, 0)},
	}
}

func TestMeansOfStepsOfOneJob(t *testing.T) {
	for _, x := range shapes() {
		for _, steps := range []int{0, 1, 2, 5, 9, 1999, 2000} {
			j := x.job(steps)
			for _, step := range append(slices.Clone(noSteps), steps+1, steps+2) {
				mustMean(t, false, x.g, j, behind(step, x.end...))
				mustMean(t, false, x.g, j, behind(step, x.early...))
			}
			for step := range steps + 1 {
				mustMean(t, true, x.g, j, behind(step, x.end...))
				mustMean(t, step == steps && steps == 2, x.g, j, behind(step, x.early...))
			}
		}
	}
}

func TestMeansOfFewerAndMoreValues(t *testing.T) {
	for _, x := range shapes() {
		for _, step := range []int{0, 1, 2} {
			for _, values := range [][]int64{x.end, x.early} {
				mustMean(t, false, x.g, x.job(2), behind(step, values[:5]...))
				mustMean(t, false, x.g, x.job(2), behind(step, values[1:]...))
				for _, more := range []int64{0, 6, inf, values[5]} {
					mustMean(t, false, x.g, x.job(2), behind(step, append(slices.Clone(values), more)...))
				}
			}
			mustMean(t, false, x.g, x.job(2), behind(step))
			mustMean(t, false, x.g, x.job(2), behind(step, []int64{}...))
		}
		// What stands behind a list's length is no value.
		longer := append(slices.Clone(x.end), 7, 7)
		mustMean(t, true, x.g, x.job(2), behind(1, longer[:6]...))
		mustMean(t, false, x.g, x.job(2), behind(1, longer[:7]...))
	}
	mustMean(t, false, graphOf(1), labels(0), behind(0))
	mustMean(t, true, graphOf(1), labels(0), behind(0, 0))
	mustMean(t, false, graphOf(1), labels(0), behind(0, 0, 1))
	mustMean(t, false, graphOf(512), ways(0, 0), behind(0, with(same(511, inf), 0, 0)...))
	mustMean(t, true, graphOf(512), ways(0, 0), behind(0, with(same(512, inf), 0, 0)...))
	mustMean(t, false, graphOf(512), ways(0, 0), behind(0, with(same(513, inf), 0, 0)...))
}

func TestMeansOfValuesThatAreNeither(t *testing.T) {
	for _, x := range shapes() {
		for v := range 6 {
			for _, value := range []int64{least, -1, 4, 8, one, inf - 1, inf + 1, greatest} {
				for _, values := range [][]int64{with(x.end, v, value), with(x.early, v, value), same(6, value)} {
					for _, step := range []int{0, 1, 2} {
						mustMean(t, false, x.g, x.job(2), behind(step, values...))
					}
				}
			}
		}
	}
}

// The end of one half and what is early of the other are neither, and so is
// what is there behind another number of steps than Steps.
func TestMeansOfValuesBetween(t *testing.T) {
	for _, x := range shapes() {
		for steps := range 5 {
			for k := range 6 {
				j := x.job(steps)
				s := behind(steps, plainAt(x.g, j, k)...)
				mustMean(t, k == steps || k == 5, x.g, j, s)
				s.Step--
				mustMean(t, k == 5 && steps > 0, x.g, j, s)
			}
		}
	}
	mustMean(t, false, along(upward(6), 3), labels(2), behind(2, 0, 0, 0, 0, 2, 3))
	mustMean(t, false, along(upward(6), 3), ways(2, 0), behind(2, 0, 3, 6, 9, inf, inf))
}

// Of Label and Paths only Step and Values count.
func TestMeansOfLabelAndPathsWhateverElseIsThere(t *testing.T) {
	rnd := rand.New(rand.NewPCG(13, 7))
	numbers := []int64{least, -1, 0, 1, 7, inf, inf + 1, greatest}
	draw := func() int64 { return numbers[rnd.IntN(len(numbers))] }
	for _, x := range shapes() {
		for range 40 {
			s := api.State{Sum: draw(), Most: draw()}
			for range rnd.IntN(9) {
				s.Changed = append(s.Changed, rnd.IntN(2) == 0)
			}
			for range rnd.IntN(9) {
				s.Inbox = append(s.Inbox, api.Mail{Has: rnd.IntN(2) == 0, Value: draw()})
			}
			for step := range 4 {
				s.Step, s.Values = step, x.end
				mustMean(t, step <= 2, x.g, x.job(2), s)
				s.Values = x.early
				mustMean(t, step == 2, x.g, x.job(2), s)
				s.Values = with(x.end, 3, 99)
				mustMean(t, false, x.g, x.job(2), s)
			}
		}
	}
}

func TestMeansOfNoSteps(t *testing.T) {
	mustMean(t, true, example(), labels(0), behind(0, 0, 1, 2, 3))
	mustMean(t, true, example(), labels(0), behind(0, 0, 0, 0, 3))
	mustMean(t, false, example(), labels(0), behind(0, 0, 0, 2, 3))
	mustMean(t, false, example(), labels(1), behind(0, 0, 1, 2, 3))
	mustMean(t, true, example(), ways(0, 0), behind(0, 0, inf, inf, inf))
	mustMean(t, true, example(), ways(0, 0), behind(0, 0, 3, 1, inf))
	mustMean(t, false, example(), ways(0, 0), behind(0, 0, 4, 1, inf))
	mustMean(t, false, example(), ways(1, 0), behind(0, 0, inf, inf, inf))
	mustMean(t, false, example(), ways(0, 1), behind(0, 0, inf, inf, inf))
	for _, step := range append(slices.Clone(noSteps), 1, 2) {
		mustMean(t, false, example(), labels(0), behind(step, 0, 1, 2, 3))
		mustMean(t, false, example(), labels(0), behind(step, 0, 0, 0, 3))
		mustMean(t, false, example(), ways(0, 0), behind(step, 0, 3, 1, inf))
	}
	first := mustRun(t, example(), ranks(0, one/2, 0))
	mustMean(t, first.Step == 0, example(), ranks(0, one/2, 0), first)
	mustMean(t, false, example(), ranks(1, one/2, 0), first)
}

func TestMeansGoesByTheSource(t *testing.T) {
	g := ring(5, 2)
	for source := range 5 {
		for other := range 5 {
			mustMean(t, source == other, g, ways(9, other), behind(3, plainDistances(g, source)...))
		}
	}
	mustMean(t, false, example(), labels(9), behind(9, 0, 3, 1, inf))
	mustMean(t, false, example(), ways(9, 0), behind(9, 0, 0, 0, 3))
}

// allRows hands out each row of so many numbers out of those that are there.
func allRows(length int, of []int64) func(func([]int64) bool) {
	return func(yield func([]int64) bool) {
		places := make([]int, length)
		values := same(length, of[0])
		for yield(values) {
			i := 0
			for i < length && places[i] == len(of)-1 {
				places[i], values[i] = 0, of[0]
				i++
			}
			if i == length {
				return
			}
			places[i]++
			values[i] = of[places[i]]
		}
	}
}

func TestMeansOfAllRowsOfSmallValues(t *testing.T) {
	rnd := rand.New(rand.NewPCG(13, 8))
	is, isNot := 0, 0
	for range 120 {
		g := drawn(rnd, 4)
		for _, j := range someJobs(rnd, g, rnd.IntN(5))[1:] {
			for values := range allRows(g.Vertices, row(-1, 0, 1, 2, 3, inf)) {
				s := behind(rnd.IntN(j.Steps+3)-1, values...)
				if rnd.IntN(2) == 0 {
					s.Step = j.Steps
				}
				want := plainMeans(g, j, s)
				mustMean(t, want, g, j, s)
				if want {
					is++
				} else {
					isNot++
				}
			}
		}
	}
	if is < 100 || isNot < 100 {
		t.Errorf("only %d mean a result, %d none", is, isNot)
	}
}

func TestMeansOfDrawnStates(t *testing.T) {
	rnd := rand.New(rand.NewPCG(13, 9))
	for range 500 {
		g := drawn(rnd, 9)
		for _, j := range someJobs(rnd, g, []int{0, 1, 2, 3, 5, 12}[rnd.IntN(6)]) {
			for k := range 8 {
				s, errno := seq.At(g, j, k)
				if errno != api.OK {
					t.Fatalf("At %d: error %d", k, errno)
				}
				mustMean(t, plainMeans(g, j, s), g, j, s)
				s.Step = j.Steps
				mustMean(t, plainMeans(g, j, s), g, j, s)
				s.Values[rnd.IntN(g.Vertices)] += rnd.Int64N(3) - 1
				mustMean(t, plainMeans(g, j, s), g, j, s)
			}
		}
	}
}

func TestMeansOfTheGreatestGraphs(t *testing.T) {
	rnd := rand.New(rand.NewPCG(13, 10))
	g := strewn(rnd, 512, 8192, 1<<31)
	for _, j := range []api.Job{ranks(30, one/2, 0), labels(2000), ways(2000, 511)} {
		s := mustRun(t, g, j)
		mustMean(t, true, g, j, s)
		s.Values[300]++
		mustMean(t, false, g, j, s)
		s.Step = j.Steps
		mustMean(t, false, g, j, s)
	}
	long := along(upward(512), heaviest)
	for _, steps := range []int{300, 510, 511, 512} {
		for _, j := range []api.Job{labels(steps), ways(steps, 0)} {
			s := behind(steps, plainAt(long, j, steps)...)
			mustMean(t, true, long, j, s)
			s.Step--
			mustMean(t, steps >= 511, long, j, s)
		}
	}
}

// P13.4

// withSpare tells a list with memory behind it.
func withSpare[T any](l []T, spare T) []T {
	return append(slices.Clone(l), spare, spare, spare)[:len(l)]
}

// whole tells all memory of a list, what lies behind it included.
func whole[T any](l []T) []T { return l[:cap(l)] }

// spoil overwrites all of a list's memory.
func spoil[T any](l []T, by T) {
	for i := range whole(l) {
		whole(l)[i] = by
	}
}

// handed is a graph and a state with memory behind their lists.
func handed(g api.Graph, s api.State) (api.Graph, api.State) {
	g.Edges = withSpare(g.Edges, api.Edge{From: 1, To: 1, Weight: 99})
	s.Values, s.Changed, s.Inbox = withSpare(s.Values, 99), withSpare(s.Changed, true), withSpare(s.Inbox, api.Mail{Has: true, Value: 99})
	return g, s
}

// wholeState tells a copy of all of a state's memory.
func wholeState(s api.State) api.State {
	s.Values, s.Changed, s.Inbox = whole(s.Values), whole(s.Changed), whole(s.Inbox)
	return copied(s)
}

func exact(a, b api.State) bool {
	return a.Step == b.Step && a.Sum == b.Sum && a.Most == b.Most && slices.Equal(a.Values, b.Values) &&
		slices.Equal(a.Changed, b.Changed) && slices.Equal(a.Inbox, b.Inbox)
}

func TestAnswersAreNewMemory(t *testing.T) {
	rnd := rand.New(rand.NewPCG(13, 11))
	for range 300 {
		g, _ := handed(drawn(rnd, 9), api.State{})
		was, source := slices.Clone(whole(g.Edges)), rnd.IntN(g.Vertices)
		for _, call := range []func() ([]int64, api.Errno){
			func() ([]int64, api.Errno) { return meaning.Labels(g) },
			func() ([]int64, api.Errno) { return meaning.Distances(g, source) },
		} {
			first, _ := call()
			want := slices.Clone(first)
			second, _ := call()
			spoil(first, -7)
			third, _ := call()
			if !slices.Equal(second, want) || !slices.Equal(third, want) {
				t.Errorf("of %v: %v, then %v and %v", g, want, second, third)
			}
		}
		if !slices.Equal(whole(g.Edges), was) {
			t.Errorf("edges became %v, of %v", whole(g.Edges), was)
		}
		labels, _ := meaning.Labels(g)
		far, _ := meaning.Distances(g, source)
		labelsWere, farWas := slices.Clone(labels), slices.Clone(far)
		spoil(g.Edges, api.Edge{From: 3, To: 3, Weight: 3})
		if !slices.Equal(labels, labelsWere) || !slices.Equal(far, farWas) {
			t.Errorf("answers changed with the edges: %v, %v", labels, far)
		}
	}
}

func TestRefusalsOnlyRead(t *testing.T) {
	for _, graphs := range noGraphs() {
		for _, bad := range graphs {
			g, s := handed(bad, behind(2, 0, 1))
			was := slices.Clone(whole(g.Edges))
			meaning.Labels(g)
			meaning.Distances(g, 0)
			meaning.Means(g, labels(5), s)
			if !slices.Equal(whole(g.Edges), was) {
				t.Errorf("edges became %v, of %v", whole(g.Edges), was)
			}
		}
	}
	g, _ := handed(example(), api.State{})
	was := slices.Clone(whole(g.Edges))
	meaning.Distances(g, -1)
	meaning.Distances(g, 4)
	if !slices.Equal(whole(g.Edges), was) {
		t.Errorf("edges became %v, of %v", whole(g.Edges), was)
	}
}

func TestMeansOnlyReads(t *testing.T) {
	rnd := rand.New(rand.NewPCG(13, 12))
	for range 150 {
		drawnGraph := drawn(rnd, 9)
		for _, j := range append(someJobs(rnd, drawnGraph, rnd.IntN(6)), api.Job{}) {
			end, _ := seq.Run(drawnGraph, j)
			for _, s := range append(othersOf(plainOf(drawnGraph.Vertices)), end, behind(j.Steps, end.Values...)) {
				g, s := handed(drawnGraph, s)
				edges, state := slices.Clone(whole(g.Edges)), wholeState(s)
				first := meaning.Means(g, j, s)
				if meaning.Means(g, j, s) != first {
					t.Errorf("Means of %v, %+v, %+v: %v, then not", g, j, s, first)
				}
				if !slices.Equal(whole(g.Edges), edges) || !exact(wholeState(s), state) {
					t.Fatalf("Means changed what it was handed: %v, %+v", g, s)
				}
			}
		}
	}
}

// plainOf is a state of the step 1: each value 5, nothing changed, no mail.
func plainOf(vertices int) api.State {
	return api.State{Step: 1, Values: same(vertices, 5), Changed: make([]bool, vertices), Inbox: make([]api.Mail, vertices)}
}

func TestMeansKeepsNothing(t *testing.T) {
	g, s := example(), behind(1, 0, 3, 1, inf)
	mustMean(t, true, g, ways(9, 0), s)
	s.Values[1] = 4
	mustMean(t, false, g, ways(9, 0), s)
	g.Edges[2].Weight = 3
	mustMean(t, true, g, ways(9, 0), s)
	g.Edges[2] = api.Edge{From: 3, To: 0}
	mustMean(t, true, g, labels(9), behind(1, 0, 0, 0, 0))
	mustMean(t, false, g, labels(9), behind(1, 0, 0, 0, 3))
	mustMean(t, true, example(), ways(9, 0), behind(1, 0, 3, 1, inf))
}

// P13.5

func TestWhatRunAnswersMeansTheResult(t *testing.T) {
	rnd := rand.New(rand.NewPCG(13, 13))
	for range 500 {
		g := drawn(rnd, 12)
		steps := []int{0, 1, 2, 3, 5, g.Vertices - 1, g.Vertices, g.Vertices + 1, 60, 2000}[rnd.IntN(10)]
		for _, j := range someJobs(rnd, g, steps) {
			mustMean(t, true, g, j, mustRun(t, g, j))
		}
	}
}

func TestRunComesToLabelsAndDistances(t *testing.T) {
	rnd := rand.New(rand.NewPCG(13, 14))
	for range 500 {
		g := drawn(rnd, 12)
		steps := g.Vertices + []int{0, 0, 1, 50}[rnd.IntN(4)]
		mustLabel(t, g, mustRun(t, g, labels(steps)).Values...)
		for source := range g.Vertices {
			end := mustRun(t, g, ways(steps, source))
			mustReach(t, g, source, end.Values...)
			far, _ := meaning.Distances(g, source)
			if !paths.Tight(g, source, far) || !paths.Tight(g, source, end.Values) {
				t.Errorf("of %v from %d: %v, %v are not tight", g, source, far, end.Values)
			}
		}
	}
}

func TestRunComesToTheEndsOfTheLongestRows(t *testing.T) {
	for _, list := range [][]int{upward(512), downward(512)} {
		g := along(list, heaviest)
		mustLabel(t, g, mustRun(t, g, labels(512)).Values...)
		end := mustRun(t, g, ways(512, list[0]))
		mustReach(t, g, list[0], end.Values...)
		if !paths.Tight(g, list[0], end.Values) {
			t.Errorf("from %d: %v", list[0], end.Values)
		}
	}
}

func TestNoOtherValuesMeanTheResult(t *testing.T) {
	rnd := rand.New(rand.NewPCG(13, 15))
	for range 300 {
		g := drawn(rnd, 10)
		for _, j := range someJobs(rnd, g, g.Vertices+rnd.IntN(4)) {
			end := mustRun(t, g, j)
			for v, value := range end.Values {
				for _, other := range []int64{value - 1, value + 1, 0, int64(v), inf, -1, greatest, least, rnd.Int64N(20)} {
					if other == value {
						continue
					}
					s := copied(end)
					s.Values[v] = other
					mustMean(t, false, g, j, s)
					if j.Kind != api.Rank {
						s.Step = j.Steps
						mustMean(t, false, g, j, s)
					}
				}
			}
		}
	}
}
