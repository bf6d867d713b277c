package seq_test

import (
	"math"
	"math/rand/v2"
	"slices"
	"testing"

	"treadwheel/algos"
	"treadwheel/api"
	"treadwheel/graph"
	"treadwheel/inbox"
	"treadwheel/paths"
	"treadwheel/seq"
)

const (
	one      int64 = 4294967296
	inf      int64 = 4611686018427387904
	heaviest int64 = 1<<31 - 1
	greatest int64 = math.MaxInt64
	least    int64 = math.MinInt64
)

// noDistances are numbers that no value of a state may be.
var noDistances = []int64{least, least + 1, -inf, -2, -1, inf + 1, inf + 2, greatest - 1, greatest}

// distances are numbers that a value of a state may be.
var distances = []int64{0, 1, 2, 3, 7, one - 1, one, one + 1, inf / 2, inf/2 + 1, inf - 2, inf - 1, inf}

func ranks(steps int, damp, eps int64) api.Job {
	return api.Job{Kind: 1, Steps: steps, Damp: damp, Eps: eps}
}

func labels(steps int) api.Job { return api.Job{Kind: 2, Steps: steps} }

func ways(steps, source int) api.Job { return api.Job{Kind: 3, Steps: steps, Source: source} }

func sent(value int64) api.Mail { return api.Mail{Has: true, Value: value} }

// none is no mail: whatever stands in it, nothing was sent.
func none(value int64) api.Mail { return api.Mail{Value: value} }

func mails(l ...api.Mail) []api.Mail { return l }

func row(values ...int64) []int64 { return values }

func bools(l ...bool) []bool { return l }

// graphOf has an edge for each row of From, To and Weight, rising.
func graphOf(vertices int, rows ...[3]int64) api.Graph {
	g := api.Graph{Vertices: vertices}
	for _, r := range rows {
		g.Edges = append(g.Edges, api.Edge{From: int(r[0]), To: int(r[1]), Weight: r[2]})
	}
	return g
}

// example is the chapters' graph.
func example() api.Graph {
	return graphOf(4, [3]int64{0, 1, 4}, [3]int64{0, 2, 1}, [3]int64{2, 1, 2})
}

// ring leads from each vertex to the next one, and from the last to the first.
func ring(vertices int, weight int64) api.Graph {
	g := api.Graph{Vertices: vertices}
	for v := range vertices {
		g.Edges = append(g.Edges, api.Edge{From: v, To: (v + 1) % vertices, Weight: weight})
	}
	return g
}

// line leads from each vertex to the next one.
func line(vertices int, weight int64) api.Graph {
	g := ring(vertices, weight)
	g.Edges = g.Edges[:vertices-1]
	return g
}

// star leads from the vertex 0 to each other one.
func star(vertices int) api.Graph {
	g := api.Graph{Vertices: vertices}
	for v := 1; v < vertices; v++ {
		g.Edges = append(g.Edges, api.Edge{From: 0, To: v, Weight: int64(v)})
	}
	return g
}

// dense has as many vertices and edges as a graph may have.
func dense() api.Graph {
	g := api.Graph{Vertices: 512}
	for v := range 512 {
		for to := range 16 {
			g.Edges = append(g.Edges, api.Edge{From: v, To: (v*7 + to*31) % 512, Weight: int64(v*to) % 97})
		}
	}
	slices.SortFunc(g.Edges, func(a, b api.Edge) int { return (a.From-b.From)*512 + a.To - b.To })
	return g
}

// drawn is a graph of up to so many vertices.
func drawn(rnd *rand.Rand, most int) api.Graph {
	g := api.Graph{Vertices: 1 + rnd.IntN(most)}
	oneIn := 1 + rnd.IntN(6)
	weights := []int64{1, 4, 1 << 31}[rnd.IntN(3)]
	for from := range g.Vertices {
		for to := range g.Vertices {
			if rnd.IntN(oneIn) == 0 {
				g.Edges = append(g.Edges, api.Edge{From: from, To: to, Weight: rnd.Int64N(weights)})
			}
		}
	}
	return g
}

// someJobs are jobs of each Kind that may be on a graph.
func someJobs(rnd *rand.Rand, g api.Graph) []api.Job {
	damp := []int64{0, 1, one / 2, one / 100 * 85, one - 1, one, rnd.Int64N(one + 1)}[rnd.IntN(7)]
	eps := []int64{0, 1, one / 1000, one / 10, rnd.Int64N(one + 1)}[rnd.IntN(5)]
	steps := []int{0, 1, 2, 5, 12, 2000}[rnd.IntN(6)]
	return []api.Job{ranks(steps, damp, eps), labels(steps), ways(steps, rnd.IntN(g.Vertices))}
}

// someState is one that may be, by hand: mostly no run comes to it.
func someState(rnd *rand.Rand, vertices int) api.State {
	s := api.State{Step: rnd.IntN(2000), Sum: someDistance(rnd), Most: someDistance(rnd)}
	for range vertices {
		mail := sent(someDistance(rnd))
		if rnd.IntN(3) == 0 {
			mail = none([]int64{0, -1, least, inf + 1, greatest, 5}[rnd.IntN(6)])
		}
		s.Values = append(s.Values, someDistance(rnd))
		s.Changed = append(s.Changed, rnd.IntN(2) == 0)
		s.Inbox = append(s.Inbox, mail)
	}
	return s
}

func someDistance(rnd *rand.Rand) int64 {
	if rnd.IntN(2) == 0 {
		return distances[rnd.IntN(len(distances))]
	}
	return int64(rnd.Uint64() >> (2 + rnd.IntN(61)))
}

// plainOf is a state that may be, of the step 3: each value 5, nothing changed, no mail.
func plainOf(vertices int) api.State {
	return api.State{
		Step:    3,
		Values:  slices.Repeat(row(5), vertices),
		Changed: make([]bool, vertices),
		Inbox:   make([]api.Mail, vertices),
	}
}

// exact: are states the same to the last field, the Value of mail without Has
// included? (It has no meaning in an answer, and is 0 there.)
func exact(a, b api.State) bool {
	return a.Step == b.Step && a.Sum == b.Sum && a.Most == b.Most && slices.Equal(a.Values, b.Values) &&
		slices.Equal(a.Changed, b.Changed) && slices.Equal(a.Inbox, b.Inbox)
}

// copied tells a state that shares nothing with one.
func copied(s api.State) api.State {
	s.Values, s.Changed, s.Inbox = slices.Clone(s.Values), slices.Clone(s.Changed), slices.Clone(s.Inbox)
	return s
}

func mustBe(t *testing.T, what string, got api.State, errno api.Errno, want api.State) {
	t.Helper()
	if errno != api.OK {
		t.Errorf("%s: error %d", what, errno)
	} else if !exact(got, want) {
		t.Errorf("%s: %+v, not %+v", what, got, want)
	}
}

func mustFail(t *testing.T, what string, got api.State, errno, want api.Errno) {
	t.Helper()
	if errno != want {
		t.Errorf("%s: error %d, not %d", what, errno, want)
	}
	if !exact(got, api.State{}) {
		t.Errorf("%s: %+v beside an error", what, got)
	}
}

func mustStart(t *testing.T, g api.Graph, j api.Job) api.State {
	t.Helper()
	s, errno := seq.Start(g, j)
	if errno != api.OK {
		t.Fatalf("Start of %+v, %+v: error %d", g, j, errno)
	}
	return s
}

func mustStep(t *testing.T, g api.Graph, j api.Job, s api.State) api.State {
	t.Helper()
	on, errno := seq.Step(g, j, s)
	if errno != api.OK {
		t.Fatalf("Step of %+v, %+v, %+v: error %d", g, j, s, errno)
	}
	return on
}

func mustAt(t *testing.T, g api.Graph, j api.Job, k int) api.State {
	t.Helper()
	s, errno := seq.At(g, j, k)
	if errno != api.OK {
		t.Fatalf("At of %+v, %+v, %d: error %d", g, j, k, errno)
	}
	return s
}

func mustRun(t *testing.T, g api.Graph, j api.Job) api.State {
	t.Helper()
	s, errno := seq.Run(g, j)
	if errno != api.OK {
		t.Fatalf("Run of %+v, %+v: error %d", g, j, errno)
	}
	return s
}

// What may not be, of all calls that answer errors

// noGraphs are graphs that may not be, by the error that graph.Check has for them.
func noGraphs() map[api.Errno][]api.Graph {
	tooMany := dense()
	tooMany.Edges = append(tooMany.Edges, api.Edge{From: 511, To: 511})
	return map[api.Errno][]api.Graph{
		api.ErrLimit: {{Vertices: 513}, {Vertices: math.MaxInt}, tooMany},
		api.ErrGraph: {
			{}, {Vertices: -1}, {Vertices: math.MinInt},
			graphOf(2, [3]int64{0, 2, 1}), graphOf(2, [3]int64{2, 0, 1}), graphOf(2, [3]int64{0, -1, 1}), graphOf(2, [3]int64{-1, 0, 1}),
			graphOf(2, [3]int64{0, 1, -1}), graphOf(2, [3]int64{0, 1, heaviest + 1}),
			graphOf(2, [3]int64{0, 1, 1}, [3]int64{0, 1, 2}), graphOf(2, [3]int64{0, 1, 1}, [3]int64{0, 0, 1}), graphOf(2, [3]int64{1, 0, 1}, [3]int64{0, 1, 1}),
		},
	}
}

// noJobs are jobs that may not be on a graph of four vertices.
func noJobs() []api.Job {
	return []api.Job{
		{}, {Kind: 0, Steps: 5}, {Kind: 4, Steps: 5}, {Kind: 255, Steps: 5},
		ranks(-1, one, 0), ranks(2001, one, 0), ranks(math.MinInt, one, 0), ranks(math.MaxInt, one, 0),
		ranks(5, -1, 0), ranks(5, one+1, 0), ranks(5, one, -1), ranks(5, one, one+1), {Kind: 1, Steps: 5, Source: 1}, {Kind: 1, Steps: 5, Source: -1},
		labels(-1), labels(2001), {Kind: 2, Steps: 5, Source: 1}, {Kind: 2, Steps: 5, Damp: 1}, {Kind: 2, Steps: 5, Eps: 1},
		ways(-1, 0), ways(2001, 0), ways(5, -1), ways(5, 4), ways(5, math.MaxInt), {Kind: 3, Steps: 5, Damp: 1}, {Kind: 3, Steps: 5, Eps: 1},
	}
}

// mustAllFail asks all calls for the same error, which comes ahead of ErrState.
func mustAllFail(t *testing.T, g api.Graph, j api.Job, want api.Errno) {
	t.Helper()
	s, errno := seq.Start(g, j)
	mustFail(t, "Start", s, errno, want)
	s, errno = seq.Run(g, j)
	mustFail(t, "Run", s, errno, want)
	for _, k := range []int{math.MinInt, -1, 0, 1, 2000, 2001, math.MaxInt} {
		s, errno = seq.At(g, j, k)
		mustFail(t, "At", s, errno, want)
	}
	bad := plainOf(4)
	bad.Step = -1
	for _, state := range []api.State{{}, plainOf(1), plainOf(2), plainOf(4), bad} {
		s, errno = seq.Step(g, j, state)
		mustFail(t, "Step", s, errno, want)
	}
}

func TestGraphsThatMayNotBe(t *testing.T) {
	for want, graphs := range noGraphs() {
		for _, g := range graphs {
			for _, j := range []api.Job{ranks(5, one/2, 0), labels(5), ways(5, 0), {}, labels(-1)} {
				mustAllFail(t, g, j, want)
			}
		}
	}
}

func TestJobsThatMayNotBe(t *testing.T) {
	for _, j := range noJobs() {
		mustAllFail(t, example(), j, api.ErrJob)
	}
	for kind := range 256 {
		if kind < 1 || kind > 3 {
			mustAllFail(t, example(), api.Job{Kind: uint8(kind), Steps: 5}, api.ErrJob)
		}
	}
}

// P12.1

func TestStartOfTheExamples(t *testing.T) {
	s, errno := seq.Start(example(), ways(9, 0))
	mustBe(t, "Paths", s, errno, api.State{
		Values:  row(0, inf, inf, inf),
		Changed: bools(true, false, false, false),
		Inbox:   mails(none(0), sent(4), sent(1), none(0)),
	})
	s, errno = seq.Start(example(), labels(9))
	mustBe(t, "Label", s, errno, api.State{
		Values:  row(0, 1, 2, 3),
		Changed: bools(true, true, true, true),
		Inbox:   mails(sent(1), sent(0), sent(0), none(0)),
	})
	s, errno = seq.Start(example(), ranks(9, one/2, 0))
	mustBe(t, "Rank", s, errno, api.State{
		Values:  row(one/4, one/4, one/4, one/4),
		Changed: bools(true, true, true, true),
		Inbox:   mails(none(0), sent(one/8+one/4), sent(one/8), none(0)),
		Sum:     one / 2,
	})
}

func TestStartOfNoSteps(t *testing.T) {
	for _, j := range []api.Job{ranks(0, one/2, 0), labels(0), ways(0, 2)} {
		more := j
		more.Steps = 9
		s, errno := seq.Start(example(), j)
		mustBe(t, "Start of 0 Steps", s, errno, mustStart(t, example(), more))
		mustBe(t, "Start of 0 Steps", s, errno, plainStart(example(), j))
	}
}

func TestStartOfOneVertex(t *testing.T) {
	alone, toItself := graphOf(1), graphOf(1, [3]int64{0, 0, 6})
	s, errno := seq.Start(alone, ranks(5, one, 0))
	mustBe(t, "Rank alone", s, errno, api.State{Values: row(one), Changed: bools(true), Inbox: mails(none(0)), Sum: one})
	s, errno = seq.Start(toItself, ranks(5, one, 0))
	mustBe(t, "Rank to itself", s, errno, api.State{Values: row(one), Changed: bools(true), Inbox: mails(sent(one))})
	for _, g := range []api.Graph{alone, toItself} {
		s, errno = seq.Start(g, labels(5))
		mustBe(t, "Label", s, errno, api.State{Values: row(0), Changed: bools(true), Inbox: mails(none(0))})
	}
	s, errno = seq.Start(alone, ways(5, 0))
	mustBe(t, "Paths alone", s, errno, api.State{Values: row(0), Changed: bools(true), Inbox: mails(none(0))})
	s, errno = seq.Start(toItself, ways(5, 0))
	mustBe(t, "Paths to itself", s, errno, api.State{Values: row(0), Changed: bools(true), Inbox: mails(sent(6))})
}

func TestStartOfVerticesWithoutEdges(t *testing.T) {
	for _, vertices := range []int{1, 2, 3, 7, 512} {
		share := one / int64(vertices)
		s, errno := seq.Start(api.Graph{Vertices: vertices}, ranks(5, one/2, 0))
		mustBe(t, "Rank", s, errno, api.State{
			Values:  slices.Repeat(row(share), vertices),
			Changed: slices.Repeat(bools(true), vertices),
			Inbox:   make([]api.Mail, vertices),
			Sum:     share * int64(vertices),
		})
	}
	// Only the vertex that an edge leads from loses nothing.
	if s := mustStart(t, graphOf(7, [3]int64{2, 3, 1}), ranks(5, one/2, 0)); s.Sum != one/7*6 {
		t.Errorf("Sum of Rank: %d", s.Sum)
	}
	for _, j := range []api.Job{labels(5), ways(5, 1)} {
		if s := mustStart(t, api.Graph{Vertices: 7}, j); s.Sum != 0 || s.Most != 0 {
			t.Errorf("Start of %+v: %+v", j, s)
		}
	}
}

func TestStartOfSeveralEdgesFromOneVertex(t *testing.T) {
	g := star(5)
	share := one / 5
	s, errno := seq.Start(g, ranks(5, one, 0))
	mustBe(t, "Rank", s, errno, api.State{
		Values:  row(share, share, share, share, share),
		Changed: bools(true, true, true, true, true),
		Inbox:   mails(none(0), sent(share/4), sent(share/4), sent(share/4), sent(share/4)),
		Sum:     share * 4,
	})
	s, errno = seq.Start(g, labels(5))
	mustBe(t, "Label", s, errno, api.State{
		Values:  row(0, 1, 2, 3, 4),
		Changed: bools(true, true, true, true, true),
		Inbox:   mails(sent(1), sent(0), sent(0), sent(0), sent(0)),
	})
	s, errno = seq.Start(g, ways(5, 0))
	mustBe(t, "Paths", s, errno, api.State{
		Values:  row(0, inf, inf, inf, inf),
		Changed: bools(true, false, false, false, false),
		Inbox:   mails(none(0), sent(1), sent(2), sent(3), sent(4)),
	})
}

func TestStartOfPathsFromEachVertex(t *testing.T) {
	g := ring(6, heaviest)
	for source := range 6 {
		want := api.State{Values: slices.Repeat(row(inf), 6), Changed: make([]bool, 6), Inbox: make([]api.Mail, 6)}
		want.Values[source], want.Changed[source], want.Inbox[(source+1)%6] = 0, true, sent(heaviest)
		s, errno := seq.Start(g, ways(5, source))
		mustBe(t, "Paths", s, errno, want)
	}
}

func TestStartOfDrawnGraphs(t *testing.T) {
	rnd := rand.New(rand.NewPCG(12, 1))
	for range 600 {
		g := drawn(rnd, 12)
		for _, j := range someJobs(rnd, g) {
			s, errno := seq.Start(g, j)
			mustBe(t, "Start", s, errno, plainStart(g, j))
		}
	}
}

func TestStartOfTheGreatestGraph(t *testing.T) {
	for _, j := range []api.Job{ranks(2000, one/2, 0), labels(2000), ways(2000, 511)} {
		s, errno := seq.Start(dense(), j)
		mustBe(t, "Start", s, errno, plainStart(dense(), j))
		s, errno = seq.Start(api.Graph{Vertices: 512}, j)
		mustBe(t, "Start", s, errno, plainStart(api.Graph{Vertices: 512}, j))
	}
}

// P12.2

func TestStepOfTheExamples(t *testing.T) {
	walk(t, ways(9, 0),
		api.State{Step: 1, Values: row(0, 4, 1, inf), Changed: bools(false, true, true, false), Inbox: mails(none(0), sent(3), none(0), none(0)), Most: 2},
		api.State{Step: 2, Values: row(0, 3, 1, inf), Changed: bools(false, true, false, false), Inbox: make([]api.Mail, 4), Most: 1},
		api.State{Step: 3, Values: row(0, 3, 1, inf), Changed: make([]bool, 4), Inbox: make([]api.Mail, 4)},
		api.State{Step: 4, Values: row(0, 3, 1, inf), Changed: make([]bool, 4), Inbox: make([]api.Mail, 4)},
	)
	walk(t, labels(9),
		api.State{Step: 1, Values: row(0, 0, 0, 3), Changed: bools(false, true, true, false), Inbox: mails(sent(0), sent(0), sent(0), none(0)), Most: 2},
		api.State{Step: 2, Values: row(0, 0, 0, 3), Changed: make([]bool, 4), Inbox: make([]api.Mail, 4)},
		api.State{Step: 3, Values: row(0, 0, 0, 3), Changed: make([]bool, 4), Inbox: make([]api.Mail, 4)},
	)
	walk(t, ranks(9, one/2, 0),
		api.State{
			Step: 1, Values: row(805306368, 1610612736, 1073741824, 805306368), Changed: bools(true, true, false, true),
			Inbox: mails(none(0), sent(1476395008), sent(402653184), none(0)), Sum: 2415919104, Most: 536870912,
		},
		api.State{
			Step: 2, Values: row(838860800, 1577058304, 1040187392, 838860800), Changed: bools(true, true, true, true),
			Inbox: mails(none(0), sent(1459617792), sent(419430400), none(0)), Sum: 2415919104, Most: 33554432,
		},
	)
}

// walk goes on from Start by states on the chapters' graph.
func walk(t *testing.T, j api.Job, want ...api.State) {
	t.Helper()
	s := mustStart(t, example(), j)
	for _, w := range want {
		on, errno := seq.Step(example(), j, s)
		mustBe(t, "Step", on, errno, w)
		s = on
	}
}

func TestStepOfStepsThatMayNotBe(t *testing.T) {
	for _, j := range []api.Job{ranks(5, one/2, 0), labels(5), ways(5, 0)} {
		for _, step := range []int{math.MinInt, math.MinInt + 1, -2000, -2, -1, 2000, 2001, 1 << 32, math.MaxInt - 1, math.MaxInt} {
			s := plainOf(4)
			s.Step = step
			on, errno := seq.Step(example(), j, s)
			mustFail(t, "Step", on, errno, api.ErrState)
		}
	}
}

func TestStepOfStepsThatMayBe(t *testing.T) {
	for _, steps := range []int{0, 1, 5, 2000} {
		for _, j := range []api.Job{ranks(steps, one/2, one), labels(steps), ways(steps, 0)} {
			for _, step := range []int{0, 1, 4, 5, 6, 1998, 1999} {
				s := plainOf(4)
				s.Step = step
				on, errno := seq.Step(example(), j, s)
				mustBe(t, "Step", on, errno, plainStep(example(), j, s))
			}
		}
	}
}

func TestStepOfRowsOfUnlikeLengths(t *testing.T) {
	jobs := []api.Job{ranks(5, one/2, 0), labels(5), ways(5, 0)}
	for _, length := range []int{0, 1, 3, 5, 8, 512, 513} {
		other := plainOf(length)
		for _, j := range jobs {
			s := plainOf(4)
			s.Values = other.Values
			on, errno := seq.Step(example(), j, s)
			mustFail(t, "Step of so many Values", on, errno, api.ErrState)
			s = plainOf(4)
			s.Changed = other.Changed
			on, errno = seq.Step(example(), j, s)
			mustFail(t, "Step of so many Changed", on, errno, api.ErrState)
			s = plainOf(4)
			s.Inbox = other.Inbox
			on, errno = seq.Step(example(), j, s)
			mustFail(t, "Step of so much mail", on, errno, api.ErrState)
			on, errno = seq.Step(example(), j, other)
			mustFail(t, "Step of another graph's state", on, errno, api.ErrState)
		}
	}
	for _, j := range jobs {
		for _, s := range []api.State{{}, {Values: row(), Changed: bools(), Inbox: mails()}} {
			on, errno := seq.Step(example(), j, s)
			mustFail(t, "Step of no rows", on, errno, api.ErrState)
		}
	}
}

// mustTake asks that a state is taken, and goes on as the chapter says.
func mustTake(t *testing.T, j api.Job, s api.State) {
	t.Helper()
	on, errno := seq.Step(example(), j, s)
	mustBe(t, "Step", on, errno, plainStep(example(), j, s))
}

// mustRefuse asks that a state is none.
func mustRefuse(t *testing.T, j api.Job, s api.State) {
	t.Helper()
	on, errno := seq.Step(example(), j, s)
	mustFail(t, "Step", on, errno, api.ErrState)
}

func TestStepOfValues(t *testing.T) {
	for _, j := range []api.Job{ranks(5, one/2, 0), labels(5), ways(5, 0)} {
		for v := range 4 {
			for _, value := range distances {
				s := plainOf(4)
				s.Values[v] = value
				mustTake(t, j, s)
			}
			for _, value := range noDistances {
				s := plainOf(4)
				s.Values[v] = value
				mustRefuse(t, j, s)
			}
		}
	}
}

func TestStepOfMail(t *testing.T) {
	for _, j := range []api.Job{ranks(5, one/2, 0), labels(5), ways(5, 0)} {
		for v := range 4 {
			for _, value := range distances {
				s := plainOf(4)
				s.Inbox[v] = sent(value)
				mustTake(t, j, s)
				s.Inbox[v] = none(value)
				mustTake(t, j, s)
			}
			for _, value := range noDistances {
				s := plainOf(4)
				s.Inbox[v] = none(value)
				mustTake(t, j, s)
				s.Inbox[v] = sent(value)
				mustRefuse(t, j, s)
			}
		}
	}
}

func TestStepOfTotals(t *testing.T) {
	for _, j := range []api.Job{ranks(5, one/2, 0), labels(5), ways(5, 0)} {
		for _, n := range distances {
			s := plainOf(4)
			s.Sum = n
			mustTake(t, j, s)
			s = plainOf(4)
			s.Most = n
			mustTake(t, j, s)
		}
		for _, n := range noDistances {
			s := plainOf(4)
			s.Sum = n
			mustRefuse(t, j, s)
			s = plainOf(4)
			s.Most = n
			mustRefuse(t, j, s)
		}
	}
}

func TestStepGoesNotByMostNorChangedAhead(t *testing.T) {
	for _, j := range []api.Job{ranks(5, one/2, 0), labels(5), ways(5, 0)} {
		s := plainOf(4)
		s.Inbox[2] = sent(3)
		want := mustStep(t, example(), j, s)
		for _, most := range distances {
			s.Most, s.Changed = most, bools(true, true, false, true)
			on, errno := seq.Step(example(), j, s)
			mustBe(t, "Step", on, errno, want)
		}
		if j.Kind != api.Rank {
			s.Sum = inf
			on, errno := seq.Step(example(), j, s)
			mustBe(t, "Step of another Sum", on, errno, want)
		}
	}
}

func TestStepTellsAgainstTheValuesAhead(t *testing.T) {
	// With damp 0 all have One by the vertices next, whatever was ahead.
	s := plainOf(4)
	s.Values = row(one/4, one, 0, one/4+1)
	on, errno := seq.Step(example(), ranks(9, 0, 0), s)
	mustBe(t, "Rank", on, errno, api.State{
		Step: 4, Values: row(one/4, one/4, one/4, one/4), Changed: bools(false, true, true, true),
		Inbox: mails(none(0), sent(one/8+one/4), sent(one/8), none(0)), Sum: one / 2, Most: one / 4 * 3,
	})
	// What rises counts as what falls does.
	s.Values = row(one/4, one/4, 0, one/4)
	if on := mustStep(t, example(), ranks(9, 0, 0), s); on.Most != one/4 {
		t.Errorf("Most: %d", on.Most)
	}
	s.Values = row(one/4, one/4, one/4, inf)
	if on := mustStep(t, example(), ranks(9, 0, 0), s); on.Most != inf-one/4 {
		t.Errorf("Most: %d", on.Most)
	}
	s = plainOf(4)
	s.Values, s.Changed, s.Most = row(7, 7, 7, 7), bools(true, true, true, true), 4
	s.Inbox = mails(sent(7), sent(6), sent(8), none(1))
	for _, j := range []api.Job{labels(9), ways(9, 0)} {
		on := mustStep(t, example(), j, s)
		if !slices.Equal(on.Values, row(7, 6, 7, 7)) || !slices.Equal(on.Changed, bools(false, true, false, false)) || on.Most != 1 || on.Sum != 0 {
			t.Errorf("%+v: %+v", j, on)
		}
	}
}

func TestStepOfTheGreatestNumbers(t *testing.T) {
	s := api.State{Values: row(inf, inf, inf, inf), Changed: bools(true, true, true, true), Inbox: mails(sent(inf), sent(inf), sent(inf), sent(inf)), Sum: inf, Most: inf}
	for _, damp := range []int64{0, 1, one / 2, one - 1, one} {
		on := mustStep(t, example(), ranks(5, damp, 0), s)
		mustBe(t, "Rank", on, api.OK, plainStep(example(), ranks(5, damp, 0), s))
		if !plainMayBe(example(), on) {
			t.Errorf("damp %d: %+v may not be", damp, on)
		}
	}
	if on := mustStep(t, example(), ranks(5, one, 0), s); on.Sum != inf || on.Values[0] != inf || on.Most != 0 {
		t.Errorf("Rank: %+v", on)
	}
	s.Inbox = mails(sent(inf-1), sent(inf-1), sent(inf-1), sent(inf-1))
	on, errno := seq.Step(example(), ways(5, 0), s)
	mustBe(t, "Paths", on, errno, api.State{
		Step: 1, Values: row(inf-1, inf-1, inf-1, inf-1), Changed: bools(true, true, true, true),
		Inbox: mails(none(0), sent(inf), sent(inf), none(0)), Most: 4,
	})
}

func TestStepOfStatesThatNoRunComesTo(t *testing.T) {
	rnd := rand.New(rand.NewPCG(12, 2))
	for range 2000 {
		g := drawn(rnd, 10)
		s := someState(rnd, g.Vertices)
		for _, j := range someJobs(rnd, g) {
			want := plainStep(g, j, s)
			on, errno := seq.Step(g, j, s)
			mustBe(t, "Step", on, errno, want)
			if !plainMayBe(g, on) {
				t.Errorf("%+v may not be", on)
			}
		}
	}
}

func TestStepOfTheGreatestGraph(t *testing.T) {
	rnd := rand.New(rand.NewPCG(12, 3))
	for _, j := range []api.Job{ranks(2000, one/2, 0), labels(2000), ways(2000, 511)} {
		s := someState(rnd, 512)
		on, errno := seq.Step(dense(), j, s)
		mustBe(t, "Step", on, errno, plainStep(dense(), j, s))
	}
}

// P12.3

func TestAtOfNumbersThatMayNotBe(t *testing.T) {
	for _, j := range []api.Job{ranks(5, one/2, 0), labels(5), ways(5, 0), labels(0), labels(2000)} {
		for _, k := range []int{math.MinInt, math.MinInt + 1, -2001, -2000, -2, -1, 2001, 2002, 1 << 32, math.MaxInt - 1, math.MaxInt} {
			s, errno := seq.At(example(), j, k)
			mustFail(t, "At", s, errno, api.ErrState)
		}
	}
}

func TestAtIsStepSoManyTimes(t *testing.T) {
	rnd := rand.New(rand.NewPCG(12, 4))
	for range 60 {
		g := drawn(rnd, 9)
		for _, j := range someJobs(rnd, g) {
			s := plainStart(g, j)
			for k := range 16 {
				got, errno := seq.At(g, j, k)
				mustBe(t, "At", got, errno, s)
				s = mustStep(t, g, j, s)
			}
		}
	}
}

func TestAtGoesPastTheSteps(t *testing.T) {
	for _, steps := range []int{0, 1, 2, 3, 2000} {
		for k, want := range [][]int64{row(0, inf, inf, inf), row(0, 4, 1, inf), row(0, 3, 1, inf), row(0, 3, 1, inf), row(0, 3, 1, inf)} {
			if s := mustAt(t, example(), ways(steps, 0), k); s.Step != k || !slices.Equal(s.Values, want) {
				t.Errorf("At of %d Steps, %d: %+v", steps, k, s)
			}
		}
		for _, k := range []int{steps, min(steps+1, 2000), min(steps+7, 2000)} {
			got, errno := seq.At(example(), ranks(steps, one/2, one), k)
			mustBe(t, "At past what is done", got, errno, mustAt(t, example(), ranks(2000, one/2, 0), k))
		}
	}
}

func TestAtOfAsManyAsThereMayBe(t *testing.T) {
	for _, g := range []api.Graph{example(), graphOf(1), ring(5, 3)} {
		for _, j := range []api.Job{ranks(3, one/100*85, 0), labels(3), ways(3, 0)} {
			s := mustStart(t, g, j)
			for range 1999 {
				s = mustStep(t, g, j, s)
			}
			got, errno := seq.At(g, j, 1999)
			mustBe(t, "At 1999", got, errno, s)
			s = mustStep(t, g, j, s)
			got, errno = seq.At(g, j, 2000)
			mustBe(t, "At 2000", got, errno, s)
			s, errno = seq.Step(g, j, got)
			mustFail(t, "Step at 2000", s, errno, api.ErrState)
		}
	}
}

// P12.4

func TestRunOfTheExamples(t *testing.T) {
	s, errno := seq.Run(example(), ways(9, 0))
	mustBe(t, "Paths", s, errno, api.State{Step: 3, Values: row(0, 3, 1, inf), Changed: make([]bool, 4), Inbox: make([]api.Mail, 4)})
	s, errno = seq.Run(example(), labels(9))
	mustBe(t, "Label", s, errno, api.State{Step: 2, Values: row(0, 0, 0, 3), Changed: make([]bool, 4), Inbox: make([]api.Mail, 4)})
	s, errno = seq.Run(example(), labels(0))
	mustBe(t, "Label of 0 Steps", s, errno, plainStart(example(), labels(0)))
}

func TestRunOfNoSteps(t *testing.T) {
	for _, g := range []api.Graph{example(), graphOf(1), ring(512, 1), dense()} {
		for _, j := range []api.Job{ranks(0, one/2, 0), ranks(0, one, one), labels(0), ways(0, 0)} {
			s, errno := seq.Run(g, j)
			mustBe(t, "Run of 0 Steps", s, errno, mustStart(t, g, j))
		}
	}
}

func TestRunAheadOfTheSteps(t *testing.T) {
	// What the vertex 0 sends gets through a line of nine in 8 steps; in the ninth nothing changes.
	for _, j := range []api.Job{labels(8), ways(8, 0)} {
		for steps := 1; steps < 13; steps++ {
			j.Steps = steps
			s := mustRun(t, line(9, 1), j)
			if s.Step != min(steps, 9) || (s.Most == 0) != (steps >= 9) {
				t.Errorf("%+v: %+v", j, s)
			}
		}
		j.Steps = 2000
		if s := mustRun(t, line(512, 1), j); s.Step != 512 || s.Most != 0 {
			t.Errorf("%+v: done at %d", j, s.Step)
		}
		// Nothing changes at all, but that is known behind a step alone.
		if s := mustRun(t, graphOf(3), j); s.Step != 1 {
			t.Errorf("%+v: done at %d", j, s.Step)
		}
	}
}

func TestRunOfRank(t *testing.T) {
	// On a ring all ranks stay as they are: Eps 0 is enough.
	for _, steps := range []int{1, 2, 2000} {
		if s := mustRun(t, ring(4, 1), ranks(steps, one/2, 0)); s.Step != 1 || s.Most != 0 || slices.Contains(s.Changed, true) {
			t.Errorf("Run on a ring, %d Steps: %+v", steps, s)
		}
	}
	// On the example they change in each of the first steps.
	for _, steps := range []int{1, 2, 3, 4, 5} {
		if s := mustRun(t, example(), ranks(steps, one/2, 0)); s.Step != steps || s.Most == 0 {
			t.Errorf("Run of %d Steps: %+v", steps, s)
		}
	}
	// The changes of the first two steps are 536870912 and 33554432.
	for eps, want := range map[int64]int{one: 1, 536870913: 1, 536870912: 1, 536870911: 2, 33554432: 2} {
		if s := mustRun(t, example(), ranks(2000, one/2, eps)); s.Step != want {
			t.Errorf("Run of Eps %d: done at %d", eps, s.Step)
		}
	}
	if s := mustRun(t, example(), ranks(2000, one/2, 33554431)); s.Step < 3 || s.Most > 33554431 {
		t.Errorf("Run: %+v", s)
	}
	// Two that give each other all they have: what they have never comes to rest.
	swings := graphOf(3, [3]int64{0, 1, 1}, [3]int64{1, 0, 1}, [3]int64{2, 0, 1})
	s := mustRun(t, swings, ranks(2000, one, 0))
	if s.Step != 2000 || s.Most == 0 {
		t.Errorf("Run of what swings: %+v", s)
	}
	mustBe(t, "Run of what swings", s, api.OK, mustAt(t, swings, ranks(0, one, 0), 2000))
}

func TestRunIsTheFirstThatIsDone(t *testing.T) {
	rnd := rand.New(rand.NewPCG(12, 5))
	for range 300 {
		g := drawn(rnd, 9)
		for _, j := range someJobs(rnd, g) {
			if j.Steps == 2000 {
				j.Steps = 40
			}
			s := plainStart(g, j)
			for !plainDone(j, s) {
				s = plainStep(g, j, s)
			}
			got, errno := seq.Run(g, j)
			mustBe(t, "Run", got, errno, s)
			mustBe(t, "At", mustAt(t, g, j, s.Step), api.OK, s)
		}
	}
}

func TestRunOfTheGreatestGraph(t *testing.T) {
	for _, j := range []api.Job{ranks(40, one/100*85, 0), labels(2000), ways(2000, 511)} {
		s := mustRun(t, dense(), j)
		if s.Step > j.Steps || !algos.Done(j, s.Step, s.Most) || algos.Done(j, s.Step-1, mustAt(t, dense(), j, s.Step-1).Most) {
			t.Errorf("Run of %+v: done at %d", j, s.Step)
		}
		mustBe(t, "At", mustAt(t, dense(), j, s.Step), api.OK, s)
	}
}

// P12.5

func mustBeSame(t *testing.T, a, b api.State, want bool) {
	t.Helper()
	if got := seq.Same(a, b); got != want {
		t.Errorf("Same(%+v, %+v): %v", a, b, got)
	}
	if got := seq.Same(b, a); got != want {
		t.Errorf("Same(%+v, %+v): %v", b, a, got)
	}
}

// other is a state with some of all in it.
func other() api.State {
	return api.State{Step: 3, Values: row(4, 0, inf), Changed: bools(true, false, true), Inbox: mails(sent(5), none(0), sent(0)), Sum: 8, Most: 9}
}

func TestSameOfTheSame(t *testing.T) {
	mustBeSame(t, other(), other(), true)
	mustBeSame(t, api.State{}, api.State{}, true)
	mustBeSame(t, api.State{}, api.State{Values: row(), Changed: bools(), Inbox: mails()}, true)
	mustBeSame(t, api.State{Values: row()}, api.State{Inbox: mails()}, true)
	wrong := api.State{Step: math.MinInt, Values: row(least), Changed: bools(true, true), Inbox: mails(sent(greatest), sent(-1), none(2)), Sum: -1, Most: greatest}
	mustBeSame(t, wrong, copied(wrong), true)
	roomy := other()
	roomy.Values, roomy.Changed, roomy.Inbox = withSpare(roomy.Values, 99), withSpare(roomy.Changed, true), withSpare(roomy.Inbox, sent(99))
	mustBeSame(t, other(), roomy, true)
}

func TestSameOfOtherNumbers(t *testing.T) {
	for _, change := range []func(*api.State){
		func(s *api.State) { s.Step++ },
		func(s *api.State) { s.Step = -3 },
		func(s *api.State) { s.Sum-- },
		func(s *api.State) { s.Most-- },
		func(s *api.State) { s.Sum, s.Most = s.Most, s.Sum },
		func(s *api.State) { s.Values[0]++ },
		func(s *api.State) { s.Values[1]-- },
		func(s *api.State) { s.Values[2] = greatest },
		func(s *api.State) { s.Changed[0] = false },
		func(s *api.State) { s.Changed[1] = true },
		func(s *api.State) { s.Changed[2] = false },
		func(s *api.State) { s.Inbox[0].Has = false },
		func(s *api.State) { s.Inbox[1].Has = true },
		func(s *api.State) { s.Inbox[2].Has = false },
		func(s *api.State) { s.Inbox[0].Value++ },
		func(s *api.State) { s.Inbox[2].Value-- },
	} {
		s := other()
		change(&s)
		mustBeSame(t, s, other(), false)
	}
}

func TestSameOfMailWithoutHas(t *testing.T) {
	for _, value := range append(slices.Clone(distances), noDistances...) {
		s := other()
		s.Inbox[1] = none(value)
		mustBeSame(t, s, other(), true)
	}
}

func TestSameOfRowsOfUnlikeLengths(t *testing.T) {
	for _, change := range []func(*api.State){
		func(s *api.State) { s.Values = s.Values[:2] },
		func(s *api.State) { s.Values = append(s.Values, 0) },
		func(s *api.State) { s.Values = nil },
		func(s *api.State) { s.Values = row() },
		func(s *api.State) { s.Changed = s.Changed[:2] },
		func(s *api.State) { s.Changed = append(s.Changed, false) },
		func(s *api.State) { s.Changed = nil },
		func(s *api.State) { s.Changed = bools() },
		func(s *api.State) { s.Inbox = s.Inbox[:2] },
		func(s *api.State) { s.Inbox = append(s.Inbox, none(0)) },
		func(s *api.State) { s.Inbox = nil },
		func(s *api.State) { s.Inbox = mails() },
	} {
		s := other()
		change(&s)
		mustBeSame(t, s, other(), false)
	}
	mustBeSame(t, other(), api.State{}, false)
}

func TestSameOfStatesOfRuns(t *testing.T) {
	for _, j := range []api.Job{ranks(9, one/2, 0), labels(9), ways(9, 0)} {
		for k := range 3 {
			s := mustAt(t, example(), j, k)
			mustBeSame(t, s, plainOf(4), false)
			for i := range 3 {
				mustBeSame(t, s, mustAt(t, example(), j, i), i == k)
			}
			for v := range s.Inbox {
				if !s.Inbox[v].Has {
					s.Inbox[v].Value = 77
				}
			}
			mustBeSame(t, s, mustAt(t, example(), j, k), true)
		}
	}
}

// P12.6

// withSpare tells a list with memory behind it.
func withSpare[T any](l []T, behind T) []T {
	return append(slices.Clone(l), behind, behind, behind)[:len(l)]
}

// whole tells all memory of a list, what lies behind it included.
func whole[T any](l []T) []T { return l[:cap(l)] }

// spoil overwrites all of a list's memory.
func spoil[T any](l []T, by T) {
	for i := range whole(l) {
		whole(l)[i] = by
	}
}

// spoilState overwrites all of a state's memory.
func spoilState(s api.State) {
	spoil(s.Values, 99)
	for i := range whole(s.Changed) {
		whole(s.Changed)[i] = !whole(s.Changed)[i]
	}
	spoil(s.Inbox, sent(99))
}

// wholeState tells a copy of all of a state's memory.
func wholeState(s api.State) api.State {
	s.Values, s.Changed, s.Inbox = whole(s.Values), whole(s.Changed), whole(s.Inbox)
	return copied(s)
}

// handed is a graph and a state of it with memory behind their lists.
func handed(g api.Graph, s api.State) (api.Graph, api.State) {
	g.Edges = withSpare(g.Edges, api.Edge{From: 1, To: 1, Weight: 99})
	s.Values, s.Changed, s.Inbox = withSpare(s.Values, 99), withSpare(s.Changed, true), withSpare(s.Inbox, sent(99))
	return g, s
}

// calls are all that answer a state, of a graph, a job, and a state.
func calls() []func(api.Graph, api.Job, api.State) (api.State, api.Errno) {
	return []func(api.Graph, api.Job, api.State) (api.State, api.Errno){
		func(g api.Graph, j api.Job, s api.State) (api.State, api.Errno) { return seq.Start(g, j) },
		func(g api.Graph, j api.Job, s api.State) (api.State, api.Errno) { return seq.Step(g, j, s) },
		func(g api.Graph, j api.Job, s api.State) (api.State, api.Errno) { return seq.At(g, j, 0) },
		func(g api.Graph, j api.Job, s api.State) (api.State, api.Errno) { return seq.At(g, j, 2) },
		func(g api.Graph, j api.Job, s api.State) (api.State, api.Errno) { return seq.Run(g, j) },
	}
}

func TestCallsOnlyReadAndAnswerNewMemory(t *testing.T) {
	rnd := rand.New(rand.NewPCG(12, 6))
	for range 60 {
		drawnGraph := drawn(rnd, 7)
		for _, j := range someJobs(rnd, drawnGraph) {
			for _, s := range []api.State{someState(rnd, drawnGraph.Vertices), plainStart(drawnGraph, j)} {
				for i, call := range calls() {
					g, s := handed(drawnGraph, s)
					edges, state := slices.Clone(whole(g.Edges)), wholeState(s)
					first, errno := call(g, j, s)
					second, again := call(g, j, s)
					if errno != api.OK || again != api.OK {
						t.Fatalf("call %d: errors %d, %d", i, errno, again)
					}
					want := copied(first)
					mustBe(t, "a second call", second, again, want)
					spoilState(first)
					mustBe(t, "a second call's answer", second, again, want)
					if !slices.Equal(whole(g.Edges), edges) || !exact(wholeState(s), state) {
						t.Fatalf("call %d changed what it was handed: %+v, %+v", i, g, s)
					}
					spoil(g.Edges, api.Edge{From: 3, To: 3, Weight: 3})
					spoilState(s)
					mustBe(t, "an answer whose arguments were changed", second, again, want)
				}
			}
		}
	}
}

func TestRefusalsOnlyRead(t *testing.T) {
	s := plainOf(4)
	s.Most, s.Changed[1], s.Inbox[3] = -1, true, none(7)
	g, s := handed(example(), s)
	edges, state := slices.Clone(whole(g.Edges)), wholeState(s)
	for _, j := range []api.Job{ranks(5, one/2, 0), labels(5), ways(5, 0), {}} {
		seq.Step(g, j, s)
		seq.At(g, j, -1)
		seq.Start(g, api.Job{})
		seq.Run(g, api.Job{})
	}
	if !slices.Equal(whole(g.Edges), edges) || !exact(wholeState(s), state) {
		t.Errorf("%+v, %+v", g, s)
	}
}

func TestSameOnlyReads(t *testing.T) {
	_, a := handed(example(), other())
	_, b := handed(example(), other())
	aWas, bWas := wholeState(a), wholeState(b)
	mustBeSame(t, a, b, true)
	b.Inbox[2].Value, bWas.Inbox[2].Value = 4, 4
	mustBeSame(t, a, b, false)
	if !exact(wholeState(a), aWas) || !exact(wholeState(b), bWas) {
		t.Errorf("%+v, %+v", a, b)
	}
}

func TestCallsHangOnTheirArgumentsAlone(t *testing.T) {
	want := mustRun(t, example(), ways(9, 0))
	for range 20 {
		mustRun(t, dense(), labels(3))
		seq.Step(example(), labels(9), api.State{})
		s, errno := seq.Run(example(), ways(9, 0))
		mustBe(t, "Run again", s, errno, want)
	}
}

// P12.7

// runs calls back with the first states of drawn graphs and jobs, each with the one ahead of it.
func runs(t *testing.T, seed uint64, see func(g api.Graph, j api.Job, was, s api.State)) {
	rnd := rand.New(rand.NewPCG(12, seed))
	for range 150 {
		g := drawn(rnd, 14)
		for _, j := range someJobs(rnd, g) {
			s := mustStart(t, g, j)
			see(g, j, s, s)
			for range g.Vertices + 3 {
				was := s
				s = mustStep(t, g, j, was)
				see(g, j, was, s)
			}
		}
	}
}

func TestStatesFromStartOnMayBe(t *testing.T) {
	runs(t, 7, func(g api.Graph, j api.Job, was, s api.State) {
		if !plainMayBe(g, s) {
			t.Errorf("%+v, %+v: %+v may not be", g, j, s)
		}
	})
	for _, j := range []api.Job{ranks(2000, one, 0), labels(2000), ways(2000, 0)} {
		for _, k := range []int{0, 1, 2, 1999, 2000} {
			if s := mustAt(t, line(30, heaviest), j, k); !plainMayBe(line(30, heaviest), s) {
				t.Errorf("%+v at %d: %+v may not be", j, k, s)
			}
		}
	}
}

func TestWhatIsDoneStaysSo(t *testing.T) {
	runs(t, 8, func(g api.Graph, j api.Job, was, s api.State) {
		if j.Kind == api.Rank || was.Step < 1 || was.Most != 0 {
			return
		}
		if !slices.Equal(s.Values, was.Values) || s.Most != 0 || slices.Contains(s.Changed, true) {
			t.Errorf("%+v, %+v: %+v, behind %+v", g, j, s, was)
		}
	})
	rnd := rand.New(rand.NewPCG(12, 9))
	for range 200 {
		g := drawn(rnd, 14)
		for _, j := range []api.Job{labels(2000), ways(2000, rnd.IntN(g.Vertices))} {
			s := mustRun(t, g, j)
			on := mustStep(t, g, j, s)
			if !slices.Equal(on.Values, s.Values) || on.Step != s.Step+1 || !algos.Done(j, on.Step, on.Most) {
				t.Errorf("%+v, %+v: %+v, behind %+v", g, j, on, s)
			}
		}
	}
}

func TestLabelsAndDistancesNeverRise(t *testing.T) {
	runs(t, 10, func(g api.Graph, j api.Job, was, s api.State) {
		for v := range g.Vertices {
			if j.Kind != api.Rank && s.Values[v] > was.Values[v] {
				t.Errorf("%+v, %+v: %+v, behind %+v", g, j, s, was)
			}
		}
	})
}

func TestRanksTogetherAreAtMostOne(t *testing.T) {
	runs(t, 11, func(g api.Graph, j api.Job, was, s api.State) {
		if j.Kind != api.Rank {
			return
		}
		all := int64(0)
		for _, value := range s.Values {
			all += value
		}
		if all > one {
			t.Errorf("%+v, %+v: %d, %+v", g, j, all, s)
		}
	})
}

func TestWhatIsDoneIsTheDistances(t *testing.T) {
	rnd := rand.New(rand.NewPCG(12, 12))
	for range 200 {
		g := drawn(rnd, 14)
		j := ways(2000, rnd.IntN(g.Vertices))
		if s := mustRun(t, g, j); !paths.Tight(g, j.Source, s.Values) {
			t.Errorf("%+v, %+v: %+v", g, j, s)
		}
	}
}

func TestTheLayersBelowSayTheSame(t *testing.T) {
	rnd := rand.New(rand.NewPCG(12, 13))
	for range 200 {
		g := drawn(rnd, 10)
		s := someState(rnd, g.Vertices)
		for _, j := range someJobs(rnd, g) {
			on := mustStep(t, g, j, s)
			var own []int
			var rows [][]api.Message
			var total algos.Total
			for v := range g.Vertices {
				value, changed := algos.Compute(j, g.Vertices, s.Values[v], s.Inbox[v], s.Sum)
				if on.Values[v] != value || on.Changed[v] != changed {
					t.Errorf("vertex %d: %+v", v, on)
				}
				own = append(own, v)
				rows = append(rows, algos.Send(j, v, value, changed, graph.Out(g, v), graph.Back(g, v)))
				total = algos.Join(j, total, algos.Part(j, s.Values[v], value, changed, graph.Out(g, v)))
			}
			if !slices.Equal(on.Inbox, inbox.Merge(j, own, rows...)) || on.Sum != total.Sum || on.Most != total.Most {
				t.Errorf("%+v, %+v, %+v: %+v", g, j, s, on)
			}
		}
	}
}
