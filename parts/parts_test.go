package parts_test

import (
	"math"
	"math/big"
	"math/rand/v2"
	"slices"
	"strconv"
	"testing"

	"treadwheel/api"
	"treadwheel/graph"
	"treadwheel/parts"
)

const heaviest = 1<<31 - 1

// noWorkers are numbers of workers that may not be.
var noWorkers = []int{0, -1, -2, 65, 66, 128, 1 << 32, 1<<32 + 1, math.MinInt, math.MaxInt}

// graphOf makes a graph of rows of From, To and Weight.
func graphOf(vertices int, rows ...[3]int64) api.Graph {
	g := api.Graph{Vertices: vertices}
	for _, r := range rows {
		g.Edges = append(g.Edges, api.Edge{From: int(r[0]), To: int(r[1]), Weight: r[2]})
	}
	return g
}

// mixed has edges from vertices to themselves, within workers, and between them.
func mixed() api.Graph {
	return graphOf(6, [3]int64{0, 0, 5}, [3]int64{0, 1, 2}, [3]int64{0, 3, 4}, [3]int64{1, 0, 1}, [3]int64{1, 1, 9},
		[3]int64{2, 3, 0}, [3]int64{3, 2, heaviest}, [3]int64{4, 5, 3}, [3]int64{5, 1, 6}, [3]int64{5, 5, 1})
}

// fullGraph has as many vertices and edges as a graph may have.
func fullGraph() api.Graph {
	g := api.Graph{Vertices: 512}
	for i := range 8192 {
		g.Edges = append(g.Edges, api.Edge{From: i / 16, To: i%16*31 + i/512, Weight: int64(i)})
	}
	return g
}

// randomGraph has some of the pairs of its vertices as edges.
func randomGraph(rnd *rand.Rand) api.Graph {
	g := api.Graph{Vertices: 1 + rnd.IntN(24)}
	for from := range g.Vertices {
		for to := range g.Vertices {
			if rnd.IntN(6) == 0 {
				g.Edges = append(g.Edges, api.Edge{From: from, To: to, Weight: rnd.Int64N(1 << 31)})
			}
		}
	}
	return g
}

// goodGraphs are graphs that may be, by what they are like.
func goodGraphs() map[string]api.Graph {
	rnd := rand.New(rand.NewPCG(6, 1))
	graphs := map[string]api.Graph{
		"of 1 vertex":          graphOf(1),
		"of 1 vertex, itself":  graphOf(1, [3]int64{0, 0, 7}),
		"without edges":        graphOf(6),
		"with an empty list":   {Vertices: 3, Edges: []api.Edge{}},
		"of 512, no edges":     graphOf(512),
		"with edges within":    graphOf(6, [3]int64{0, 2, 1}, [3]int64{2, 4, 1}, [3]int64{3, 1, 1}),
		"with edges between":   graphOf(6, [3]int64{0, 1, 1}, [3]int64{1, 2, 1}, [3]int64{3, 5, 1}),
		"with edges to itself": graphOf(4, [3]int64{0, 0, 1}, [3]int64{1, 1, 2}, [3]int64{2, 2, 3}, [3]int64{3, 3, 4}),
		"of all":               mixed(),
		"full":                 fullGraph(),
	}
	for i := range 10 {
		graphs["random "+strconv.Itoa(i)] = randomGraph(rnd)
	}
	return graphs
}

// badGraphs are graphs that may not be, by what is wrong with them.
func badGraphs() map[string]api.Graph {
	long := fullGraph()
	long.Edges = append(long.Edges, api.Edge{From: 511, To: 511, Weight: 1})
	return map[string]api.Graph{
		"nothing":              {},
		"vertices below 0":     graphOf(-1),
		"the least vertices":   graphOf(math.MinInt),
		"513 vertices":         graphOf(513),
		"8193 edges":           long,
		"From below 0":         graphOf(3, [3]int64{-1, 0, 1}),
		"From above":           graphOf(3, [3]int64{3, 0, 1}),
		"To below 0":           graphOf(3, [3]int64{0, -1, 1}),
		"To above":             graphOf(3, [3]int64{0, 3, 1}),
		"Weight below 0":       graphOf(3, [3]int64{0, 1, -1}),
		"Weight 2^31":          graphOf(3, [3]int64{0, 1, 1 << 31}),
		"an edge twice":        graphOf(3, [3]int64{0, 1, 1}, [3]int64{0, 1, 1}),
		"a pair twice":         graphOf(3, [3]int64{0, 1, 1}, [3]int64{0, 1, 2}),
		"falling by From":      graphOf(3, [3]int64{1, 0, 1}, [3]int64{0, 1, 1}),
		"falling by To":        graphOf(3, [3]int64{0, 2, 1}, [3]int64{0, 1, 1}),
		"wrong, and too great": graphOf(513, [3]int64{0, 1, -1}),
	}
}

// plainOf takes the document's words one by one, in numbers of any size.
func plainOf(v, workers int) int {
	n := new(big.Int).Mul(big.NewInt(2654435761), big.NewInt(int64(v)))
	n.Mod(n, big.NewInt(1<<32))
	n.Mul(n, big.NewInt(int64(workers)))
	n.Div(n, big.NewInt(1<<32))
	return int(n.Int64())
}

// plainPart is made by the document's words, whether or not the graph, the
// workers or w may be.
func plainPart(g api.Graph, workers, w int) parts.Part {
	p := parts.Part{Worker: w, Workers: workers, Vertices: g.Vertices}
	for v := range g.Vertices {
		if plainOf(v, workers) != w {
			continue
		}
		var out, back []api.Edge
		for _, e := range g.Edges {
			if e.From == v {
				out = append(out, e)
			}
			if e.To == v {
				back = append(back, e)
			}
		}
		p.Own, p.Out, p.Back = append(p.Own, v), append(p.Out, out), append(p.Back, back)
	}
	return p
}

func plainParts(g api.Graph, workers int) []parts.Part {
	var l []parts.Part
	for w := range workers {
		l = append(l, plainPart(g, workers, w))
	}
	return l
}

func equalRows(a, b [][]api.Edge) bool {
	return slices.EqualFunc(a, b, slices.Equal[[]api.Edge])
}

func equalParts(a, b parts.Part) bool {
	return a.Worker == b.Worker && a.Workers == b.Workers && a.Vertices == b.Vertices &&
		slices.Equal(a.Own, b.Own) && equalRows(a.Out, b.Out) && equalRows(a.Back, b.Back)
}

func equalGraphs(a, b api.Graph) bool {
	return a.Vertices == b.Vertices && slices.Equal(a.Edges, b.Edges)
}

func isNoPart(p parts.Part) bool { return equalParts(p, parts.Part{}) }

func cloneRows(rows [][]api.Edge) [][]api.Edge {
	var l [][]api.Edge
	for _, row := range rows {
		l = append(l, slices.Clone(row))
	}
	return l
}

func clonePart(p parts.Part) parts.Part {
	p.Own, p.Out, p.Back = slices.Clone(p.Own), cloneRows(p.Out), cloneRows(p.Back)
	return p
}

func cloneParts(l []parts.Part) []parts.Part {
	var c []parts.Part
	for _, p := range l {
		c = append(c, clonePart(p))
	}
	return c
}

// P6.1

func mustBeOf(t *testing.T, v, workers, want int) {
	t.Helper()
	if got := parts.Of(v, workers); got != want {
		t.Errorf("Of(%d, %d): %d, not %d", v, workers, got, want)
	}
}

func TestOfByHand(t *testing.T) {
	for v, want := range []int{0, 2, 0, 3} {
		mustBeOf(t, v, 4, want)
	}
	for v, want := range map[int][6]int{0: {0, 0, 0, 0, 0, 0}, 1: {0, 1, 1, 2, 38, 39}, 3: {0, 1, 2, 3, 53, 54}, 511: {0, 1, 2, 3, 51, 52}} {
		for i, workers := range []int{1, 2, 3, 4, 63, 64} {
			mustBeOf(t, v, workers, want[i])
		}
	}
}

func TestOfAllVerticesAndWorkers(t *testing.T) {
	for v := range 512 {
		for workers := 1; workers <= 64; workers++ {
			mustBeOf(t, v, workers, plainOf(v, workers))
		}
	}
}

func TestOfNoVertexOrNoWorkers(t *testing.T) {
	for _, v := range []int{-1, -2, 512, 513, 1 << 32, 1<<32 + 1, -1 << 32, math.MinInt, math.MaxInt} {
		for workers := 1; workers <= 64; workers++ {
			mustBeOf(t, v, workers, -1)
		}
		for _, workers := range noWorkers {
			mustBeOf(t, v, workers, -1)
		}
	}
	for _, workers := range noWorkers {
		for v := range 512 {
			mustBeOf(t, v, workers, -1)
		}
	}
}

// P6.2

func mustOwn(t *testing.T, vertices, workers, w int, want ...int) {
	t.Helper()
	if got := parts.Owned(vertices, workers, w); !slices.Equal(got, want) {
		t.Errorf("Owned(%d, %d, %d): %v, not %v", vertices, workers, w, got, want)
	}
}

func TestOwnedByHand(t *testing.T) {
	mustOwn(t, 6, 2, 0, 0, 2, 4, 5)
	mustOwn(t, 6, 2, 1, 1, 3)
	mustOwn(t, 6, 3, 0, 0, 2, 5)
	mustOwn(t, 6, 3, 1, 1, 4)
	mustOwn(t, 6, 3, 2, 3)
	mustOwn(t, 6, 1, 0, 0, 1, 2, 3, 4, 5)
	mustOwn(t, 1, 1, 0, 0)
	mustOwn(t, 1, 2, 0, 0)
	mustOwn(t, 1, 64, 0, 0)
	mustOwn(t, 6, 64, 5, 5)
}

func TestOwnedOfAWorkerWithoutVertices(t *testing.T) {
	mustOwn(t, 1, 2, 1)
	mustOwn(t, 1, 64, 63)
	mustOwn(t, 3, 3, 2)
	mustOwn(t, 6, 64, 1)
}

func TestOwnedOfAllWorkers(t *testing.T) {
	for workers := 1; workers <= 64; workers++ {
		have := make([][]int, workers)
		upTo := map[int][][]int{0: slices.Clone(have)}
		for v := range 512 {
			w := plainOf(v, workers)
			have[w] = append(have[w], v)
			upTo[v+1] = slices.Clone(have)
		}
		for _, vertices := range []int{0, 1, 2, 6, 100, 511, 512, 513, 1000, 1 << 32, math.MaxInt} {
			for w := range workers {
				mustOwn(t, vertices, workers, w, upTo[min(vertices, 512)][w]...)
			}
		}
	}
}

func TestOwnedOfNoVertices(t *testing.T) {
	for _, vertices := range []int{0, -1, -512, math.MinInt} {
		for _, workers := range []int{1, 2, 64} {
			for w := -1; w <= workers; w++ {
				mustOwn(t, vertices, workers, w)
			}
		}
	}
}

func TestOwnedOfNoWorker(t *testing.T) {
	for _, vertices := range []int{0, 1, 6, 512, 513, 1000} {
		for _, workers := range noWorkers {
			for _, w := range []int{-1, 0, 1, 64, workers, workers - 1} {
				mustOwn(t, vertices, workers, w)
			}
		}
		for _, workers := range []int{1, 2, 3, 64} {
			for _, w := range []int{-1, -2, workers, workers + 1, 1 << 32, -1 << 32, math.MinInt, math.MaxInt} {
				mustOwn(t, vertices, workers, w)
			}
		}
	}
}

// P6.3

func TestCutByHand(t *testing.T) {
	e := mixed().Edges
	want := []parts.Part{{
		Worker: 0, Workers: 2, Vertices: 6, Own: []int{0, 2, 4, 5},
		Out:  [][]api.Edge{{e[0], e[1], e[2]}, {e[5]}, {e[7]}, {e[8], e[9]}},
		Back: [][]api.Edge{{e[0], e[3]}, {e[6]}, {}, {e[7], e[9]}},
	}, {
		Worker: 1, Workers: 2, Vertices: 6, Own: []int{1, 3},
		Out:  [][]api.Edge{{e[3], e[4]}, {e[6]}},
		Back: [][]api.Edge{{e[1], e[4], e[8]}, {e[2], e[5]}},
	}}
	for w := range want {
		if got, errno := parts.Cut(mixed(), 2, w); errno != api.OK || !equalParts(got, want[w]) {
			t.Errorf("Cut for worker %d: %v, %d", w, got, errno)
		}
	}
}

func TestCutOfGraphs(t *testing.T) {
	for what, g := range goodGraphs() {
		for _, workers := range []int{1, 2, 3, 7, 64} {
			for w := range workers {
				got, errno := parts.Cut(g, workers, w)
				if errno != api.OK || !equalParts(got, plainPart(g, workers, w)) {
					t.Errorf("Cut of a graph %s, worker %d of %d: %d", what, w, workers, errno)
				}
			}
		}
	}
}

func TestCutTellsEdgesAsGraphDoes(t *testing.T) {
	for what, g := range goodGraphs() {
		for _, workers := range []int{1, 3, 64} {
			for w := range workers {
				p, _ := parts.Cut(g, workers, w)
				if !slices.Equal(p.Own, parts.Owned(g.Vertices, workers, w)) || len(p.Out) != len(p.Own) || len(p.Back) != len(p.Own) {
					t.Fatalf("a graph %s, worker %d of %d: %v, %d and %d rows", what, w, workers, p.Own, len(p.Out), len(p.Back))
				}
				for i, v := range p.Own {
					if !slices.Equal(p.Out[i], graph.Out(g, v)) || !slices.Equal(p.Back[i], graph.Back(g, v)) {
						t.Errorf("a graph %s, vertex %d: %v, %v", what, v, p.Out[i], p.Back[i])
					}
				}
			}
		}
	}
}

func TestCutForAWorkerWithoutVertices(t *testing.T) {
	want := parts.Part{Worker: 1, Workers: 64, Vertices: 6}
	if got, errno := parts.Cut(mixed(), 64, 1); errno != api.OK || !equalParts(got, want) {
		t.Errorf("%v, %d", got, errno)
	}
}

func mustNotCut(t *testing.T, what string, g api.Graph, workers, w int, want api.Errno) {
	t.Helper()
	if got, errno := parts.Cut(g, workers, w); errno != want || !isNoPart(got) {
		t.Errorf("Cut of a graph (%s), worker %d of %d: %v, %d, not %d", what, w, workers, got, errno, want)
	}
}

func TestCutOfGraphsThatMayNotBe(t *testing.T) {
	for what, g := range badGraphs() {
		want := api.ErrGraph
		if g.Vertices > 512 || len(g.Edges) > 8192 {
			want = api.ErrLimit
		}
		mustNotCut(t, what, g, 2, 0, want)
		mustNotCut(t, what, g, 2, 1, want)
		mustNotCut(t, what, g, 2, -1, want)
		mustNotCut(t, what, g, 2, 2, want)
		mustNotCut(t, what, g, 0, 0, want)
		mustNotCut(t, what, g, -1, -1, want)
		mustNotCut(t, what, g, 65, 64, want)
	}
}

func TestCutForNoWorker(t *testing.T) {
	for what, g := range goodGraphs() {
		for _, workers := range noWorkers {
			for _, w := range []int{-1, 0, 1, 64, workers, workers - 1} {
				mustNotCut(t, what, g, workers, w, api.ErrArg)
			}
		}
		for _, workers := range []int{1, 2, 3, 64} {
			for _, w := range []int{-1, workers, workers + 1, 1 << 32, math.MinInt, math.MaxInt} {
				mustNotCut(t, what, g, workers, w, api.ErrArg)
			}
		}
	}
}

// P6.4

func mustJoin(t *testing.T, what string, l []parts.Part, want api.Graph) {
	t.Helper()
	if got, errno := parts.Join(l); errno != api.OK || !equalGraphs(got, want) {
		t.Errorf("Join of %s: %d vertices, %d edges, %d", what, got.Vertices, len(got.Edges), errno)
	}
}

func mustNotJoin(t *testing.T, what string, l []parts.Part) {
	t.Helper()
	if got, errno := parts.Join(l); errno != api.ErrArg || got.Vertices != 0 || len(got.Edges) != 0 {
		t.Errorf("Join of %s: %d vertices, %d edges, %d", what, got.Vertices, len(got.Edges), errno)
	}
}

func TestJoinOfPlainParts(t *testing.T) {
	for what, g := range goodGraphs() {
		for _, workers := range []int{1, 2, 3, 64} {
			mustJoin(t, "parts of a graph "+what, plainParts(g, workers), g)
		}
	}
}

func TestJoinOfNoPartsAndOfTooMany(t *testing.T) {
	mustNotJoin(t, "nil", nil)
	mustNotJoin(t, "no part", []parts.Part{})
	mustNotJoin(t, "an empty part", []parts.Part{{}})
	mustNotJoin(t, "64 empty parts", make([]parts.Part, 64))
	mustNotJoin(t, "65 empty parts", make([]parts.Part, 65))
	for what, g := range goodGraphs() {
		for _, workers := range []int{65, 66, 200} {
			mustNotJoin(t, strconv.Itoa(workers)+" parts of a graph "+what, plainParts(g, workers))
		}
		mustNotJoin(t, "64 parts and one more", append(plainParts(g, 64), parts.Part{Worker: 64, Workers: 64, Vertices: g.Vertices}))
	}
}

func TestJoinOfOtherLists(t *testing.T) {
	for what, g := range goodGraphs() {
		for _, workers := range []int{2, 3, 64} {
			l := plainParts(g, workers)
			for w := range l {
				mustNotJoin(t, "all but one, "+what, slices.Delete(cloneParts(l), w, w+1))
				mustNotJoin(t, "one twice, "+what, slices.Insert(cloneParts(l), w, clonePart(l[w])))
				other := (w + 1) % workers
				swapped, instead := cloneParts(l), cloneParts(l)
				swapped[w], swapped[other] = swapped[other], swapped[w]
				instead[w] = clonePart(l[other])
				mustNotJoin(t, "two exchanged, "+what, swapped)
				mustNotJoin(t, "one instead of another, "+what, instead)
			}
		}
	}
}

func TestJoinOfPartsWithOtherNumbers(t *testing.T) {
	for _, workers := range []int{1, 2, 3, 64} {
		l := plainParts(mixed(), workers)
		for w := range l {
			for _, n := range []int{-1, 0, 1, 2, 5, 6, 7, 63, 64, 65, 512, 513, 1 << 32, math.MinInt, math.MaxInt} {
				change := func(what string, field func(p *parts.Part) *int) {
					c := cloneParts(l)
					if *field(&c[w]) != n {
						*field(&c[w]) = n
						mustNotJoin(t, what+" "+strconv.Itoa(n)+" in part "+strconv.Itoa(w)+" of "+strconv.Itoa(workers), c)
					}
				}
				change("Worker", func(p *parts.Part) *int { return &p.Worker })
				change("Workers", func(p *parts.Part) *int { return &p.Workers })
				change("Vertices", func(p *parts.Part) *int { return &p.Vertices })
			}
		}
	}
}

func TestJoinOfPartsWithOtherNumbersInAll(t *testing.T) {
	for _, workers := range []int{1, 2, 3, 64} {
		for _, n := range []int{-1, 0, 1, 5, 7, 63, 65, 512, 513, 1 << 32, math.MinInt, math.MaxInt} {
			vertices, counts, numbers := plainParts(mixed(), workers), plainParts(mixed(), workers), plainParts(mixed(), workers)
			for w := range workers {
				vertices[w].Vertices, counts[w].Workers, numbers[w].Worker = n, n, n
			}
			mustNotJoin(t, "another number of vertices in all", vertices)
			if n != workers {
				mustNotJoin(t, "another number of workers in all", counts)
			}
			if workers > 1 || n != 0 {
				mustNotJoin(t, "another worker in all", numbers)
			}
		}
	}
}

// mustNotJoinChanged changes the two parts of the mixed graph by hand, each
// time from the beginning.
func mustNotJoinChanged(t *testing.T, changes map[string]func(first, second *parts.Part)) {
	t.Helper()
	for what, change := range changes {
		l := plainParts(mixed(), 2)
		change(&l[0], &l[1])
		mustNotJoin(t, what, l)
	}
}

func TestJoinOfPartsWithOtherVertices(t *testing.T) {
	mustNotJoinChanged(t, map[string]func(a, b *parts.Part){
		"another vertex":            func(a, b *parts.Part) { a.Own[1] = 3 },
		"another vertex, b":         func(a, b *parts.Part) { b.Own[1] = 4 },
		"a vertex below 0":          func(a, b *parts.Part) { a.Own[0] = -1 },
		"a vertex above":            func(a, b *parts.Part) { a.Own[3] = 6 },
		"a vertex twice":            func(a, b *parts.Part) { a.Own[1] = 0 },
		"vertices exchanged":        func(a, b *parts.Part) { a.Own[2], a.Own[3] = 5, 4 },
		"vertices of each other":    func(a, b *parts.Part) { a.Own[0], b.Own[0] = 1, 0 },
		"one too many":              func(a, b *parts.Part) { a.Own = append(a.Own, 6) },
		"one of the other too many": func(a, b *parts.Part) { a.Own = []int{0, 1, 2, 4, 5} },
		"one too many, b":           func(a, b *parts.Part) { b.Own = append(b.Own, 5) },
		"one too few":               func(a, b *parts.Part) { a.Own = a.Own[:3] },
		"the first missing":         func(a, b *parts.Part) { a.Own = a.Own[1:] },
		"one too few, b":            func(a, b *parts.Part) { b.Own = b.Own[:1] },
		"none":                      func(a, b *parts.Part) { a.Own = nil },
		"none, b":                   func(a, b *parts.Part) { b.Own = nil },
		"falling, with their rows": func(a, b *parts.Part) {
			slices.Reverse(a.Own)
			slices.Reverse(a.Out)
			slices.Reverse(a.Back)
		},
		"falling, with their rows, b": func(a, b *parts.Part) {
			slices.Reverse(b.Own)
			slices.Reverse(b.Out)
			slices.Reverse(b.Back)
		},
		"one too many, with rows": func(a, b *parts.Part) {
			a.Own, a.Out, a.Back = append(a.Own, 6), append(a.Out, nil), append(a.Back, nil)
		},
		"one too few, with rows": func(a, b *parts.Part) { a.Own, a.Out, a.Back = a.Own[:3], a.Out[:3], a.Back[:3] },
	})
}

func TestJoinOfPartsWithOtherEdges(t *testing.T) {
	e := mixed().Edges
	more := api.Edge{From: 0, To: 2, Weight: 8}
	between := api.Edge{From: 1, To: 2, Weight: 8}
	mustNotJoinChanged(t, map[string]func(a, b *parts.Part){
		"one in Out alone":               func(a, b *parts.Part) { a.Out[0] = []api.Edge{e[0], e[1], more, e[2]} },
		"one in Back alone":              func(a, b *parts.Part) { a.Back[1] = []api.Edge{more, e[6]} },
		"one between in Out alone":       func(a, b *parts.Part) { b.Out[0] = append(b.Out[0], between) },
		"one between in Back alone":      func(a, b *parts.Part) { a.Back[1] = []api.Edge{between, e[6]} },
		"one not in Out":                 func(a, b *parts.Part) { a.Out[1] = nil },
		"one not in Back":                func(a, b *parts.Part) { b.Back[1] = []api.Edge{e[2]} },
		"one to itself not in Out":       func(a, b *parts.Part) { b.Out[0] = []api.Edge{e[3]} },
		"one to itself not in Back":      func(a, b *parts.Part) { b.Back[0] = []api.Edge{e[1], e[8]} },
		"one in a later row of Out":      func(a, b *parts.Part) { a.Out[0], a.Out[1] = a.Out[0][:2], []api.Edge{e[2], e[5]} },
		"one in an earlier row of Out":   func(a, b *parts.Part) { a.Out[2], a.Out[3] = append(a.Out[2], e[8]), []api.Edge{e[9]} },
		"one in a wrong row of Back":     func(a, b *parts.Part) { a.Back[0], a.Back[1] = a.Back[0][:1], []api.Edge{e[3], e[6]} },
		"one in the other's Out":         func(a, b *parts.Part) { a.Out[1], b.Out[1] = nil, []api.Edge{e[5], e[6]} },
		"one in the other's Back":        func(a, b *parts.Part) { a.Back[1], b.Back[0] = nil, []api.Edge{e[1], e[4], e[6], e[8]} },
		"rows of Out exchanged":          func(a, b *parts.Part) { a.Out[1], a.Out[2] = a.Out[2], a.Out[1] },
		"rows of Back exchanged":         func(a, b *parts.Part) { b.Back[0], b.Back[1] = b.Back[1], b.Back[0] },
		"one twice in Out":               func(a, b *parts.Part) { a.Out[2] = append(a.Out[2], e[7]) },
		"one twice in Back":              func(a, b *parts.Part) { a.Back[3] = []api.Edge{e[7], e[7], e[9]} },
		"one twice in both":              func(a, b *parts.Part) { a.Out[2], a.Back[3] = []api.Edge{e[7], e[7]}, []api.Edge{e[7], e[7], e[9]} },
		"Out in the wrong order":         func(a, b *parts.Part) { slices.Reverse(a.Out[0]) },
		"Back in the wrong order":        func(a, b *parts.Part) { slices.Reverse(b.Back[0]) },
		"another weight in Out":          func(a, b *parts.Part) { a.Out[0][1].Weight++ },
		"another weight in Back":         func(a, b *parts.Part) { b.Back[0][0].Weight++ },
		"another To in Out":              func(a, b *parts.Part) { a.Out[0][1].To = 2 },
		"another From in Back":           func(a, b *parts.Part) { b.Back[1][1].From = 4 },
		"another From in Out and Back":   func(a, b *parts.Part) { a.Out[2][0].From, a.Back[3][0].From = 3, 3 },
		"another To in Out and Back":     func(a, b *parts.Part) { a.Out[2][0].To, a.Back[3][0].To = 3, 3 },
		"a weight below 0 in both":       func(a, b *parts.Part) { a.Out[2][0].Weight, a.Back[3][0].Weight = -1, -1 },
		"an edge to no vertex":           func(a, b *parts.Part) { a.Out[3] = append(a.Out[3], api.Edge{From: 5, To: 6, Weight: 1}) },
		"an edge from no vertex in Back": func(a, b *parts.Part) { a.Back[3] = append(a.Back[3], api.Edge{From: 6, To: 5, Weight: 1}) },
	})
}

func TestJoinOfPartsWithOtherRows(t *testing.T) {
	mustNotJoinChanged(t, map[string]func(a, b *parts.Part){
		"no Out":                      func(a, b *parts.Part) { a.Out = nil },
		"no Out, b":                   func(a, b *parts.Part) { b.Out = nil },
		"no Back":                     func(a, b *parts.Part) { a.Back = nil },
		"no Back, b":                  func(a, b *parts.Part) { b.Back = [][]api.Edge{} },
		"Out without the last":        func(a, b *parts.Part) { a.Out = a.Out[:3] },
		"Out without the last, b":     func(a, b *parts.Part) { b.Out = b.Out[:1] },
		"Out without the first":       func(a, b *parts.Part) { a.Out = a.Out[1:] },
		"Back without the last":       func(a, b *parts.Part) { a.Back = a.Back[:3] },
		"Back without the last, b":    func(a, b *parts.Part) { b.Back = b.Back[:1] },
		"Back without an empty one":   func(a, b *parts.Part) { a.Back = slices.Delete(a.Back, 2, 3) },
		"an empty row behind Out":     func(a, b *parts.Part) { a.Out = append(a.Out, nil) },
		"an empty row behind Out, b":  func(a, b *parts.Part) { b.Out = append(b.Out, []api.Edge{}) },
		"an empty row behind Back":    func(a, b *parts.Part) { a.Back = append(a.Back, nil) },
		"an empty row behind Back, b": func(a, b *parts.Part) { b.Back = append(b.Back, []api.Edge{}) },
		"an empty row ahead in Out":   func(a, b *parts.Part) { a.Out = slices.Insert(a.Out, 0, nil) },
		"an edge behind Out":          func(a, b *parts.Part) { a.Out = append(a.Out, []api.Edge{{From: 5, To: 4, Weight: 1}}) },
		"an edge behind Back":         func(a, b *parts.Part) { a.Back = append(a.Back, []api.Edge{{From: 0, To: 5, Weight: 1}}) },
		"two rows as one in Out":      func(a, b *parts.Part) { a.Out = [][]api.Edge{a.Out[0], slices.Concat(a.Out[1], a.Out[2]), a.Out[3]} },
	})
	// Of a graph without edges all rows are empty, and only how many there are tells.
	for _, workers := range []int{1, 2, 3} {
		for w := range workers {
			for i, change := range []func(p *parts.Part){
				func(p *parts.Part) { p.Out = p.Out[1:] },
				func(p *parts.Part) { p.Back = p.Back[1:] },
				func(p *parts.Part) { p.Out = append(p.Out, nil) },
				func(p *parts.Part) { p.Back = append(p.Back, nil) },
				func(p *parts.Part) { p.Own = p.Own[1:] },
			} {
				l := plainParts(graphOf(6), workers)
				change(&l[w])
				mustNotJoin(t, "other rows without edges, "+strconv.Itoa(i), l)
			}
		}
	}
}

func TestJoinOfRowsThatAreLong(t *testing.T) {
	full := fullGraph()
	l := plainParts(full, 2)
	l[0].Out[0] = append(l[0].Out[0], full.Edges...)
	mustNotJoin(t, "a long row", l)
	l = plainParts(full, 2)
	last := len(l[1].Out) - 1
	l[1].Out[last] = append(l[1].Out[last], api.Edge{From: l[1].Own[last], To: 511, Weight: 1})
	mustNotJoin(t, "a row with an edge above the limit", l)
}

func TestJoinOfPartsMixed(t *testing.T) {
	g, h, few := mixed(), mixed(), mixed()
	h.Edges[2].Weight++ // from the first worker's 0 to the other's 3
	few.Vertices, few.Edges = 5, few.Edges[:7]
	a, b, c := plainParts(g, 2), plainParts(h, 2), plainParts(few, 2)
	mustNotJoin(t, "g and h", []parts.Part{a[0], b[1]})
	mustNotJoin(t, "h and g", []parts.Part{b[0], a[1]})
	mustNotJoin(t, "a great one and a small one", []parts.Part{a[0], c[1]})
	mustNotJoin(t, "a small one and a great one", []parts.Part{c[0], a[1]})
	mustNotJoin(t, "one of two workers, one of three", []parts.Part{a[0], plainPart(g, 3, 1)})
	mustNotJoin(t, "of three workers the first two", plainParts(g, 3)[:2])
	mustNotJoin(t, "with one without edges", []parts.Part{a[0], plainPart(graphOf(6), 2, 1)})
}

func TestJoinOfPartsMixedThatAreThoseOfAGraph(t *testing.T) {
	g, h := mixed(), mixed()
	h.Edges[4].Weight++ // from the second worker's 1 to itself
	mustJoin(t, "the first of g, the second of h", []parts.Part{plainPart(g, 2, 0), plainPart(h, 2, 1)}, h)
	mustJoin(t, "the first of h, the second of g", []parts.Part{plainPart(h, 2, 0), plainPart(g, 2, 1)}, g)
}

func TestJoinOfPartsOfGraphsThatMayNotBe(t *testing.T) {
	for what, g := range badGraphs() {
		for _, workers := range []int{1, 2, 3, 64} {
			l := plainParts(g, workers)
			if what == "falling by From" {
				// Its rows are those of the graph whose edges rise.
				mustJoin(t, "parts of a graph whose edges fall by From", l, graphOf(3, [3]int64{0, 1, 1}, [3]int64{1, 0, 1}))
			} else {
				mustNotJoin(t, "parts of a graph that may not be, "+what, l)
			}
		}
	}
}

func TestJoinOfNilAndEmptyRows(t *testing.T) {
	for what, g := range goodGraphs() {
		for _, workers := range []int{1, 2, 3, 64} {
			empty, none := plainParts(g, workers), plainParts(g, workers)
			for w := range workers {
				for _, rows := range [][][]api.Edge{empty[w].Out, empty[w].Back} {
					for i, row := range rows {
						rows[i] = append([]api.Edge{}, row...)
					}
				}
				for _, rows := range [][][]api.Edge{none[w].Out, none[w].Back} {
					for i, row := range rows {
						if len(row) == 0 {
							rows[i] = nil
						}
					}
				}
				if len(empty[w].Own) == 0 {
					empty[w].Own, empty[w].Out, empty[w].Back = []int{}, [][]api.Edge{}, [][]api.Edge{}
					none[w].Own, none[w].Out, none[w].Back = nil, nil, nil
				}
			}
			mustJoin(t, "empty rows, "+what, empty, g)
			mustJoin(t, "nil rows, "+what, none, g)
		}
	}
}

// P6.5

func mustPlace(t *testing.T, p parts.Part, v, want int) {
	t.Helper()
	if got := parts.Place(p, v); got != want {
		t.Errorf("Place of %d in %v: %d, not %d", v, p.Own, got, want)
	}
}

func TestPlaceOfVertices(t *testing.T) {
	p := plainPart(mixed(), 2, 0)
	for v, want := range map[int]int{0: 0, 2: 1, 4: 2, 5: 3, 1: -1, 3: -1, -1: -1, 6: -1, 512: -1, math.MinInt: -1, math.MaxInt: -1} {
		mustPlace(t, p, v, want)
	}
	for what, g := range goodGraphs() {
		for _, workers := range []int{1, 2, 3, 64} {
			for w := range workers {
				p, errno := parts.Cut(g, workers, w)
				if errno != api.OK {
					t.Fatalf("Cut of a graph %s: %d", what, errno)
				}
				places := map[int]int{}
				for i, v := range p.Own {
					places[v] = i
				}
				for v := -2; v < g.Vertices+2; v++ {
					want, there := places[v]
					if !there {
						want = -1
					}
					mustPlace(t, p, v, want)
				}
			}
		}
	}
}

func TestPlaceInAPartWithoutVertices(t *testing.T) {
	for _, p := range []parts.Part{{}, {Own: []int{}}, {Vertices: 6, Workers: 64, Worker: 1}} {
		for _, v := range []int{-1, 0, 1, 511, 512, math.MinInt, math.MaxInt} {
			mustPlace(t, p, v, -1)
		}
	}
}

func TestPlaceInPartsMadeByHand(t *testing.T) {
	p := parts.Part{Own: []int{9, -4, 600, math.MaxInt, 0, math.MinInt}}
	for i, v := range p.Own {
		mustPlace(t, p, v, i)
	}
	for _, v := range []int{-1, 1, 8, 10, 599} {
		mustPlace(t, p, v, -1)
	}
}

// P6.6

var (
	strangeEdge = api.Edge{From: -7, To: -8, Weight: -9}
	strangeRow  = []api.Edge{strangeEdge}
)

// roomy tells a list with memory behind its length.
func roomy[T any](l []T, behind T) []T {
	return append(slices.Clone(l), behind, behind, behind)[:len(l)]
}

// asHandedIn tells a graph with memory behind its edges, and a question: is all
// of it as it was?
func asHandedIn(g api.Graph) (api.Graph, func() bool) {
	g.Edges = roomy(g.Edges, strangeEdge)
	was := slices.Clone(g.Edges[:cap(g.Edges)])
	return g, func() bool { return slices.Equal(g.Edges[:cap(g.Edges)], was) }
}

// roomyRows tells rows with memory behind them, and behind each.
func roomyRows(rows [][]api.Edge) [][]api.Edge {
	var l [][]api.Edge
	for _, row := range rows {
		l = append(l, roomy(row, strangeEdge))
	}
	return roomy(l, strangeRow)
}

// wholeRows tells all memory of rows, what lies behind them and each included.
func wholeRows(rows [][]api.Edge) [][]api.Edge {
	var l [][]api.Edge
	for _, row := range rows[:cap(rows)] {
		l = append(l, row[:cap(row)])
	}
	return l
}

// wholePart tells all memory of a part.
func wholePart(p parts.Part) parts.Part {
	p.Own, p.Out, p.Back = p.Own[:cap(p.Own)], wholeRows(p.Out), wholeRows(p.Back)
	return p
}

// partAsHandedIn is asHandedIn of a part.
func partAsHandedIn(p parts.Part) (parts.Part, func() bool) {
	p.Own, p.Out, p.Back = roomy(p.Own, -7), roomyRows(p.Out), roomyRows(p.Back)
	was := clonePart(wholePart(p))
	return p, func() bool { return equalParts(wholePart(p), was) }
}

// partsAsHandedIn is asHandedIn of a list of parts.
func partsAsHandedIn(l []parts.Part) ([]parts.Part, func() bool) {
	var handed []parts.Part
	var questions []func() bool
	for _, p := range l {
		q, asItWas := partAsHandedIn(p)
		handed, questions = append(handed, q), append(questions, asItWas)
	}
	handed = roomy(handed, parts.Part{Worker: -7})
	was := slices.Clone(handed[:cap(handed)])
	return handed, func() bool {
		for _, asItWas := range questions {
			if !asItWas() {
				return false
			}
		}
		return slices.EqualFunc(handed[:cap(handed)], was, equalParts)
	}
}

// spoil overwrites all of a list's memory.
func spoil[T any](l []T, by T) {
	l = l[:cap(l)]
	for i := range l {
		l[i] = by
	}
}

func spoilRows(rows [][]api.Edge) {
	for _, row := range rows {
		spoil(row, api.Edge{From: -1, To: -2, Weight: -3})
	}
	spoil(rows, nil)
}

func spoilPart(p parts.Part) {
	spoil(p.Own, -1)
	spoilRows(p.Out)
	spoilRows(p.Back)
}

func TestCutOnlyReadsAndSharesNothing(t *testing.T) {
	for what, g := range goodGraphs() {
		for _, workers := range []int{1, 2, 64} {
			for w := range workers {
				handed, asItWas := asHandedIn(g)
				first, _ := parts.Cut(handed, workers, w)
				second, _ := parts.Cut(handed, workers, w)
				if !asItWas() {
					t.Errorf("Cut changed a graph %s", what)
				}
				spoilPart(first)
				if !asItWas() {
					t.Errorf("a graph %s shares memory with its part", what)
				}
				spoil(handed.Edges, strangeEdge)
				if !equalParts(second, plainPart(g, workers, w)) {
					t.Errorf("a part of a graph %s shares memory with it, or with another part", what)
				}
			}
		}
	}
}

func TestCutOfBadGraphsOnlyReads(t *testing.T) {
	for what, g := range badGraphs() {
		handed, asItWas := asHandedIn(g)
		parts.Cut(handed, 2, 1)
		parts.Cut(handed, 0, 0)
		if !asItWas() {
			t.Errorf("Cut changed a graph that may not be, %s", what)
		}
	}
}

func TestRowsOfAPartShareNothing(t *testing.T) {
	for what, g := range goodGraphs() {
		p, _ := parts.Cut(g, 1, 0)
		lists := slices.Concat(p.Out, p.Back)
		for i := range lists {
			before := cloneRows(lists)
			spoil(lists[i], strangeEdge)
			for j := range lists {
				if j != i && !slices.Equal(lists[j], before[j]) {
					t.Fatalf("rows %d and %d of a graph %s share memory", i, j, what)
				}
			}
			copy(lists[i], before[i])
			if g.Vertices > 100 && i > 20 {
				break
			}
		}
		out := slices.Clone(p.Out)
		spoil(p.Back, strangeRow)
		if !equalRows(p.Out, out) {
			t.Fatalf("Out and Back of a graph %s share memory", what)
		}
	}
}

func TestJoinOnlyReadsAndSharesNothing(t *testing.T) {
	for what, g := range goodGraphs() {
		for _, workers := range []int{1, 2, 64} {
			handed, asItWas := partsAsHandedIn(plainParts(g, workers))
			first, _ := parts.Join(handed)
			second, _ := parts.Join(handed)
			if !asItWas() {
				t.Errorf("Join changed the parts of a graph %s", what)
			}
			spoil(first.Edges, strangeEdge)
			if !asItWas() {
				t.Errorf("parts share memory with their graph %s", what)
			}
			for _, p := range handed {
				spoilPart(p)
			}
			if !equalGraphs(second, g) {
				t.Errorf("a graph %s shares memory with its parts, or with another graph", what)
			}
		}
	}
}

func TestJoinOfOthersOnlyReads(t *testing.T) {
	for what, g := range badGraphs() {
		handed, asItWas := partsAsHandedIn(plainParts(g, 3))
		parts.Join(handed)
		if !asItWas() {
			t.Errorf("Join changed the parts of a graph that may not be, %s", what)
		}
	}
	l := plainParts(mixed(), 2)
	slices.Reverse(l[0].Out[0])
	slices.Reverse(l[1].Own)
	slices.Reverse(l[1].Back)
	for _, some := range [][]parts.Part{l, l[:1], {l[1], l[0]}} {
		handed, asItWas := partsAsHandedIn(some)
		parts.Join(handed)
		if !asItWas() {
			t.Error("Join changed parts that are none")
		}
	}
}

func TestPlaceOnlyReads(t *testing.T) {
	for _, own := range [][]int{{0, 2, 4, 5}, {9, 3, 5}, {}} {
		handed, asItWas := partAsHandedIn(parts.Part{Own: own, Out: [][]api.Edge{{strangeEdge}}})
		for v := -8; v < 10; v++ {
			parts.Place(handed, v)
		}
		if !asItWas() {
			t.Errorf("Place changed a part of %v", own)
		}
		mustPlace(t, handed, -7, -1) // it stands behind the list's length alone
	}
}

func TestOwnedTellsNewMemory(t *testing.T) {
	for _, vertices := range []int{6, 512} {
		first, second := parts.Owned(vertices, 2, 0), parts.Owned(vertices, 2, 0)
		want := slices.Clone(second)
		spoil(first, -1)
		if !slices.Equal(second, want) || !slices.Equal(parts.Owned(vertices, 2, 0), want) {
			t.Errorf("Owned of %d tells the same memory twice", vertices)
		}
	}
}

// P6.7

func TestEachVertexHasOneWorker(t *testing.T) {
	for _, vertices := range []int{1, 2, 6, 511, 512} {
		for workers := 1; workers <= 64; workers++ {
			var all []int
			for w := range workers {
				own := parts.Owned(vertices, workers, w)
				for i, v := range own {
					if parts.Of(v, workers) != w || i > 0 && own[i-1] >= v {
						t.Fatalf("worker %d of %d has %v", w, workers, own)
					}
				}
				all = append(all, own...)
			}
			slices.Sort(all)
			if len(all) != vertices || all[0] != 0 || all[vertices-1] != vertices-1 || len(slices.Compact(all)) != vertices {
				t.Fatalf("%d vertices of %d workers: %v", vertices, workers, all)
			}
		}
	}
}

// countRows adds, for each edge in a part's rows, one to how often it is there.
func countRows(t *testing.T, counts map[api.Edge]int, p parts.Part, rows [][]api.Edge, end func(api.Edge) int) {
	t.Helper()
	for i, row := range rows {
		for _, e := range row {
			if end(e) != p.Own[i] || parts.Of(end(e), p.Workers) != p.Worker || parts.Place(p, end(e)) != i {
				t.Fatalf("worker %d of %d has %v in row %d", p.Worker, p.Workers, e, i)
			}
			counts[e]++
		}
	}
}

func TestEachEdgeIsInTwoParts(t *testing.T) {
	for what, g := range goodGraphs() {
		for _, workers := range []int{1, 2, 3, 8, 64} {
			out, back := map[api.Edge]int{}, map[api.Edge]int{}
			for w := range workers {
				p, _ := parts.Cut(g, workers, w)
				countRows(t, out, p, p.Out, func(e api.Edge) int { return e.From })
				countRows(t, back, p, p.Back, func(e api.Edge) int { return e.To })
			}
			if len(out) != len(g.Edges) || len(back) != len(g.Edges) {
				t.Fatalf("a graph %s: %d and %d edges", what, len(out), len(back))
			}
			for _, e := range g.Edges {
				if out[e] != 1 || back[e] != 1 {
					t.Fatalf("a graph %s: %v is there %d and %d times", what, e, out[e], back[e])
				}
			}
		}
	}
}

func mustCutAndJoin(t *testing.T, what string, g api.Graph, workers int) {
	t.Helper()
	var l []parts.Part
	for w := range workers {
		p, errno := parts.Cut(g, workers, w)
		if errno != api.OK {
			t.Fatalf("Cut of a graph %s: %d", what, errno)
		}
		l = append(l, p)
	}
	mustJoin(t, "the parts of a graph "+what, l, g)
}

func TestPartsJoinedAreTheGraph(t *testing.T) {
	for what, g := range goodGraphs() {
		for _, workers := range []int{1, 2, 3, 5, 8, 63, 64} {
			mustCutAndJoin(t, what, g, workers)
		}
	}
	rnd := rand.New(rand.NewPCG(6, 2))
	for range 1000 {
		mustCutAndJoin(t, "random", randomGraph(rnd), 1+rnd.IntN(64))
	}
}
