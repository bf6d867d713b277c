package graph_test

import (
	"math"
	"math/rand/v2"
	"slices"
	"strconv"
	"strings"
	"testing"

	"treadwheel/api"
	"treadwheel/graph"
	"treadwheel/words"
)

const (
	heaviest  = 1<<31 - 1
	textBytes = 262144
)

// graphOf makes a graph of rows of From, To and Weight.
func graphOf(vertices int, rows ...[3]int64) api.Graph {
	g := api.Graph{Vertices: vertices}
	for _, r := range rows {
		g.Edges = append(g.Edges, api.Edge{From: int(r[0]), To: int(r[1]), Weight: r[2]})
	}
	return g
}

// fullGraph has 512 vertices and the first so many pairs of all, which rise.
func fullGraph(edges int) api.Graph {
	g := api.Graph{Vertices: 512}
	for i := range edges {
		g.Edges = append(g.Edges, api.Edge{From: i / 512, To: i % 512, Weight: int64(i)})
	}
	return g
}

// textOf writes a graph's text by hand, its edges as they stand.
func textOf(g api.Graph) string {
	var b strings.Builder
	b.WriteString("vertices " + strconv.Itoa(g.Vertices) + "\n")
	for _, e := range g.Edges {
		b.WriteString("edge " + strconv.Itoa(e.From) + " " + strconv.Itoa(e.To) + " " + strconv.FormatInt(e.Weight, 10) + "\n")
	}
	return b.String()
}

// plainMayBe takes the document's words one by one.
func plainMayBe(g api.Graph) bool {
	if g.Vertices < 1 || g.Vertices > 512 || len(g.Edges) > 8192 {
		return false
	}
	for i, e := range g.Edges {
		if e.From < 0 || e.From >= g.Vertices || e.To < 0 || e.To >= g.Vertices {
			return false
		}
		if e.Weight < 0 || e.Weight > heaviest {
			return false
		}
		if i > 0 && plainKey(g.Edges[i-1]) >= plainKey(e) {
			return false
		}
	}
	return true
}

// plainCheck tells which error a graph has.
func plainCheck(g api.Graph) api.Errno {
	switch {
	case g.Vertices > 512, len(g.Edges) > 8192:
		return api.ErrLimit
	case !plainMayBe(g):
		return api.ErrGraph
	}
	return api.OK
}

// plainKey rises just as edges rise, where they lead from and to vertices.
func plainKey(e api.Edge) int { return 1000*e.From + e.To }

// plainSorted tells the edges in the order of From and To.
func plainSorted(edges []api.Edge) []api.Edge {
	return slices.SortedStableFunc(slices.Values(edges), func(a, b api.Edge) int { return plainKey(a) - plainKey(b) })
}

// plainGraph reads lines with words as a graph's text from its beginning on:
// the graph, and whether they are one; and whether they are a beginning of one.
func plainGraph(rows [][]string) (api.Graph, bool, bool) {
	if len(rows) == 0 {
		return api.Graph{}, false, true
	}
	var numbers [][]int64
	for _, row := range rows {
		var l []int64
		for _, w := range row[1:] {
			n, errno := words.Number(w)
			if errno != api.OK {
				return api.Graph{}, false, false
			}
			l = append(l, n)
		}
		numbers = append(numbers, l)
	}
	if rows[0][0] != "vertices" || len(numbers[0]) != 1 || numbers[0][0] < 1 || numbers[0][0] > 512 {
		return api.Graph{}, false, false
	}
	g := api.Graph{Vertices: int(numbers[0][0])}
	for i, row := range rows[1:] {
		l := numbers[i+1]
		if row[0] != "edge" && row[0] != "both" || len(l) != 2 && len(l) != 3 {
			return api.Graph{}, false, false
		}
		if len(l) == 2 {
			l = append(l, 1)
		}
		g.Edges = append(g.Edges, api.Edge{From: int(l[0]), To: int(l[1]), Weight: l[2]})
		if row[0] == "both" && l[0] != l[1] {
			g.Edges = append(g.Edges, api.Edge{From: int(l[1]), To: int(l[0]), Weight: l[2]})
		}
	}
	g.Edges = plainSorted(g.Edges)
	return g, plainMayBe(g), plainMayBe(g)
}

// plainParse holds the document's words against each beginning of the lines.
func plainParse(s string) (api.Graph, int, api.Errno) {
	if len(s) > textBytes {
		return api.Graph{}, 0, api.ErrLimit
	}
	var rows [][]string
	lines := words.Lines(s)
	for i, line := range lines {
		row, errno := words.Words(line)
		if errno != api.OK {
			return api.Graph{}, i + 1, api.ErrLine
		}
		if len(row) > 0 {
			rows = append(rows, row)
		}
		if _, _, begins := plainGraph(rows); !begins {
			return api.Graph{}, i + 1, api.ErrLine
		}
	}
	if g, is, _ := plainGraph(rows); is {
		return g, 0, api.OK
	}
	return api.Graph{}, len(lines) + 1, api.ErrLine
}

// equal compares graphs without the package's own Same.
func equal(a, b api.Graph) bool {
	if a.Vertices != b.Vertices || len(a.Edges) != len(b.Edges) {
		return false
	}
	for i := range a.Edges {
		if a.Edges[i] != b.Edges[i] {
			return false
		}
	}
	return true
}

func mustCheck(t *testing.T, what string, g api.Graph, want api.Errno) {
	t.Helper()
	if got := graph.Check(g); got != want {
		t.Errorf("Check of %s: %d, not %d", what, got, want)
	}
}

// short leaves out the middle of a long text.
func short(s string) string {
	if len(s) > 200 {
		return s[:100] + " .. " + s[len(s)-100:]
	}
	return s
}

// told tells a graph in few words.
func told(g api.Graph) string { return short(textOf(g)) }

func mustParse(t *testing.T, s string, want api.Graph) {
	t.Helper()
	g, line, errno := graph.Parse(s)
	if errno != api.OK || line != 0 || !equal(g, want) {
		t.Errorf("Parse(%q): %q, line %d, error %d, not %q", short(s), told(g), line, errno, told(want))
	}
}

func mustNotParse(t *testing.T, s string, wantLine int, want api.Errno) {
	t.Helper()
	g, line, errno := graph.Parse(s)
	if errno != want || line != wantLine || g.Vertices != 0 || len(g.Edges) != 0 {
		t.Errorf("Parse(%q): %q, line %d, error %d, not line %d, error %d", short(s), told(g), line, errno, wantLine, want)
	}
}

func mustBeEdges(t *testing.T, what string, got []api.Edge, want ...api.Edge) {
	t.Helper()
	if !slices.Equal(got, want) {
		t.Errorf("%s: %v, not %v", what, got, want)
	}
}

// badGraphs are graphs that may not be, by what is wrong with them.
func badGraphs() map[string]api.Graph {
	return map[string]api.Graph{
		"nothing":                {},
		"vertices below 0":       graphOf(-1),
		"the least int":          graphOf(math.MinInt),
		"no vertices, an edge":   graphOf(0, [3]int64{0, 0, 1}),
		"From at Vertices":       graphOf(3, [3]int64{3, 0, 1}),
		"From above":             graphOf(3, [3]int64{math.MaxInt, 0, 1}),
		"From below 0":           graphOf(3, [3]int64{-1, 0, 1}),
		"From the least":         graphOf(3, [3]int64{math.MinInt, 0, 1}),
		"To at Vertices":         graphOf(3, [3]int64{0, 3, 1}),
		"To above":               graphOf(3, [3]int64{0, math.MaxInt, 1}),
		"To below 0":             graphOf(3, [3]int64{0, -1, 1}),
		"To the least":           graphOf(3, [3]int64{0, math.MinInt, 1}),
		"Weight 2^31":            graphOf(3, [3]int64{0, 1, 1 << 31}),
		"Weight the greatest":    graphOf(3, [3]int64{0, 1, math.MaxInt64}),
		"Weight 2^32":            graphOf(3, [3]int64{0, 1, 1 << 32}),
		"Weight below 0":         graphOf(3, [3]int64{0, 1, -1}),
		"Weight the least":       graphOf(3, [3]int64{0, 1, math.MinInt64}),
		"falls by From":          graphOf(3, [3]int64{1, 0, 1}, [3]int64{0, 1, 1}),
		"falls by From, last":    graphOf(3, [3]int64{0, 0, 1}, [3]int64{2, 0, 1}, [3]int64{1, 2, 1}),
		"falls by To":            graphOf(3, [3]int64{1, 2, 1}, [3]int64{1, 1, 1}),
		"falls by To, last":      graphOf(3, [3]int64{0, 2, 1}, [3]int64{1, 2, 1}, [3]int64{1, 0, 1}),
		"a pair twice":           graphOf(3, [3]int64{1, 2, 1}, [3]int64{1, 2, 1}),
		"a pair, weights rising": graphOf(3, [3]int64{1, 2, 1}, [3]int64{1, 2, 2}),
		"a pair, weights fall":   graphOf(3, [3]int64{1, 2, 2}, [3]int64{1, 2, 1}),
		"the last edge":          graphOf(3, [3]int64{0, 0, 0}, [3]int64{0, 1, 0}, [3]int64{2, 3, 0}),
		"a 512th vertex of 511":  graphOf(511, [3]int64{0, 511, 1}),
	}
}

// pastLimits are graphs that have too many vertices or edges; some of them may
// not be for another reason, too.
func pastLimits() map[string]api.Graph {
	fallen := fullGraph(8193)
	slices.Reverse(fallen.Edges)
	none := fullGraph(8193)
	none.Vertices = 0
	below := fullGraph(8193)
	below.Vertices = math.MinInt
	twice := fullGraph(8192)
	twice.Edges = append(twice.Edges, twice.Edges[8191])
	heavy := fullGraph(8193)
	heavy.Edges[0].Weight = -1
	return map[string]api.Graph{
		"513 vertices":              graphOf(513),
		"the most vertices":         graphOf(math.MaxInt),
		"513 and a bad edge":        graphOf(513, [3]int64{-1, 0, 1}),
		"513 and edges that fall":   graphOf(513, [3]int64{1, 0, 1}, [3]int64{0, 0, 1}),
		"8193 edges":                fullGraph(8193),
		"9000 edges":                fullGraph(9000),
		"8193 edges that fall":      fallen,
		"8193 edges, no vertices":   none,
		"8193 edges, below 0":       below,
		"8192 edges, one twice":     twice,
		"8193 edges, a weight -1":   heavy,
		"8193 edges, the most else": {Vertices: math.MaxInt, Edges: fullGraph(8193).Edges},
	}
}

// randomGraph may be; it has few vertices more often than many.
func randomGraph(rnd *rand.Rand) api.Graph {
	vertices := 1 + rnd.IntN(6)
	if rnd.IntN(10) == 0 {
		vertices = 1 + rnd.IntN(512)
	}
	there := map[int]bool{}
	g := api.Graph{Vertices: vertices}
	for range rnd.IntN(3 * min(vertices, 30)) {
		e := api.Edge{From: rnd.IntN(vertices), To: rnd.IntN(vertices)}
		e.Weight = []int64{0, 1, heaviest, rnd.Int64N(1 << 31)}[rnd.IntN(4)]
		if !there[plainKey(e)] {
			g.Edges = append(g.Edges, e)
		}
		there[plainKey(e)] = true
	}
	g.Edges = plainSorted(g.Edges)
	return g
}

// P4.1

func TestCheckOfNumbersOfVertices(t *testing.T) {
	for _, n := range []int{1, 2, 511, 512} {
		mustCheck(t, strconv.Itoa(n), graphOf(n), api.OK)
		mustCheck(t, strconv.Itoa(n), api.Graph{Vertices: n, Edges: []api.Edge{}}, api.OK)
	}
	for _, n := range []int{0, -1, -512, -513, math.MinInt} {
		mustCheck(t, strconv.Itoa(n), graphOf(n), api.ErrGraph)
	}
	for _, n := range []int{513, 514, 1 << 32, 1<<32 + 1, math.MaxInt} {
		mustCheck(t, strconv.Itoa(n), graphOf(n), api.ErrLimit)
	}
}

func TestCheckOfNumbersOfEdges(t *testing.T) {
	mustCheck(t, "8191 edges", fullGraph(8191), api.OK)
	mustCheck(t, "8192 edges", fullGraph(8192), api.OK)
	mustCheck(t, "8193 edges", fullGraph(8193), api.ErrLimit)
	g := fullGraph(8192)
	g.Edges[8191].Weight = -1
	mustCheck(t, "8192 edges, the last one bad", g, api.ErrGraph)
}

func TestCheckOfEdgesThatMayBe(t *testing.T) {
	mustCheck(t, "an edge to itself", graphOf(1, [3]int64{0, 0, 0}), api.OK)
	mustCheck(t, "0 to the last", graphOf(3, [3]int64{0, 2, 1}), api.OK)
	mustCheck(t, "the last to 0", graphOf(3, [3]int64{2, 0, 1}), api.OK)
	mustCheck(t, "the last of 512", graphOf(512, [3]int64{511, 511, 1}), api.OK)
	mustCheck(t, "weights", graphOf(2, [3]int64{0, 0, 0}, [3]int64{0, 1, 1}, [3]int64{1, 0, heaviest - 1}, [3]int64{1, 1, heaviest}), api.OK)
	mustCheck(t, "To falls as From rises", graphOf(3, [3]int64{0, 2, 1}, [3]int64{1, 1, 1}, [3]int64{2, 0, 1}), api.OK)
	mustCheck(t, "To stays as From rises", graphOf(3, [3]int64{0, 2, 1}, [3]int64{1, 2, 1}), api.OK)
	mustCheck(t, "weights fall", graphOf(2, [3]int64{0, 0, 9}, [3]int64{0, 1, 5}), api.OK)
}

func TestCheckOfGraphsThatMayNotBe(t *testing.T) {
	for what, g := range badGraphs() {
		mustCheck(t, what, g, api.ErrGraph)
	}
	for what, g := range pastLimits() {
		mustCheck(t, what, g, api.ErrLimit)
	}
}

func TestCheckOfRandomGraphs(t *testing.T) {
	rnd := rand.New(rand.NewPCG(4, 1))
	seen := map[api.Errno]int{}
	for range 20000 {
		g := graphOf(rnd.IntN(4))
		for range rnd.IntN(4) {
			g.Edges = append(g.Edges, api.Edge{From: rnd.IntN(4), To: rnd.IntN(4), Weight: []int64{0, 1, heaviest}[rnd.IntN(3)]})
		}
		if rnd.IntN(2) == 0 {
			g = randomGraph(rnd)
		}
		want := plainCheck(g)
		seen[want]++
		if got := graph.Check(g); got != want {
			t.Fatalf("Check(%q): %d, not %d", told(g), got, want)
		}
	}
	if seen[api.OK] < 5000 || seen[api.ErrGraph] < 5000 {
		t.Errorf("too few of a kind: %v", seen)
	}
}

// P4.2

func TestParseOfTheExamples(t *testing.T) {
	mustParse(t, "vertices 3\nboth 0 2 5\nedge 1 0", graphOf(3, [3]int64{0, 2, 5}, [3]int64{1, 0, 1}, [3]int64{2, 0, 5}))
	mustNotParse(t, "vertices 2\nedge 0 1\nedge 0 1 9", 3, api.ErrLine)
	mustNotParse(t, "vertices 2\nedge 0 2", 2, api.ErrLine)
	mustNotParse(t, "", 1, api.ErrLine)
	// The document's graph of the whole.
	mustParse(t, "vertices 4\nedge 0 1 4\nedge 0 2\nedge 2 1 2\n", graphOf(4, [3]int64{0, 1, 4}, [3]int64{0, 2, 1}, [3]int64{2, 1, 2}))
}

func TestParseOfLongTexts(t *testing.T) {
	filled := func(s string, bytes int) string { return s + strings.Repeat("x", bytes-len(s)) }
	mustParse(t, filled("vertices 2\nedge 0 1 3\n#", textBytes), graphOf(2, [3]int64{0, 1, 3}))
	mustNotParse(t, filled("vertices 2\nedge 0 1 3\n#", textBytes+1), 0, api.ErrLimit)
	mustNotParse(t, filled("nothing\n#", textBytes+1), 0, api.ErrLimit)
	mustNotParse(t, filled("#", textBytes), 2, api.ErrLine)
	mustNotParse(t, filled("vertices 2\n", textBytes), 2, api.ErrLine)
	mustNotParse(t, strings.Repeat("\n", textBytes), textBytes+1, api.ErrLine)
	mustNotParse(t, strings.Repeat("\n", textBytes+1), 0, api.ErrLimit)
	// Bytes are counted, not characters.
	mustParse(t, "vertices 1\n#x"+strings.Repeat("\u00E4", (textBytes-14)/2)+"\n", graphOf(1))
	mustNotParse(t, "vertices 1\n#xx"+strings.Repeat("\u00E4", (textBytes-14)/2)+"\n", 0, api.ErrLimit)
}

func TestParsePassesOverLinesWithoutWords(t *testing.T) {
	nothings := []string{"", " ", "\t", "\u00A0", "# a", " # vertices 3", "#\xFF", "\r", " \t\u00A0\r"}
	for _, a := range nothings {
		mustNotParse(t, a, len(words.Lines(a))+1, api.ErrLine)
		mustNotParse(t, a+"\n", 2, api.ErrLine)
		for _, b := range nothings {
			mustNotParse(t, a+"\n"+b+"\n", 3, api.ErrLine)
			mustParse(t, a+"\nvertices 2\n"+b+"\nedge 1 0 7\n"+a+"\n"+b+"\n", graphOf(2, [3]int64{1, 0, 7}))
			mustParse(t, a+"\n"+b+"\nvertices 2", graphOf(2))
			// They count as lines.
			mustNotParse(t, a+"\n"+b+"\nedge 0 0", 3, api.ErrLine)
			mustNotParse(t, a+"\nvertices 2\n"+b+"\nedge 0 2\n", 4, api.ErrLine)
			mustNotParse(t, "vertices 2\n"+a+"\nedge 0 1\n"+b+"\nedge 0 1\n", 5, api.ErrLine)
		}
	}
}

func TestParseOfLineEnds(t *testing.T) {
	want := graphOf(2, [3]int64{0, 1, 5})
	mustParse(t, "vertices 2\nedge 0 1 5", want)
	mustParse(t, "vertices 2\nedge 0 1 5\n", want)
	mustParse(t, "vertices 2\r\nedge 0 1 5\r\n", want)
	mustParse(t, "vertices 2\r\nedge 0 1 5\r", want)
	mustParse(t, "vertices 2\nedge 0 1 5\r\n\r\n\n", want)
	mustParse(t, "vertices 2", graphOf(2))
	mustNotParse(t, "vertices 2\r\r\nedge 0 1 5\n", 1, api.ErrLine)
	mustNotParse(t, "vertices 2\nedge 0 1 5\r\r\n", 2, api.ErrLine)
	mustNotParse(t, "vertices 2\redge 0 1 5\n", 1, api.ErrLine)
}

func TestParseOfGapsAndRemarks(t *testing.T) {
	mustParse(t, " \tvertices\u00A0\t2#3\n\u00A0edge  0\t1 # 5 6 7\n", graphOf(2, [3]int64{0, 1, 1}))
	mustParse(t, "vertices 2 # edge\nboth 0 1 5#\xFF\n", graphOf(2, [3]int64{0, 1, 5}, [3]int64{1, 0, 5}))
	mustNotParse(t, "vertices# 2\n", 1, api.ErrLine)
	mustNotParse(t, "vertices 2\nedge 0 #1\n", 2, api.ErrLine)
}

func TestParseOfLinesVertices(t *testing.T) {
	mustParse(t, "vertices 1", graphOf(1))
	mustParse(t, "vertices 512", graphOf(512))
	mustParse(t, "vertices \u0665\u0661\u0662", graphOf(512))
	mustParse(t, "vertices \uFF13", graphOf(3))
	for _, said := range []string{
		"vertices", "vertices 1 1", "vertices 1 2 3", "vertices 0", "vertices 513", "vertices 514", "vertices 4294967297",
		"vertices 4611686018427387904", "vertices 4611686018427387905", "vertices 18446744073709551617", "vertices 01", "vertices 00", "vertices -1", "vertices +1",
		"vertices a", "vertices 1a", "vertices 1.0", "vertices \u06612", "vertices \u0665\u0661\u0663",
		"vertice 1", "verticess 1", "Vertices 1", "VERTICES 1", "1", "1 vertices", "vertices1", "vertices vertices", "vertices edge",
	} {
		mustNotParse(t, said, 1, api.ErrLine)
		mustNotParse(t, "\n"+said+"\nvertices 3\n", 2, api.ErrLine)
	}
}

func TestParseOfAFirstLineThatIsAnEdge(t *testing.T) {
	for _, said := range []string{"edge 0 0", "edge 0 0 1", "both 0 0", "both 0 1 2"} {
		mustNotParse(t, said, 1, api.ErrLine)
		mustNotParse(t, said+"\nvertices 2\n", 1, api.ErrLine)
		mustNotParse(t, "# a\n"+said+"\nvertices 2\n", 2, api.ErrLine)
	}
}

func TestParseOfASecondLineVertices(t *testing.T) {
	mustNotParse(t, "vertices 2\nvertices 2", 2, api.ErrLine)
	mustNotParse(t, "vertices 2\nvertices 3\n", 2, api.ErrLine)
	mustNotParse(t, "vertices 2\nedge 0 1\nvertices 2\n", 3, api.ErrLine)
	mustNotParse(t, "vertices 2\nvertices\n", 2, api.ErrLine)
	mustNotParse(t, "vertices 2\nvertices 0 1\n", 2, api.ErrLine)
}

func TestParseOfNumbersOfNumbers(t *testing.T) {
	for _, word := range []string{"edge", "both"} {
		for _, rest := range []string{"", " 0", " 1", " 0 1 2 3", " 0 1 1 1", " 0 1 2 3 4"} {
			mustNotParse(t, "vertices 2\n"+word+rest, 2, api.ErrLine)
			mustNotParse(t, "vertices 2\nedge 0 0\n"+word+rest+"\nedge 1 1\n", 3, api.ErrLine)
		}
	}
	mustParse(t, "vertices 2\nedge 0 1", graphOf(2, [3]int64{0, 1, 1}))
	mustParse(t, "vertices 2\nedge 0 1 3", graphOf(2, [3]int64{0, 1, 3}))
	mustParse(t, "vertices 2\nboth 0 1", graphOf(2, [3]int64{0, 1, 1}, [3]int64{1, 0, 1}))
	mustParse(t, "vertices 2\nboth 1 0 3", graphOf(2, [3]int64{0, 1, 3}, [3]int64{1, 0, 3}))
}

func TestParseOfOtherWords(t *testing.T) {
	for _, said := range []string{
		"edg 0 1", "edges 0 1", "Edge 0 1", "EDGE 0 1", "bot 0 1", "boths 0 1", "Both 0 1", "edge0 1", "0 1", "0 1 2", "arc 0 1", "edge, 0 1", "\uFFFD 0 1", "\u2003edge 0 1",
	} {
		mustNotParse(t, "vertices 2\n"+said, 2, api.ErrLine)
	}
}

func TestParseOfOtherNumbers(t *testing.T) {
	for _, word := range []string{"edge", "both"} {
		for _, bad := range []string{
			"-1", "+1", "-0", "01", "00", "a", "1a", "0x1", "1.0", "1,", "\u06610", "\u0660\u0661", "\uFF10\uFF11", "\uFFFD", "edge",
			"4611686018427387905", "9223372036854775808", "18446744073709551616", "18446744073709551617", "99999999999999999999999999",
		} {
			mustNotParse(t, "vertices 2\n"+word+" "+bad+" 1", 2, api.ErrLine)
			mustNotParse(t, "vertices 2\n"+word+" 1 "+bad, 2, api.ErrLine)
			mustNotParse(t, "vertices 2\n"+word+" "+bad+" 1 1", 2, api.ErrLine)
			mustNotParse(t, "vertices 2\n"+word+" 1 "+bad+" 1", 2, api.ErrLine)
			mustNotParse(t, "vertices 2\n"+word+" 0 1 "+bad, 2, api.ErrLine)
		}
	}
}

func TestParseOfDigitsOfEachKind(t *testing.T) {
	mustParse(t, "vertices \u0663\nedge \u0660 \u0662 \u0661\u0660\nedge \uFF11 \uFF10 \uFF17\nedge 2 \u0661 \uFF10\n",
		graphOf(3, [3]int64{0, 2, 10}, [3]int64{1, 0, 7}, [3]int64{2, 1, 0}))
	mustParse(t, "vertices 12\nboth \u0661\u0661 \uFF11\uFF10\n", graphOf(12, [3]int64{10, 11, 1}, [3]int64{11, 10, 1}))
	mustNotParse(t, "vertices 12\nedge \u06611 0\n", 2, api.ErrLine)
}

func TestParseOfNoVertices(t *testing.T) {
	for _, word := range []string{"edge", "both"} {
		for _, v := range []string{"2", "3", "512", "4294967296", "4294967297", "4611686018427387904"} {
			mustNotParse(t, "vertices 2\n"+word+" "+v+" 0", 2, api.ErrLine)
			mustNotParse(t, "vertices 2\n"+word+" 0 "+v, 2, api.ErrLine)
			mustNotParse(t, "vertices 2\n"+word+" "+v+" "+v+" 5", 2, api.ErrLine)
		}
	}
	mustParse(t, "vertices 512\nedge 511 0\nedge 0 511\nedge 511 511", graphOf(512, [3]int64{0, 511, 1}, [3]int64{511, 0, 1}, [3]int64{511, 511, 1}))
}

func TestParseOfWeights(t *testing.T) {
	for _, w := range []int64{0, 1, 2, 4294967, heaviest - 1, heaviest} {
		said := strconv.FormatInt(w, 10)
		mustParse(t, "vertices 2\nedge 1 0 "+said, graphOf(2, [3]int64{1, 0, w}))
		mustParse(t, "vertices 2\nboth 1 0 "+said, graphOf(2, [3]int64{0, 1, w}, [3]int64{1, 0, w}))
	}
	for _, said := range []string{"2147483648", "2147483649", "4294967295", "4294967296", "4294967297", "4611686018427387904"} {
		mustNotParse(t, "vertices 2\nedge 1 0 "+said, 2, api.ErrLine)
		mustNotParse(t, "vertices 2\nboth 1 0 "+said, 2, api.ErrLine)
		mustNotParse(t, "vertices 2\nboth 1 1 "+said, 2, api.ErrLine)
	}
}

func TestParseOfPairsThatAreThere(t *testing.T) {
	for _, second := range []string{"edge 0 1", "edge 0 1 1", "edge 0 1 9", "both 0 1", "both 1 0", "both 1 0 9"} {
		for _, first := range []string{"edge 0 1", "edge 0 1 9", "both 0 1", "both 1 0"} {
			mustNotParse(t, "vertices 3\n"+first+"\n"+second, 3, api.ErrLine)
			mustNotParse(t, "vertices 3\n"+first+"\nedge 2 2\n"+second+"\n", 4, api.ErrLine)
		}
	}
	mustNotParse(t, "vertices 3\nboth 0 1\nedge 1 0", 3, api.ErrLine)
	mustNotParse(t, "vertices 3\nedge 1 0\nboth 0 1", 3, api.ErrLine)
	mustParse(t, "vertices 3\nedge 0 1 4\nedge 1 0 5", graphOf(3, [3]int64{0, 1, 4}, [3]int64{1, 0, 5}))
	mustParse(t, "vertices 3\nboth 0 1 4\nboth 0 2 5\nedge 0 0 6", graphOf(3, [3]int64{0, 0, 6}, [3]int64{0, 1, 4}, [3]int64{0, 2, 5}, [3]int64{1, 0, 4}, [3]int64{2, 0, 5}))
}

func TestParseOfBothOfAVertexAndItself(t *testing.T) {
	mustParse(t, "vertices 3\nboth 1 1", graphOf(3, [3]int64{1, 1, 1}))
	mustParse(t, "vertices 3\nboth 2 2 7\nedge 0 0 1", graphOf(3, [3]int64{0, 0, 1}, [3]int64{2, 2, 7}))
	for _, first := range []string{"both 1 1", "edge 1 1"} {
		for _, second := range []string{"both 1 1", "edge 1 1", "both 1 1 5"} {
			mustNotParse(t, "vertices 3\n"+first+"\n"+second, 3, api.ErrLine)
		}
	}
}

func TestParseOfLinesThatWordsRefuses(t *testing.T) {
	for _, bad := range []string{"\xFF", "edge 0 1\xC2", "edge 0 1 \x00", "edge 0 1\x7F", "\x01 # a", "\v", "edge\f0 1"} {
		mustNotParse(t, bad, 1, api.ErrLine)
		mustNotParse(t, bad+"\nvertices 2\n", 1, api.ErrLine)
		mustNotParse(t, "vertices 2\n"+bad, 2, api.ErrLine)
		mustNotParse(t, "vertices 2\nedge 1 1\n\n"+bad+"\nedge 0 0\n", 4, api.ErrLine)
	}
}

func TestParseOfEdgesThatDoNotRise(t *testing.T) {
	mustParse(t, "vertices 3\nedge 2 1 1\nedge 0 2 2\nedge 2 0 3\nedge 0 0 4\nedge 1 1 5\n",
		graphOf(3, [3]int64{0, 0, 4}, [3]int64{0, 2, 2}, [3]int64{1, 1, 5}, [3]int64{2, 0, 3}, [3]int64{2, 1, 1}))
	fallen := fullGraph(8192)
	slices.Reverse(fallen.Edges)
	mustParse(t, textOf(fallen), fullGraph(8192))
}

func TestParseOfTooManyEdges(t *testing.T) {
	full := fullGraph(8192)
	mustParse(t, textOf(full), full)
	mustNotParse(t, textOf(full)+"edge 16 0\n", 8194, api.ErrLine)
	mustNotParse(t, textOf(full)+"\n# a\nboth 16 16\n", 8196, api.ErrLine)
	mustNotParse(t, textOf(full)+"both 16 17\n", 8194, api.ErrLine)
	mustParse(t, textOf(full)+"\n# a\n", full)
	// One more has room, but not two.
	mustNotParse(t, textOf(fullGraph(8191))+"both 16 17\nedge 16 0\n", 8193, api.ErrLine)
	mustParse(t, textOf(fullGraph(8191))+"edge 16 0 3\n", withEdges(8191, api.Edge{From: 16, To: 0, Weight: 3}))
	mustParse(t, textOf(fullGraph(8191))+"both 16 16 3\n", withEdges(8191, api.Edge{From: 16, To: 16, Weight: 3}))
	mustParse(t, textOf(fullGraph(8190))+"both 17 16 3\n", withEdges(8190, api.Edge{From: 16, To: 17, Weight: 3}, api.Edge{From: 17, To: 16, Weight: 3}))
}

// withEdges is a full graph of so many edges, and some behind them.
func withEdges(edges int, more ...api.Edge) api.Graph {
	g := fullGraph(edges)
	g.Edges = append(g.Edges, more...)
	return g
}

func TestParseTellsTheFirstOfSeveralLines(t *testing.T) {
	mustNotParse(t, "vertices 2\nedge 0 2\nedge 0 3\nnothing\n", 2, api.ErrLine)
	mustNotParse(t, "vertices 2\nedge 0 1\nedge 0 1\n\xFF\n", 3, api.ErrLine)
	mustNotParse(t, "nothing\n\xFF\nvertices 0\n", 1, api.ErrLine)
	mustNotParse(t, "vertices 2\n\xFF\nedge 0 9", 2, api.ErrLine)
	mustNotParse(t, "\n\nvertices 600\nvertices 2\nedge 0 9", 3, api.ErrLine)
}

func TestParseWithoutALineVertices(t *testing.T) {
	mustNotParse(t, "", 1, api.ErrLine)
	mustNotParse(t, "\n", 2, api.ErrLine)
	mustNotParse(t, "\n\n", 3, api.ErrLine)
	mustNotParse(t, " ", 2, api.ErrLine)
	mustNotParse(t, "# vertices 2", 2, api.ErrLine)
	mustNotParse(t, "# vertices 2\n", 2, api.ErrLine)
	mustNotParse(t, "# a\r\n\r\n# b", 4, api.ErrLine)
}

// randomText is mostly a beginning of a graph's text.
func randomText(rnd *rand.Rand) string {
	ends := []string{"\n", "\n", "\n", "\r\n", " # a\n", "\n\n"}
	end := func() string { return ends[rnd.IntN(len(ends))] }
	number := func() string { return words.Print(int64(rnd.IntN(4)), rnd.IntN(3)) }
	var b strings.Builder
	if rnd.IntN(6) == 0 {
		b.WriteString(end())
	}
	if rnd.IntN(20) > 0 {
		b.WriteString("vertices " + words.Print(int64(rnd.IntN(4)+2), rnd.IntN(3)) + end())
	}
	for range rnd.IntN(7) {
		b.WriteString([]string{"edge ", "both "}[rnd.IntN(2)] + number() + " " + number())
		if rnd.IntN(2) == 0 {
			b.WriteString(" " + []string{number(), "2147483647"}[rnd.IntN(2)])
		}
		if rnd.IntN(30) == 0 {
			b.WriteString([]string{" 1", "\xFF", "\nvertices 3", "\nedge", "\nedge 0 1 2147483648", "\nboth 9 0", "\nedge 00 1"}[rnd.IntN(7)])
		}
		b.WriteString(end())
	}
	return b.String()
}

func TestParseOfRandomTexts(t *testing.T) {
	rnd := rand.New(rand.NewPCG(4, 2))
	seen := map[api.Errno]int{}
	for range 30000 {
		s := randomText(rnd)
		want, wantLine, wantErrno := plainParse(s)
		seen[wantErrno]++
		if wantErrno == api.OK {
			mustParse(t, s, want)
		} else {
			mustNotParse(t, s, wantLine, wantErrno)
		}
	}
	if seen[api.OK] < 5000 || seen[api.ErrLine] < 5000 {
		t.Errorf("too few of a kind: %v", seen)
	}
}

// P4.3

func mustPrint(t *testing.T, g api.Graph, want string) {
	t.Helper()
	if got, errno := graph.Print(g); got != want || errno != api.OK {
		t.Errorf("Print: %q, %d, not %q", short(got), errno, short(want))
	}
}

func TestPrintOfGraphs(t *testing.T) {
	mustPrint(t, graphOf(3, [3]int64{0, 2, 5}, [3]int64{1, 0, 1}, [3]int64{2, 0, 5}), "vertices 3\nedge 0 2 5\nedge 1 0 1\nedge 2 0 5\n")
	mustPrint(t, graphOf(1), "vertices 1\n")
	mustPrint(t, graphOf(512), "vertices 512\n")
	mustPrint(t, api.Graph{Vertices: 7, Edges: []api.Edge{}}, "vertices 7\n")
	mustPrint(t, graphOf(2, [3]int64{0, 1, 0}, [3]int64{1, 1, heaviest}), "vertices 2\nedge 0 1 0\nedge 1 1 2147483647\n")
	mustPrint(t, fullGraph(8192), textOf(fullGraph(8192)))
}

func TestPrintOfGraphsThatMayNotBe(t *testing.T) {
	refuse := func(what string, g api.Graph, want api.Errno) {
		if got, errno := graph.Print(g); got != "" || errno != want {
			t.Errorf("Print of %s: %q, %d", what, short(got), errno)
		}
	}
	for what, g := range badGraphs() {
		refuse(what, g, api.ErrGraph)
	}
	for what, g := range pastLimits() {
		refuse(what, g, api.ErrLimit)
	}
}

// P4.4

func TestOutAndBackByHand(t *testing.T) {
	g := graphOf(4, [3]int64{0, 1, 10}, [3]int64{0, 2, 11}, [3]int64{1, 1, 12}, [3]int64{1, 2, 13}, [3]int64{2, 0, 14}, [3]int64{2, 1, 15})
	e := g.Edges
	mustBeEdges(t, "Out of 0", graph.Out(g, 0), e[0], e[1])
	mustBeEdges(t, "Out of 1", graph.Out(g, 1), e[2], e[3])
	mustBeEdges(t, "Out of 2", graph.Out(g, 2), e[4], e[5])
	mustBeEdges(t, "Out of 3", graph.Out(g, 3))
	mustBeEdges(t, "Back of 0", graph.Back(g, 0), e[4])
	mustBeEdges(t, "Back of 1", graph.Back(g, 1), e[0], e[2], e[5])
	mustBeEdges(t, "Back of 2", graph.Back(g, 2), e[1], e[3])
	mustBeEdges(t, "Back of 3", graph.Back(g, 3))
}

func TestOutAndBackOfNoVertex(t *testing.T) {
	g := graphOf(2, [3]int64{0, 0, 1}, [3]int64{0, 1, 1}, [3]int64{1, 0, 1})
	for _, v := range []int{2, 3, 511, 512, -1, -2, math.MaxInt, math.MinInt, 1 << 32} {
		mustBeEdges(t, "Out of "+strconv.Itoa(v), graph.Out(g, v))
		mustBeEdges(t, "Back of "+strconv.Itoa(v), graph.Back(g, v))
	}
	mustBeEdges(t, "Out of nothing", graph.Out(api.Graph{}, 0))
	mustBeEdges(t, "Back of nothing", graph.Back(api.Graph{}, 0))
}

func TestOutAndBackOfGraphsMadeByHand(t *testing.T) {
	g := graphOf(1, [3]int64{5, 2, 1}, [3]int64{5, 1, -3}, [3]int64{-1, 5, 1}, [3]int64{5, 2, 1}, [3]int64{math.MinInt, 2, 4})
	e := g.Edges
	mustBeEdges(t, "Out of 5", graph.Out(g, 5), e[0], e[1], e[3])
	mustBeEdges(t, "Out of -1", graph.Out(g, -1), e[2])
	mustBeEdges(t, "Out of the least", graph.Out(g, math.MinInt), e[4])
	mustBeEdges(t, "Back of 2", graph.Back(g, 2), e[0], e[3], e[4])
	mustBeEdges(t, "Back of 5", graph.Back(g, 5), e[2])
}

// P4.5

func mustTurn(t *testing.T, g, want api.Graph) {
	t.Helper()
	if got, errno := graph.Turn(g); errno != api.OK || !equal(got, want) {
		t.Errorf("Turn(%q): %q, %d, not %q", told(g), told(got), errno, told(want))
	}
}

func TestTurnByHand(t *testing.T) {
	mustTurn(t, graphOf(4, [3]int64{0, 1, 4}, [3]int64{0, 2, 1}, [3]int64{2, 1, 2}), graphOf(4, [3]int64{1, 0, 4}, [3]int64{1, 2, 2}, [3]int64{2, 0, 1}))
	// As they stand the turned ones fall.
	mustTurn(t, graphOf(3, [3]int64{0, 2, 1}, [3]int64{1, 1, 2}, [3]int64{2, 0, 3}), graphOf(3, [3]int64{0, 2, 3}, [3]int64{1, 1, 2}, [3]int64{2, 0, 1}))
	mustTurn(t, graphOf(3, [3]int64{0, 1, 1}, [3]int64{0, 2, 2}, [3]int64{1, 0, 3}, [3]int64{1, 2, 4}), graphOf(3, [3]int64{0, 1, 3}, [3]int64{1, 0, 1}, [3]int64{2, 0, 2}, [3]int64{2, 1, 4}))
	mustTurn(t, graphOf(1), graphOf(1))
	mustTurn(t, graphOf(512), graphOf(512))
	mustTurn(t, graphOf(2, [3]int64{1, 1, heaviest}), graphOf(2, [3]int64{1, 1, heaviest}))
}

func TestTurnOfGraphsThatMayNotBe(t *testing.T) {
	refuse := func(what string, g api.Graph, want api.Errno) {
		if got, errno := graph.Turn(g); got.Vertices != 0 || len(got.Edges) != 0 || errno != want {
			t.Errorf("Turn of %s: %d vertices, %d edges, %d", what, got.Vertices, len(got.Edges), errno)
		}
	}
	for what, g := range badGraphs() {
		refuse(what, g, api.ErrGraph)
	}
	for what, g := range pastLimits() {
		refuse(what, g, api.ErrLimit)
	}
}

func TestTurnOfRandomGraphs(t *testing.T) {
	rnd := rand.New(rand.NewPCG(4, 5))
	for range 300 {
		g := randomGraph(rnd)
		want := api.Graph{Vertices: g.Vertices}
		for _, e := range g.Edges {
			want.Edges = append(want.Edges, api.Edge{From: e.To, To: e.From, Weight: e.Weight})
		}
		want.Edges = plainSorted(want.Edges)
		mustTurn(t, g, want)
	}
}

// P4.6

func TestSameOfGraphs(t *testing.T) {
	base := graphOf(4, [3]int64{0, 1, 4}, [3]int64{0, 2, 1}, [3]int64{2, 1, 2})
	others := map[string]api.Graph{
		"vertices":        graphOf(5, [3]int64{0, 1, 4}, [3]int64{0, 2, 1}, [3]int64{2, 1, 2}),
		"fewer edges":     graphOf(4, [3]int64{0, 1, 4}, [3]int64{0, 2, 1}),
		"more edges":      graphOf(4, [3]int64{0, 1, 4}, [3]int64{0, 2, 1}, [3]int64{2, 1, 2}, [3]int64{3, 3, 0}),
		"no edges":        graphOf(4),
		"a From":          graphOf(4, [3]int64{0, 1, 4}, [3]int64{0, 2, 1}, [3]int64{3, 1, 2}),
		"a To":            graphOf(4, [3]int64{0, 1, 4}, [3]int64{0, 2, 1}, [3]int64{2, 2, 2}),
		"the last Weight": graphOf(4, [3]int64{0, 1, 4}, [3]int64{0, 2, 1}, [3]int64{2, 1, 3}),
		"the first":       graphOf(4, [3]int64{0, 1, 5}, [3]int64{0, 2, 1}, [3]int64{2, 1, 2}),
		"the order":       graphOf(4, [3]int64{0, 2, 1}, [3]int64{0, 1, 4}, [3]int64{2, 1, 2}),
		"turned":          graphOf(4, [3]int64{1, 0, 4}, [3]int64{1, 2, 2}, [3]int64{2, 0, 1}),
		"nothing":         {},
	}
	for what, other := range others {
		if graph.Same(base, other) || graph.Same(other, base) {
			t.Errorf("graphs that differ in %s are the same", what)
		}
		if again := (api.Graph{Vertices: other.Vertices, Edges: slices.Clone(other.Edges)}); !graph.Same(other, again) || !graph.Same(other, other) {
			t.Errorf("a graph is not the same as itself: %s", what)
		}
	}
	if again := graphOf(4, [3]int64{0, 1, 4}, [3]int64{0, 2, 1}, [3]int64{2, 1, 2}); !graph.Same(base, again) {
		t.Error("graphs that are alike are not the same")
	}
}

func TestSameOfEmptyAndNilEdges(t *testing.T) {
	a, b := api.Graph{Vertices: 3}, api.Graph{Vertices: 3, Edges: []api.Edge{}}
	if !graph.Same(a, b) || !graph.Same(b, a) || !graph.Same(api.Graph{}, api.Graph{Edges: []api.Edge{}}) {
		t.Error("no edges are no edges")
	}
}

func TestSameOfGraphsThatMayNotBe(t *testing.T) {
	all := badGraphs()
	for what, g := range pastLimits() {
		all[what] = g
	}
	for a, g := range all {
		for b, h := range all {
			if got, want := graph.Same(g, h), equal(g, h); got != want {
				t.Errorf("Same of %s and %s: %t", a, b, got)
			}
		}
	}
}

// P4.7

// asHandedIn tells a graph whose edges have memory behind them, and a question:
// is all of it as it was?
func asHandedIn(g api.Graph) (api.Graph, func() bool) {
	memory := append(slices.Clone(g.Edges), make([]api.Edge, 5)...)
	for i := len(g.Edges); i < len(memory); i++ {
		memory[i] = api.Edge{From: -7, To: i, Weight: 99}
	}
	was := slices.Clone(memory)
	handed := api.Graph{Vertices: g.Vertices, Edges: memory[:len(g.Edges)]}
	return handed, func() bool { return slices.Equal(memory, was) }
}

// spoil overwrites all of a list's memory.
func spoil(edges []api.Edge) {
	edges = edges[:cap(edges)]
	for i := range edges {
		edges[i] = api.Edge{From: -1, To: -2, Weight: -3}
	}
}

func TestWhatIsHandedInIsOnlyRead(t *testing.T) {
	graphs := badGraphs()
	graphs["that may be"] = graphOf(4, [3]int64{0, 1, 4}, [3]int64{0, 2, 1}, [3]int64{1, 1, 0}, [3]int64{2, 1, 2})
	graphs["without edges"] = graphOf(4)
	for what, g := range graphs {
		handed, asItWas := asHandedIn(g)
		graph.Check(handed)
		graph.Print(handed)
		turned, _ := graph.Turn(handed)
		answers := [][]api.Edge{turned.Edges}
		for v := -1; v < 5; v++ {
			answers = append(answers, graph.Out(handed, v), graph.Back(handed, v))
		}
		graph.Same(handed, handed)
		if !asItWas() {
			t.Errorf("a graph %s was changed", what)
		}
		for _, edges := range answers {
			spoil(edges)
		}
		if !asItWas() {
			t.Errorf("a graph %s shares memory with an answer", what)
		}
	}
}

func TestAnswersStayAsTheyAre(t *testing.T) {
	g := graphOf(4, [3]int64{0, 1, 4}, [3]int64{0, 2, 1}, [3]int64{1, 1, 0}, [3]int64{2, 1, 2})
	handed, _ := asHandedIn(g)
	text, _ := graph.Print(handed)
	turned, _ := graph.Turn(handed)
	again, _ := graph.Turn(handed)
	out, back := graph.Out(handed, 0), graph.Back(handed, 1)
	spoil(handed.Edges)
	spoil(again.Edges)
	spoil(graph.Out(handed, 0))
	if text != "vertices 4\nedge 0 1 4\nedge 0 2 1\nedge 1 1 0\nedge 2 1 2\n" {
		t.Errorf("the text is now %q", text)
	}
	if want := graphOf(4, [3]int64{1, 0, 4}, [3]int64{1, 1, 0}, [3]int64{1, 2, 2}, [3]int64{2, 0, 1}); !equal(turned, want) {
		t.Errorf("the turned one is now %v", turned)
	}
	mustBeEdges(t, "Out of 0", out, g.Edges[0], g.Edges[1])
	mustBeEdges(t, "Back of 1", back, g.Edges[0], g.Edges[2], g.Edges[3])
}

func TestAnswersShareNothing(t *testing.T) {
	text := "vertices 3\nboth 0 2 5\nedge 1 0\n"
	want := graphOf(3, [3]int64{0, 2, 5}, [3]int64{1, 0, 1}, [3]int64{2, 0, 5})
	first, _, _ := graph.Parse(text)
	second, _, _ := graph.Parse(text)
	spoil(first.Edges)
	if !equal(second, want) {
		t.Errorf("the second one is now %v", second)
	}
	mustParse(t, text, want)
	lists := [][]api.Edge{graph.Out(want, 0), graph.Out(want, 0), graph.Back(want, 2), graph.Back(want, 2), graph.Out(want, 2)}
	for i := range lists {
		spoil(lists[i])
		lists[i] = nil
		for _, other := range lists[i+1:] {
			if slices.Contains(other, api.Edge{From: -1, To: -2, Weight: -3}) {
				t.Fatal("two answers share memory")
			}
		}
	}
}

// P4.8

func TestPrintedIsParsedAsItWas(t *testing.T) {
	rnd := rand.New(rand.NewPCG(4, 8))
	graphs := []api.Graph{graphOf(1), graphOf(512), fullGraph(8191), fullGraph(8192)}
	heavy := fullGraph(8192)
	for i := range heavy.Edges {
		heavy.Edges[i].From += 496
		heavy.Edges[i].Weight = heaviest
	}
	graphs = append(graphs, heavy)
	for range 3000 {
		graphs = append(graphs, randomGraph(rnd))
	}
	for _, g := range graphs {
		text, errno := graph.Print(g)
		if errno != api.OK {
			t.Fatalf("Print(%q): %d", told(g), errno)
		}
		mustParse(t, text, g)
	}
}

func TestParsedMayBeAndIsPrintedAndParsedTheSame(t *testing.T) {
	rnd := rand.New(rand.NewPCG(4, 9))
	held := 0
	for range 10000 {
		g, _, errno := graph.Parse(randomText(rnd))
		if errno != api.OK {
			continue
		}
		held++
		mustCheck(t, "what is parsed", g, api.OK)
		text, errno := graph.Print(g)
		if errno != api.OK {
			t.Fatalf("Print(%q): %d", told(g), errno)
		}
		mustParse(t, text, g)
		again, _, _ := graph.Parse(text)
		if !graph.Same(g, again) {
			t.Fatalf("%q and %q are not the same", told(g), told(again))
		}
		mustPrint(t, again, text)
	}
	if held < 2000 {
		t.Errorf("only %d texts", held)
	}
}

func TestEachEdgeIsFromItsFromAndToItsTo(t *testing.T) {
	rnd := rand.New(rand.NewPCG(4, 10))
	for range 500 {
		g := randomGraph(rnd)
		var out, back []api.Edge
		for v := range g.Vertices {
			for _, e := range graph.Out(g, v) {
				if e.From != v {
					t.Fatalf("%v is not from %d", e, v)
				}
				out = append(out, e)
			}
			for _, e := range graph.Back(g, v) {
				if e.To != v {
					t.Fatalf("%v is not to %d", e, v)
				}
				back = append(back, e)
			}
		}
		mustBeEdges(t, "all from", out, g.Edges...)
		mustBeEdges(t, "all to", plainSorted(back), g.Edges...)
	}
}

func TestTurnedTwiceIsAsItWas(t *testing.T) {
	rnd := rand.New(rand.NewPCG(4, 11))
	graphs := []api.Graph{graphOf(1), graphOf(512), fullGraph(8192)}
	for range 2000 {
		graphs = append(graphs, randomGraph(rnd))
	}
	for _, g := range graphs {
		once, errno := graph.Turn(g)
		if errno != api.OK {
			t.Fatalf("Turn(%q): %d", told(g), errno)
		}
		mustCheck(t, "what is turned", once, api.OK)
		twice, errno := graph.Turn(once)
		if errno != api.OK || !equal(twice, g) {
			t.Fatalf("turned twice %q is %q, %d", told(g), told(twice), errno)
		}
	}
}
