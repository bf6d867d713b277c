package label_test

import (
	"math"
	"math/rand/v2"
	"slices"
	"testing"

	"treadwheel/api"
	"treadwheel/label"
)

const (
	greatest int64 = math.MaxInt64
	least    int64 = math.MinInt64
)

// to is an edge from one vertex to another.
func to(from, to int) api.Edge { return api.Edge{From: from, To: to, Weight: 1} }

func sent(value int64) api.Mail { return api.Mail{Has: true, Value: value} }

// none is no mail: whatever stands in it, nothing was sent.
func none(value int64) api.Mail { return api.Mail{Value: value} }

// plainNear takes the document's words one by one: again and again the least
// that is there above those that were told.
func plainNear(v int, out, back []api.Edge) []int {
	var all, near []int
	for _, e := range out {
		all = append(all, e.To)
	}
	for _, e := range back {
		all = append(all, e.From)
	}
	for {
		next, found := 0, false
		for _, n := range all {
			told := len(near) > 0 && n <= near[len(near)-1]
			if n != v && !told && (!found || n < next) {
				next, found = n, true
			}
		}
		if !found {
			return near
		}
		near = append(near, next)
	}
}

// plainMarks takes the document's words one by one.
func plainMarks(values []int64) (int, bool) {
	own := 0
	for v, l := range values {
		isNumber := false
		for w := range values {
			if int64(w) == l {
				isNumber = true
			}
		}
		if !isNumber {
			return 0, false
		}
		if l > int64(v) {
			return 0, false
		}
		if values[l] != l {
			return 0, false
		}
		if l == int64(v) {
			own++
		}
	}
	return own, true
}

func mustNear(t *testing.T, v int, out, back []api.Edge, want ...int) {
	t.Helper()
	if got := label.Near(v, out, back); !slices.Equal(got, want) {
		t.Errorf("Near(%d, %v, %v): %v, not %v", v, out, back, got, want)
	}
}

func mustTake(t *testing.T, value int64, mail api.Mail, want int64, wantOther bool) {
	t.Helper()
	if got, other := label.Take(value, mail); got != want || other != wantOther {
		t.Errorf("Take(%d, %v): %d %v, not %d %v", value, mail, got, other, want, wantOther)
	}
}

func mustMarks(t *testing.T, want int, wantIs bool, values ...int64) {
	t.Helper()
	if got, is := label.Marks(values); got != want || is != wantIs {
		t.Errorf("Marks(%v): %d %v, not %d %v", values, got, is, want, wantIs)
	}
}

// P8.1

func TestNearOfTheExample(t *testing.T) {
	mustNear(t, 1, []api.Edge{to(1, 3), to(1, 1)}, []api.Edge{to(0, 1), to(3, 1)}, 0, 3)
}

func TestNearWithoutEdges(t *testing.T) {
	for _, v := range []int{math.MinInt, -1, 0, 1, 511, math.MaxInt} {
		mustNear(t, v, nil, nil)
		mustNear(t, v, []api.Edge{}, []api.Edge{})
	}
}

func TestNearOfEdgesOneWay(t *testing.T) {
	mustNear(t, 2, []api.Edge{to(2, 0), to(2, 5)}, nil, 0, 5)
	mustNear(t, 2, nil, []api.Edge{to(0, 2), to(5, 2)}, 0, 5)
}

func TestNearOfEdgesBothWays(t *testing.T) {
	mustNear(t, 2, []api.Edge{to(2, 0), to(2, 5)}, []api.Edge{to(1, 2), to(4, 2), to(7, 2)}, 0, 1, 4, 5, 7)
}

func TestNearLeavesTheVertexItselfOut(t *testing.T) {
	mustNear(t, 0, []api.Edge{to(0, 0)}, nil)
	mustNear(t, 0, nil, []api.Edge{to(0, 0)})
	mustNear(t, 4, []api.Edge{to(4, 4)}, []api.Edge{to(4, 4)})
	mustNear(t, 4, []api.Edge{to(4, 3), to(4, 4), to(4, 5)}, []api.Edge{to(2, 4), to(4, 4), to(6, 4)}, 2, 3, 5, 6)
}

func TestNearTellsEachOnce(t *testing.T) {
	mustNear(t, 1, []api.Edge{to(1, 3), to(1, 3)}, nil, 3)
	mustNear(t, 1, nil, []api.Edge{to(3, 1), to(3, 1)}, 3)
	mustNear(t, 1, []api.Edge{to(1, 3)}, []api.Edge{to(3, 1)}, 3)
	mustNear(t, 1, []api.Edge{to(1, 0), to(1, 2), to(1, 3)}, []api.Edge{to(0, 1), to(2, 1), to(4, 1)}, 0, 2, 3, 4)
}

func TestNearDoesNotGoByWeights(t *testing.T) {
	out := []api.Edge{{From: 1, To: 3, Weight: 0}, {From: 1, To: 3, Weight: greatest}, {From: 1, To: 0, Weight: least}}
	mustNear(t, 1, out, nil, 0, 3)
}

func TestNearPutsInOrder(t *testing.T) {
	mustNear(t, 9, []api.Edge{to(9, 5), to(9, 3), to(9, 1)}, []api.Edge{to(6, 9), to(4, 9), to(0, 9)}, 0, 1, 3, 4, 5, 6)
	mustNear(t, 9, []api.Edge{to(9, 0), to(9, 1), to(9, 2)}, []api.Edge{to(3, 9), to(4, 9), to(5, 9)}, 0, 1, 2, 3, 4, 5)
	mustNear(t, 9, []api.Edge{to(9, 5), to(9, 3), to(9, 5), to(9, 3)}, nil, 3, 5)
}

func TestNearOfManyEdges(t *testing.T) {
	const many = 512
	var same, others []api.Edge
	var want []int
	for i := range many {
		same = append(same, to(100, i%3))
		others = append(others, to(100, many-1-i))
		if i != 100 {
			want = append(want, i)
		}
	}
	mustNear(t, 100, same, nil, 0, 1, 2)
	mustNear(t, 100, others, nil, want...)
	mustNear(t, 100, others, same, append([]int{}, want...)...)
}

func TestNearOfNumbersAtTheBounds(t *testing.T) {
	mustNear(t, 0, []api.Edge{to(0, math.MaxInt), to(0, math.MinInt)}, []api.Edge{to(-1, 0), to(1, 0)}, math.MinInt, -1, 1, math.MaxInt)
	mustNear(t, math.MaxInt, []api.Edge{to(0, math.MaxInt), to(0, math.MaxInt-1)}, nil, math.MaxInt-1)
	mustNear(t, math.MinInt, []api.Edge{to(0, math.MinInt), to(0, math.MinInt+1)}, nil, math.MinInt+1)
	mustNear(t, -1, []api.Edge{to(-1, -2), to(-1, -1)}, []api.Edge{to(-3, -1)}, -3, -2)
}

// Of out the promise asks for To alone, of back for From alone.
func TestNearOfEdgesThatAreNotTheVertexs(t *testing.T) {
	mustNear(t, 1, []api.Edge{to(5, 6), to(1, 2), to(8, 1)}, nil, 2, 6)
	mustNear(t, 1, nil, []api.Edge{to(5, 6), to(2, 1), to(1, 8)}, 2, 5)
	mustNear(t, 1, []api.Edge{to(5, 6)}, []api.Edge{to(7, 9)}, 6, 7)
}

func TestNearOfSomeEdges(t *testing.T) {
	rnd := rand.New(rand.NewPCG(8, 1))
	for range 3000 {
		reach := 1 + rnd.IntN(60)
		out, back := someEdges(rnd, reach), someEdges(rnd, reach)
		v := rnd.IntN(reach)
		mustNear(t, v, out, back, plainNear(v, out, back)...)
	}
}

func someEdges(rnd *rand.Rand, reach int) []api.Edge {
	var some []api.Edge
	for range rnd.IntN(50) {
		some = append(some, api.Edge{From: rnd.IntN(reach), To: rnd.IntN(reach), Weight: rnd.Int64N(9)})
	}
	return some
}

// P8.2

// values are labels that may be, and others.
var values = []int64{least, least + 1, -2, -1, 0, 1, 2, 3, 511, 512, 1 << 31, 1 << 62, greatest - 1, greatest}

func TestTakeOfTheExamples(t *testing.T) {
	mustTake(t, 5, sent(3), 3, true)
	mustTake(t, 5, sent(7), 5, false)
	mustTake(t, 5, api.Mail{}, 5, false)
}

func TestTakeOfTheSame(t *testing.T) {
	for _, v := range values {
		mustTake(t, v, sent(v), v, false)
	}
}

func TestTakeWithoutMailWhateverStandsInIt(t *testing.T) {
	for _, v := range values {
		for _, m := range values {
			mustTake(t, v, none(m), v, false)
		}
	}
}

func TestTakeOfEachWithEach(t *testing.T) {
	for i, v := range values {
		for k, m := range values { // values rise
			if k < i {
				mustTake(t, v, sent(m), m, true)
			} else {
				mustTake(t, v, sent(m), v, false)
			}
		}
	}
}

// P8.3

func TestMarksOfTheExamples(t *testing.T) {
	mustMarks(t, 2, true, 0, 0, 2, 0)
	mustMarks(t, 0, false, 1, 1)
}

func TestMarksOfNoLabels(t *testing.T) {
	mustMarks(t, 0, true)
	mustMarks(t, 0, true, []int64{}...)
}

func TestMarksOfOneVertex(t *testing.T) {
	mustMarks(t, 1, true, 0)
	for _, l := range values {
		if l != 0 {
			mustMarks(t, 0, false, l)
		}
	}
}

func TestMarksOfOnePart(t *testing.T) {
	for n := 1; n <= 512; n++ {
		mustMarks(t, 1, true, make([]int64, n)...)
	}
}

func TestMarksOfPartsOfTheirOwn(t *testing.T) {
	var own []int64
	for n := range 600 {
		mustMarks(t, n, true, own...)
		own = append(own, int64(n))
	}
}

func TestMarksOfLabelsThatAreNoVertexs(t *testing.T) {
	for _, l := range []int64{-1, -2, least, least + 1, 4, 5, 1 << 32, 1<<32 + 1, greatest - 1, greatest} {
		for place := range 4 {
			row := []int64{0, 0, 2, 0}
			row[place] = l
			mustMarks(t, 0, false, row...)
		}
	}
}

func TestMarksOfLabelsAboveTheVertex(t *testing.T) {
	mustMarks(t, 0, false, 0, 2, 2)
	mustMarks(t, 0, false, 2, 1, 2)
	mustMarks(t, 0, false, 1, 0)
	mustMarks(t, 0, false, 0, 1, 3, 3)
}

func TestMarksOfLabelsOfVerticesThatHaveAnother(t *testing.T) {
	mustMarks(t, 0, false, 0, 0, 1)
	mustMarks(t, 0, false, 0, 1, 1, 2)
	mustMarks(t, 0, false, 0, 0, 1, 2, 3)
	mustMarks(t, 2, true, 0, 1, 1, 1, 0)
}

func TestMarksOfAllShortRows(t *testing.T) {
	for length := range 6 {
		row := make([]int64, length)
		for i := range row {
			row[i] = -1
		}
		for more := true; more; more = nextRow(row) {
			want, is := plainMarks(row)
			mustMarks(t, want, is, row...)
		}
	}
}

// nextRow goes on to the next row of labels from -1 to the row's length, if
// there is one.
func nextRow(row []int64) bool {
	for i := range row {
		if row[i] < int64(len(row)) {
			row[i]++
			return true
		}
		row[i] = -1
	}
	return false
}

func TestMarksOfSomeLabels(t *testing.T) {
	rnd := rand.New(rand.NewPCG(8, 3))
	for range 3000 {
		row := make([]int64, rnd.IntN(40))
		for v := range row {
			row[v] = int64(v)
			if rnd.IntN(2) == 0 {
				row[v] = row[rnd.IntN(v+1)]
			}
		}
		if len(row) > 0 && rnd.IntN(2) == 0 {
			row[rnd.IntN(len(row))] = int64(rnd.IntN(len(row)+2)) - 1
		}
		want, is := plainMarks(row)
		mustMarks(t, want, is, row...)
	}
}

// P8.4

// spared are edges with a few more behind the list's length.
func spared(edges ...api.Edge) []api.Edge {
	room := append(slices.Clone(edges), to(91, 92), to(93, 94), to(95, 96))
	return room[:len(edges)]
}

func TestNearOnlyReads(t *testing.T) {
	out, back := spared(to(1, 3), to(1, 1), to(1, 0), to(1, 3)), spared(to(4, 1), to(3, 1), to(1, 1))
	outWas, backWas := slices.Clone(out[:cap(out)]), slices.Clone(back[:cap(back)])
	mustNear(t, 1, out, back, 0, 3, 4)
	if !slices.Equal(out[:cap(out)], outWas) || !slices.Equal(back[:cap(back)], backWas) {
		t.Errorf("Near changed what was handed in: %v, %v", out[:cap(out)], back[:cap(back)])
	}
}

func TestNearsAnswerIsNewMemory(t *testing.T) {
	out, back := spared(to(1, 3), to(1, 0)), spared(to(4, 1), to(3, 1))
	outWas, backWas := slices.Clone(out[:cap(out)]), slices.Clone(back[:cap(back)])
	first, second := label.Near(1, out, back), label.Near(1, out, back)
	for i := range first[:cap(first)] {
		first[:cap(first)][i] = 77
	}
	if !slices.Equal(second, []int{0, 3, 4}) {
		t.Errorf("a change of one answer changes another: %v", second)
	}
	if !slices.Equal(out[:cap(out)], outWas) || !slices.Equal(back[:cap(back)], backWas) {
		t.Errorf("a change of the answer changes what was handed in: %v, %v", out, back)
	}
	mustNear(t, 1, out, back, 0, 3, 4)
}

func TestMarksOnlyReads(t *testing.T) {
	for _, row := range [][]int64{{0, 0, 2, 0, 7, 8, 9}, {1, 1, 0, -1, 7, 8, 9}, {0, 0, 1, 5, 4, 3, 2}} {
		was := slices.Clone(row)
		label.Marks(row[:4])
		if !slices.Equal(row, was) {
			t.Errorf("Marks changed what was handed in: %v, not %v", row, was)
		}
	}
}

// P8.5

func TestTakeIsNotAboveTheValue(t *testing.T) {
	for _, v := range values {
		for _, m := range values {
			if got, _ := label.Take(v, sent(m)); got > v || got > m {
				t.Errorf("Take(%d, %d): %d", v, m, got)
			}
		}
	}
}

func TestTakenAgainItChangesNothing(t *testing.T) {
	for _, v := range values {
		for _, m := range values {
			for _, mail := range []api.Mail{sent(m), none(m)} {
				once, _ := label.Take(v, mail)
				mustTake(t, once, mail, once, false)
			}
		}
	}
}

func TestTakenInEitherOrderItIsTheSame(t *testing.T) {
	for _, v := range values {
		for _, a := range values {
			for _, b := range values {
				for _, two := range [][2]api.Mail{{sent(a), sent(b)}, {sent(a), none(b)}} {
					if x, y := taken(v, two[0], two[1]), taken(v, two[1], two[0]); x != y {
						t.Errorf("%d, then %v and %v: %d or %d", v, two[0], two[1], x, y)
					}
				}
			}
		}
	}
}

func taken(value int64, mails ...api.Mail) int64 {
	for _, mail := range mails {
		value, _ = label.Take(value, mail)
	}
	return value
}
