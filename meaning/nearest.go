package meaning

import (
	"container/heap"

	"treadwheel/api"
	"treadwheel/graph"
	"treadwheel/paths"
)

// found is a way from the source to a vertex: how far it leads.
type found struct {
	vertex int
	far    int64
}

// nearest is a heap of ways that are to be gone on from, the least one first.
type nearest []found

// Len tells how many there are.
func (n nearest) Len() int { return len(n) }

// Less tells whether one is gone on from ahead of another one.
func (n nearest) Less(i, k int) bool { return n[i].far < n[k].far }

// Swap changes two of them for one another.
func (n nearest) Swap(i, k int) { n[i], n[k] = n[k], n[i] }

// Push puts a way behind the others.
func (n *nearest) Push(way any) { *n = append(*n, way.(found)) }

// Pop takes the last one away.
func (n *nearest) Pop() any {
	last := len(*n) - 1
	way := (*n)[last]
	*n = (*n)[:last]
	return way
}

// distances tells them of a graph that may be, and a source that is a vertex.
func distances(g api.Graph, source int) []int64 {
	far := make([]int64, 0, g.Vertices)
	for v := range g.Vertices {
		far = append(far, paths.Start(v, source))
	}
	waiting := &nearest{{vertex: source, far: far[source]}}
	for waiting.Len() > 0 {
		way := heap.Pop(waiting).(found)
		// A shorter way to the vertex, found later, was gone on from already.
		if way.far > far[way.vertex] {
			continue
		}
		for _, e := range graph.Out(g, way.vertex) {
			if on := paths.Give(way.far, e); on < far[e.To] {
				far[e.To] = on
				heap.Push(waiting, found{vertex: e.To, far: on})
			}
		}
	}
	return far
}
