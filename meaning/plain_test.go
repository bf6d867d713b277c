package meaning_test

import (
	"slices"

	"treadwheel/api"
	"treadwheel/seq"
)

// What follows takes the chapters' words plainly, and asks none of the layers,
// but for what seq.Run answers, by which P13.3 itself goes.

// plainLabels holds each vertex against each other one: can one go between
// them, by way of whichever ones?
func plainLabels(g api.Graph) []int64 {
	hang := make([][]bool, g.Vertices)
	for v := range hang {
		hang[v] = make([]bool, g.Vertices)
		hang[v][v] = true
	}
	for _, e := range g.Edges {
		hang[e.From][e.To], hang[e.To][e.From] = true, true
	}
	for via := range hang {
		for v := range hang {
			for to := range hang {
				hang[v][to] = hang[v][to] || hang[v][via] && hang[via][to]
			}
		}
	}
	var labels []int64
	for v := range hang {
		labels = append(labels, int64(slices.Index(hang[v], true)))
	}
	return labels
}

// plainDistances tells the least sums between any two vertices, by way of
// whichever ones, and of these those from the source.
func plainDistances(g api.Graph, source int) []int64 {
	far := make([][]int64, g.Vertices)
	for v := range far {
		far[v] = same(g.Vertices, inf)
		far[v][v] = 0
	}
	for _, e := range g.Edges {
		far[e.From][e.To] = min(far[e.From][e.To], e.Weight)
	}
	for via := range far {
		for v := range far {
			for to := range far {
				// No path of a graph that may be comes to Inf, so this sum can't be too great.
				if far[v][via] != inf && far[via][to] != inf {
					far[v][to] = min(far[v][to], far[v][via]+far[via][to])
				}
			}
		}
	}
	return far[source]
}

// plainAt tells the values of Label and Paths behind so many steps: the least
// that comes along at most so many edges.
func plainAt(g api.Graph, j api.Job, steps int) []int64 {
	values := same(g.Vertices, inf)
	if j.Kind == api.Paths {
		values[j.Source] = 0
	} else {
		for v := range values {
			values[v] = int64(v)
		}
	}
	for range min(steps, g.Vertices) {
		next := slices.Clone(values)
		for _, e := range g.Edges {
			if j.Kind == api.Paths {
				next[e.To] = min(next[e.To], values[e.From]+e.Weight)
			} else {
				next[e.To] = min(next[e.To], values[e.From])
				next[e.From] = min(next[e.From], values[e.To])
			}
		}
		values = next
	}
	return values
}

// plainEnd tells the Labels, or the Distances from Source.
func plainEnd(g api.Graph, j api.Job) []int64 {
	if j.Kind == api.Paths {
		return plainDistances(g, j.Source)
	}
	return plainLabels(g)
}

// plainMeans is P13.3 of a graph and a job that may be.
func plainMeans(g api.Graph, j api.Job, s api.State) bool {
	if j.Kind == api.Rank {
		end, errno := seq.Run(g, j)
		return errno == api.OK && plainSame(s, end)
	}
	if len(s.Values) != g.Vertices || s.Step < 0 || s.Step > j.Steps {
		return false
	}
	if slices.Equal(s.Values, plainEnd(g, j)) {
		return true
	}
	return s.Step == j.Steps && slices.Equal(s.Values, plainAt(g, j, j.Steps))
}

// plainSame is chapter 12's Same.
func plainSame(a, b api.State) bool {
	if a.Step != b.Step || a.Sum != b.Sum || a.Most != b.Most || len(a.Inbox) != len(b.Inbox) {
		return false
	}
	for v := range a.Inbox {
		if a.Inbox[v].Has != b.Inbox[v].Has || a.Inbox[v].Has && a.Inbox[v].Value != b.Inbox[v].Value {
			return false
		}
	}
	return slices.Equal(a.Values, b.Values) && slices.Equal(a.Changed, b.Changed)
}
