package seq_test

import (
	"math/big"

	"treadwheel/api"
)

// What follows takes the chapters' words plainly, edge by edge and on big
// numbers, and asks none of the layers.

// plainTogether is chapter 5's sum of two distances.
func plainTogether(a, b int64) int64 {
	sum := new(big.Int).Add(big.NewInt(counted(a)), big.NewInt(counted(b)))
	if sum.Cmp(big.NewInt(inf)) > 0 {
		return inf
	}
	return sum.Int64()
}

// counted is a number as chapter 5 counts it: a distance.
func counted(a int64) int64 {
	if a < 0 {
		return 0
	}
	if a > inf {
		return inf
	}
	return a
}

func plainApart(a, b int64) int64 {
	a, b = counted(a), counted(b)
	if a < b {
		return b - a
	}
	return a - b
}

// plainRank is what a vertex has next of Rank, as chapter 7 says it.
func plainRank(vertices int, damp, mail, sum int64) int64 {
	flow := big.NewInt(plainTogether(mail, sum/int64(vertices)))
	flow.Mul(flow, big.NewInt(damp)).Div(flow, big.NewInt(one))
	return flow.Int64() + (one-damp)/int64(vertices)
}

// plainCompute is a vertex's next value, as chapter 10 says it, of mail that may be.
func plainCompute(j api.Job, vertices int, value int64, mail api.Mail, sum int64) int64 {
	switch {
	case j.Kind == api.Rank && mail.Has:
		return plainRank(vertices, j.Damp, mail.Value, sum)
	case j.Kind == api.Rank:
		return plainRank(vertices, j.Damp, 0, sum)
	case mail.Has && mail.Value < value:
		return mail.Value
	}
	return value
}

// plainCombine is what two values sent to one vertex are together.
func plainCombine(j api.Job, a, b int64) int64 {
	if j.Kind == api.Rank {
		return plainTogether(a, b)
	}
	if a < b {
		return a
	}
	return b
}

// plainEdges are a graph's edges: the weight of each by where it leads, and how
// many lead from each vertex.
type plainEdges struct {
	weight map[[2]int]int64
	from   []int
}

func plainEdgesOf(g api.Graph) plainEdges {
	edges := plainEdges{weight: map[[2]int]int64{}, from: make([]int, g.Vertices)}
	for _, e := range g.Edges {
		edges.weight[[2]int{e.From, e.To}] = e.Weight
		edges.from[e.From]++
	}
	return edges
}

// sent is what one vertex sends another one, if anything.
func (edges plainEdges) sent(j api.Job, from, to int, value int64, changed bool) (int64, bool) {
	weight, leads := edges.weight[[2]int{from, to}]
	_, leadsBack := edges.weight[[2]int{to, from}]
	switch j.Kind {
	case api.Rank:
		if leads {
			return value / int64(edges.from[from]), true
		}
	case api.Label:
		if changed && from != to && (leads || leadsBack) {
			return value, true
		}
	case api.Paths:
		if changed && leads {
			return plainTogether(value, weight), true
		}
	}
	return 0, false
}

// mail is what all vertices send one, put together.
func (edges plainEdges) mail(j api.Job, s api.State, to int) api.Mail {
	var mail api.Mail
	for from := range s.Values {
		value, is := edges.sent(j, from, to, s.Values[from], s.Changed[from])
		if !is {
			continue
		}
		if mail.Has {
			value = plainCombine(j, mail.Value, value)
		}
		mail = api.Mail{Has: true, Value: value}
	}
	return mail
}

// plainTold puts what is told of all into a state, as chapter 12 says it.
func plainTold(g api.Graph, j api.Job, s api.State, ahead []int64) api.State {
	edges := plainEdgesOf(g)
	for v := range g.Vertices {
		s.Inbox = append(s.Inbox, edges.mail(j, s, v))
		switch {
		case j.Kind != api.Rank:
			if s.Changed[v] {
				s.Most++
			}
			continue
		case edges.from[v] == 0:
			s.Sum = plainTogether(s.Sum, s.Values[v])
		}
		if change := plainApart(ahead[v], s.Values[v]); change > s.Most {
			s.Most = change
		}
	}
	return s
}

// plainStart is P12.1 of a job that may be.
func plainStart(g api.Graph, j api.Job) api.State {
	var s api.State
	for v := range g.Vertices {
		value, changed := one/int64(g.Vertices), true
		switch {
		case j.Kind == api.Label:
			value = int64(v)
		case j.Kind == api.Paths && v == j.Source:
			value = 0
		case j.Kind == api.Paths:
			value, changed = inf, false
		}
		s.Values, s.Changed = append(s.Values, value), append(s.Changed, changed)
	}
	s = plainTold(g, j, s, s.Values)
	s.Most = 0
	return s
}

// plainStep is P12.2 of a job, and of a state, that may be.
func plainStep(g api.Graph, j api.Job, s api.State) api.State {
	on := api.State{Step: s.Step + 1}
	for v := range g.Vertices {
		value := plainCompute(j, g.Vertices, s.Values[v], s.Inbox[v], s.Sum)
		on.Values, on.Changed = append(on.Values, value), append(on.Changed, value != s.Values[v])
	}
	return plainTold(g, j, on, s.Values)
}

// plainDone is chapter 10's Done.
func plainDone(j api.Job, s api.State) bool {
	bound := int64(0)
	if j.Kind == api.Rank {
		bound = j.Eps
	}
	return s.Step >= j.Steps || s.Step >= 1 && s.Most <= bound
}

// plainMayBe is chapter 12's 'may be'.
func plainMayBe(g api.Graph, s api.State) bool {
	if s.Step < 0 || s.Step > 2000 || s.Sum < 0 || s.Sum > inf || s.Most < 0 || s.Most > inf {
		return false
	}
	if len(s.Values) != g.Vertices || len(s.Changed) != g.Vertices || len(s.Inbox) != g.Vertices {
		return false
	}
	for v := range g.Vertices {
		if s.Values[v] < 0 || s.Values[v] > inf || s.Inbox[v].Has && (s.Inbox[v].Value < 0 || s.Inbox[v].Value > inf) {
			return false
		}
	}
	return true
}
