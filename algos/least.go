package algos

import (
	"treadwheel/api"
	"treadwheel/fixed"
	"treadwheel/label"
	"treadwheel/paths"
)

// least is what the programs share whose vertices keep the least that they
// were sent. They are still when no vertex has changed, and only those that
// have changed send: what the others sent is known.
type least struct{}

func (least) combine(a, b int64) int64 { return min(a, b) }

func (least) change(was, value int64, changed bool) int64 {
	if changed {
		return 1
	}
	return 0
}

func (least) joinChanges(a, b int64) int64 { return fixed.Add(a, b) }

func (least) still() int64 { return 0 }

// labels is the program of Label.
type labels struct {
	least
	job api.Job
}

func (l labels) mayBe(vertices int) bool {
	return l.job.Source == 0 && l.job.Damp == 0 && l.job.Eps == 0
}

func (l labels) start(vertices, v int) (int64, bool) { return int64(v), true }

func (l labels) compute(vertices int, value int64, mail api.Mail, sum int64) (int64, bool) {
	return label.Take(value, mail)
}

func (l labels) send(v int, value int64, changed bool, out, back []api.Edge) []api.Message {
	if !changed {
		return nil
	}
	var list []api.Message
	for _, near := range label.Near(v, out, back) {
		list = append(list, api.Message{To: near, Value: value})
	}
	return list
}

// distances is the program of Paths.
type distances struct {
	least
	job api.Job
}

func (d distances) mayBe(vertices int) bool {
	return d.job.Source >= 0 && d.job.Source < vertices && d.job.Damp == 0 && d.job.Eps == 0
}

func (d distances) start(vertices, v int) (int64, bool) {
	return paths.Start(v, d.job.Source), v == d.job.Source
}

func (d distances) compute(vertices int, value int64, mail api.Mail, sum int64) (int64, bool) {
	return paths.Take(value, mail)
}

func (d distances) send(v int, value int64, changed bool, out, back []api.Edge) []api.Message {
	if !changed {
		return nil
	}
	var list []api.Message
	for _, e := range out {
		list = append(list, api.Message{To: e.To, Value: paths.Give(value, e)})
	}
	return list
}
