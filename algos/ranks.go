package algos

import (
	"treadwheel/api"
	"treadwheel/fixed"
	"treadwheel/rank"
)

// ranks is the program of Rank. All of its vertices send in each step, for
// what they have next is made of what they are sent, not of what they had.
type ranks struct{ job api.Job }

func (r ranks) mayBe(vertices int) bool {
	return isFraction(r.job.Damp) && isFraction(r.job.Eps) && r.job.Source == 0
}

func (r ranks) start(vertices, v int) (int64, bool) { return rank.Start(vertices), true }

func (r ranks) compute(vertices int, value int64, mail api.Mail, sum int64) (int64, bool) {
	next := rank.Take(vertices, r.job.Damp, sentTo(mail), sum)
	return next, next != value
}

func (r ranks) send(v int, value int64, changed bool, out, back []api.Edge) []api.Message {
	var l []api.Message
	for _, e := range out {
		l = append(l, api.Message{To: e.To, Value: rank.Give(value, len(out))})
	}
	return l
}

func (r ranks) combine(a, b int64) int64 { return fixed.Add(a, b) }

func (r ranks) change(was, value int64, changed bool) int64 { return fixed.Apart(was, value) }

func (r ranks) joinChanges(a, b int64) int64 { return max(a, b) }

func (r ranks) still() int64 { return r.job.Eps }

func (r ranks) lost(value int64, out []api.Edge) int64 {
	if len(out) > 0 {
		return 0
	}
	return max(value, 0)
}

// isFraction: is a fixed number from nought to one?
func isFraction(a int64) bool { return a >= 0 && a <= api.One }

// sentTo tells the mail as a number from 0 on.
func sentTo(mail api.Mail) int64 {
	if !mail.Has {
		return 0
	}
	return max(mail.Value, 0)
}
