package states_test

import (
	"bytes"
	"math"
	"math/rand/v2"
	"slices"
	"strconv"
	"testing"

	"treadwheel/api"
	"treadwheel/inbox"
	"treadwheel/parts"
	"treadwheel/seq"
	"treadwheel/states"
)

const (
	inf      int64 = 4611686018427387904
	greatest int64 = math.MaxInt64
	least    int64 = math.MinInt64
)

// distances are values that may be, noDistances others.
var (
	distances   = []int64{0, 1, 2, 255, 256, 4294967296, inf - 1, inf}
	noDistances = []int64{least, least + 1, -inf - 1, -inf, -256, -1, inf + 1, greatest - 1, greatest}
)

// steps are numbers that a Step may be, noSteps others.
var (
	steps   = []int{0, 1, 255, 256, 1999, 2000}
	noSteps = []int{math.MinInt, math.MinInt + 1, -1 << 32, -2000, -1, 2001, 65536, 1<<31 + 3, 1 << 32, 1<<32 + 3, math.MaxInt - 1, math.MaxInt}
)

// noCounts are counts of workers that there may not be.
var noCounts = []int{math.MinInt, -64, -2, -1, 0, 65, 66, 128, 512, 1 << 32, 1<<32 + 2, math.MaxInt}

func sent(value int64) api.Mail { return api.Mail{Has: true, Value: value} }

// none is no mail: whatever stands in it, nothing was sent.
func none(value int64) api.Mail { return api.Mail{Value: value} }

// with tells a part with one more vertex, behind the others.
func with(p states.Part, v int, value int64, changed bool, mail api.Mail) states.Part {
	p = copied(p)
	p.Own, p.Values, p.Changed, p.Inbox = append(p.Own, v), append(p.Values, value), append(p.Changed, changed), append(p.Inbox, mail)
	return p
}

// copied tells a part that shares nothing with one.
func copied(p states.Part) states.Part {
	p.Own, p.Values, p.Changed, p.Inbox = slices.Clone(p.Own), slices.Clone(p.Values), slices.Clone(p.Changed), slices.Clone(p.Inbox)
	return p
}

func copiedState(s api.State) api.State {
	s.Values, s.Changed, s.Inbox = slices.Clone(s.Values), slices.Clone(s.Changed), slices.Clone(s.Inbox)
	return s
}

func copiedList(l []states.Part) []states.Part {
	var list []states.Part
	for _, p := range l {
		list = append(list, copied(p))
	}
	return list
}

// changed tells a part, and what was done to a copy of it.
func changed(p states.Part, change func(*states.Part)) states.Part {
	p = copied(p)
	change(&p)
	return p
}

// quiet tells a row of mail in which nothing stands that was not sent.
func quiet(mail []api.Mail) []api.Mail {
	var l []api.Mail
	for _, m := range mail {
		if !m.Has {
			m = api.Mail{}
		}
		l = append(l, m)
	}
	return l
}

// noisy tells a row of mail in which something stands that was not sent.
func noisy(mail []api.Mail) []api.Mail {
	var l []api.Mail
	for i, m := range mail {
		if !m.Has {
			m.Value = noDistances[i%len(noDistances)]
		}
		l = append(l, m)
	}
	return l
}

// exact: are two parts the same to the last number?
func exact(a, b states.Part) bool {
	return a.Step == b.Step && slices.Equal(a.Own, b.Own) && slices.Equal(a.Values, b.Values) &&
		slices.Equal(a.Changed, b.Changed) && slices.Equal(a.Inbox, b.Inbox)
}

func exactState(a, b api.State) bool {
	return a.Step == b.Step && a.Sum == b.Sum && a.Most == b.Most && slices.Equal(a.Values, b.Values) &&
		slices.Equal(a.Changed, b.Changed) && slices.Equal(a.Inbox, b.Inbox)
}

// of tells a part of these vertices, with some of all in it.
func of(step int, own ...int) states.Part {
	p := states.Part{Step: step}
	for i, v := range own {
		mail := sent(int64(v) + 1<<40)
		if i%3 == 1 {
			mail = none(0)
		}
		p = with(p, v, int64(v)*257+5, i%2 == 0, mail)
	}
	return p
}

// stateOf tells a state of so many vertices, with some of all in it.
func stateOf(step, vertices int) api.State {
	var own []int
	for v := range vertices {
		own = append(own, v)
	}
	p := of(step, own...)
	return api.State{Step: step, Values: p.Values, Changed: p.Changed, Inbox: p.Inbox, Sum: 7, Most: 9}
}

func drawnMail(rnd *rand.Rand) api.Mail {
	if rnd.IntN(2) == 0 {
		return none(0)
	}
	return sent(drawnValue(rnd))
}

func drawnValue(rnd *rand.Rand) int64 {
	if rnd.IntN(3) == 0 {
		return distances[rnd.IntN(len(distances))]
	}
	return rnd.Int64N(inf + 1)
}

func drawnStep(rnd *rand.Rand) int {
	if rnd.IntN(2) == 0 {
		return steps[rnd.IntN(len(steps))]
	}
	return rnd.IntN(2001)
}

// drawnPart is a part of any vertices up to so many that is right.
func drawnPart(rnd *rand.Rand, most int) states.Part {
	p := states.Part{Step: drawnStep(rnd)}
	own := rnd.Perm(512)[:rnd.IntN(most+1)]
	slices.Sort(own)
	for _, v := range own {
		p = with(p, v, drawnValue(rnd), rnd.IntN(2) == 0, drawnMail(rnd))
	}
	return p
}

// drawnState is a state of so many vertices that may be.
func drawnState(rnd *rand.Rand, vertices int) api.State {
	s := api.State{Step: drawnStep(rnd), Sum: drawnValue(rnd), Most: drawnValue(rnd)}
	for range vertices {
		s.Values = append(s.Values, drawnValue(rnd))
		s.Changed = append(s.Changed, rnd.IntN(2) == 0)
		s.Inbox = append(s.Inbox, drawnMail(rnd))
	}
	return s
}

// ranStates are those of jobs on a graph, as they ran.
func ranStates(t *testing.T) []api.State {
	t.Helper()
	g := api.Graph{Vertices: 9, Edges: []api.Edge{
		{From: 0, To: 1, Weight: 4}, {From: 0, To: 2, Weight: 1}, {From: 2, To: 1, Weight: 2}, {From: 4, To: 3, Weight: 9}, {From: 5, To: 8, Weight: 1}, {From: 7, To: 5, Weight: 3},
	}}
	var l []api.State
	for _, j := range []api.Job{{Kind: api.Rank, Steps: 9, Damp: api.One / 2}, {Kind: api.Label, Steps: 9}, {Kind: api.Paths, Steps: 9}} {
		for k := range 4 {
			s, errno := seq.At(g, j, k)
			if errno != api.OK {
				t.Fatalf("At %d of %+v: error %d", k, j, errno)
			}
			l = append(l, s)
		}
	}
	return l
}

// rightParts are parts that are right, by what they are like.
func rightParts() map[string]states.Part {
	var all []int
	for v := range 512 {
		all = append(all, v)
	}
	full := of(2000, all...)
	l := map[string]states.Part{
		"nothing":             {},
		"empty rows":          {Step: 1, Own: []int{}, Values: []int64{}, Changed: []bool{}, Inbox: []api.Mail{}},
		"some empty rows":     {Step: 1, Own: []int{}, Changed: []bool{}},
		"one vertex":          of(7, 0),
		"the last vertex":     of(7, 511),
		"the first and last":  of(7, 0, 511),
		"two, one the next":   of(7, 255, 256),
		"some":                of(3, 1, 2, 40, 255, 257, 510),
		"512 vertices":        full,
		"512, mail all":       changed(full, func(p *states.Part) { fill(p.Inbox, sent(inf)); fill(p.Values, inf); fill(p.Changed, true) }),
		"512, nothing of all": changed(full, func(p *states.Part) { clear(p.Inbox); clear(p.Values); clear(p.Changed) }),
		"noisy":               changed(full, func(p *states.Part) { p.Inbox = noisy(p.Inbox) }),
	}
	for _, step := range steps {
		l["Step "+strconv.Itoa(step)] = of(step, 1, 2, 3)
		l["no vertices, Step "+strconv.Itoa(step)] = of(step)
	}
	for _, value := range distances {
		name := strconv.FormatInt(value, 10)
		l["a value of "+name] = changed(of(3, 4, 5, 6), func(p *states.Part) { p.Values[1] = value })
		l["mail of "+name] = changed(of(3, 4, 5, 6), func(p *states.Part) { p.Inbox[2] = sent(value) })
	}
	for _, value := range append(slices.Clone(distances), noDistances...) {
		l["no mail of "+strconv.FormatInt(value, 10)] = changed(of(3, 4, 5, 6), func(p *states.Part) { p.Inbox[1] = none(value) })
	}
	return l
}

func fill[T any](l []T, by T) {
	for i := range l {
		l[i] = by
	}
}

// wrongParts are parts that are not right, by what is wrong.
func wrongParts() map[string]states.Part {
	l := map[string]states.Part{}
	for name, change := range map[string]func(*states.Part){
		"a vertex twice":         func(p *states.Part) { p.Own[2] = p.Own[1] },
		"the first vertex twice": func(p *states.Part) { p.Own[1] = p.Own[0] },
		"a vertex twice, far":    func(p *states.Part) { p.Own[2] = p.Own[0] },
		"falling":                func(p *states.Part) { slices.Reverse(p.Own) },
		"two the wrong way":      func(p *states.Part) { p.Own[1], p.Own[2] = p.Own[2], p.Own[1] },
		"the first vertex -1":    func(p *states.Part) { p.Own[0] = -1 },
		"the first the least":    func(p *states.Part) { p.Own[0] = math.MinInt },
		"all below 0":            func(p *states.Part) { copy(p.Own, []int{-3, -2, -1}) },
		"the last vertex 512":    func(p *states.Part) { p.Own[2] = 512 },
		"the last 65536":         func(p *states.Part) { p.Own[2] = 65536 },
		"the last the greatest":  func(p *states.Part) { p.Own[2] = math.MaxInt },
		"one vertex fewer":       func(p *states.Part) { p.Own = p.Own[:2] },
		"one vertex more":        func(p *states.Part) { p.Own = append(p.Own, 100) },
		"no vertices but rows":   func(p *states.Part) { p.Own = nil },
		"one value fewer":        func(p *states.Part) { p.Values = p.Values[:2] },
		"one value more":         func(p *states.Part) { p.Values = append(p.Values, 0) },
		"no values":              func(p *states.Part) { p.Values = nil },
		"one Changed fewer":      func(p *states.Part) { p.Changed = p.Changed[:2] },
		"one Changed more":       func(p *states.Part) { p.Changed = append(p.Changed, false) },
		"no Changed":             func(p *states.Part) { p.Changed = []bool{} },
		"one mail fewer":         func(p *states.Part) { p.Inbox = p.Inbox[:2] },
		"one mail more":          func(p *states.Part) { p.Inbox = append(p.Inbox, none(0)) },
		"no mail":                func(p *states.Part) { p.Inbox = nil },
	} {
		l[name] = changed(of(3, 4, 5, 6), change)
	}
	for _, step := range noSteps {
		l["Step "+strconv.Itoa(step)] = of(step, 1, 2, 3)
		l["no vertices, Step "+strconv.Itoa(step)] = of(step)
	}
	for _, value := range noDistances {
		for i := range 3 {
			name := strconv.FormatInt(value, 10) + " at " + strconv.Itoa(i)
			l["a value of "+name] = changed(of(3, 4, 5, 6), func(p *states.Part) { p.Values[i] = value })
			l["mail of "+name] = changed(of(3, 4, 5, 6), func(p *states.Part) { p.Inbox[i] = sent(value) })
		}
	}
	l["no vertices, one value"] = states.Part{Values: []int64{0}}
	l["no vertices, one Changed"] = states.Part{Changed: []bool{false}}
	l["no vertices, one mail"] = states.Part{Inbox: []api.Mail{{}}}
	long := states.Part{}
	for v := range 513 {
		long = with(long, v, 0, false, none(0))
	}
	l["513 vertices"] = long
	return l
}

func mustBeRight(t *testing.T, name string, p states.Part, want bool) {
	t.Helper()
	if got := states.Right(p); got != want || got != plainRight(p) {
		t.Errorf("Right of %s: %v", name, got)
	}
}

func mustPut(t *testing.T, name string, p states.Part, want []byte) {
	t.Helper()
	if got, errno := states.Put(p); errno != api.OK || !bytes.Equal(got, want) {
		t.Errorf("Put of %s: %v %d, not %v", name, got, errno, want)
	}
}

func mustGet(t *testing.T, b []byte, want states.Part) {
	t.Helper()
	if got, errno := states.Get(b); errno != api.OK || !exact(got, want) {
		t.Errorf("Get of %v: %+v %d, not %+v", b, got, errno, want)
	}
}

func mustNotGet(t *testing.T, what string, b []byte) {
	t.Helper()
	if got, errno := states.Get(b); errno != api.ErrStates || !exact(got, states.Part{}) {
		t.Errorf("Get of %s, %v: %+v %d", what, b, got, errno)
	}
}

func mustTake(t *testing.T, s api.State, workers, w int, want states.Part) {
	t.Helper()
	if got, errno := states.Take(s, workers, w); errno != api.OK || !exact(got, want) {
		t.Errorf("Take of %+v, %d %d: %+v %d, not %+v", s, workers, w, got, errno, want)
	}
}

func mustNotTake(t *testing.T, what string, s api.State, workers, w int, want api.Errno) {
	t.Helper()
	if got, errno := states.Take(s, workers, w); errno != want || !exact(got, states.Part{}) {
		t.Errorf("Take of %s, %d %d: %+v %d, not %d", what, workers, w, got, errno, want)
	}
}

func mustJoin(t *testing.T, l []states.Part, want api.State) {
	t.Helper()
	if got, errno := states.Join(l); errno != api.OK || !exactState(got, want) {
		t.Errorf("Join of %+v: %+v %d, not %+v", l, got, errno, want)
	}
}

func mustNotJoin(t *testing.T, what string, l []states.Part) {
	t.Helper()
	if got, errno := states.Join(l); errno != api.ErrState || !exactState(got, api.State{}) {
		t.Errorf("Join of %s, %+v: %+v %d", what, l, got, errno)
	}
}

func mustBeSame(t *testing.T, what string, a, b states.Part, want bool) {
	t.Helper()
	if got := states.Same(a, b); got != want {
		t.Errorf("Same of %s, %+v, %+v: %v", what, a, b, got)
	}
	if got := states.Same(b, a); got != want {
		t.Errorf("Same of %s, the other way, %+v, %+v: %v", what, b, a, got)
	}
}

// P14.1

func TestRightOfPartsThatAre(t *testing.T) {
	for name, p := range rightParts() {
		mustBeRight(t, name, p, true)
	}
}

func TestRightOfPartsThatAreNot(t *testing.T) {
	for name, p := range wrongParts() {
		mustBeRight(t, name, p, false)
	}
}

func TestRightOfVerticesAtTheEnds(t *testing.T) {
	for v, want := range map[int]bool{-1: false, 0: true, 511: true, 512: false, math.MinInt: false, math.MaxInt: false, 1 << 32: false} {
		mustBeRight(t, "one vertex", with(states.Part{}, v, 0, false, none(0)), want)
	}
	// Of two vertices only 0 and 1, or any that rise.
	for a := -2; a < 4; a++ {
		for b := -2; b < 4; b++ {
			mustBeRight(t, "two vertices", of(3, a, b), a >= 0 && a < b)
		}
		mustBeRight(t, "two great vertices", of(3, 510+a, 511), a >= -2 && a < 1)
		mustBeRight(t, "and one more", of(3, 0, 509, 510+a), a >= 0 && a < 2)
	}
}

func TestRightOfDrawnParts(t *testing.T) {
	rnd := rand.New(rand.NewPCG(14, 1))
	for range 500 {
		p := drawnPart(rnd, 9)
		mustBeRight(t, "a drawn part", p, true)
		if len(p.Own) == 0 {
			continue
		}
		i := rnd.IntN(len(p.Own))
		p.Own[i] = rnd.IntN(520) - 4
		if rnd.IntN(2) == 0 {
			p.Inbox[i] = api.Mail{Has: rnd.IntN(2) == 0, Value: int64(rnd.Uint64())}
		}
		mustBeRight(t, "a spoilt part", p, plainRight(p))
	}
}

// P14.2

func TestPutOfTheExamples(t *testing.T) {
	mustPut(t, "no vertices", states.Part{Step: 3}, []byte{0, 0, 0, 3, 0, 0})
	p := with(states.Part{}, 1, 5, true, none(0))
	mustPut(t, "the vertex 1", p, []byte{0, 0, 0, 0, 0, 1, 0, 1, 0, 0, 0, 0, 0, 0, 0, 5, 1})
	p.Inbox[0] = sent(9)
	mustPut(t, "the vertex 1, with mail", p, []byte{0, 0, 0, 0, 0, 1, 0, 1, 0, 0, 0, 0, 0, 0, 0, 5, 3, 0, 0, 0, 0, 0, 0, 0, 9})
}

func TestPutByHand(t *testing.T) {
	p := with(states.Part{Step: 2000}, 1, 0, false, none(0))
	p = with(p, 256, 0x0102030405060708, false, sent(0x1112131415161718))
	p = with(p, 511, inf, true, sent(inf))
	mustPut(t, "three vertices", p, []byte{
		0, 0, 7, 208, 0, 3,
		0, 1, 0, 0, 0, 0, 0, 0, 0, 0, 0,
		1, 0, 1, 2, 3, 4, 5, 6, 7, 8, 2, 0x11, 0x12, 0x13, 0x14, 0x15, 0x16, 0x17, 0x18,
		1, 255, 64, 0, 0, 0, 0, 0, 0, 0, 3, 64, 0, 0, 0, 0, 0, 0, 0,
	})
}

func TestPutOfPartsThatAreRight(t *testing.T) {
	for name, p := range rightParts() {
		mustPut(t, name, p, plainBytes(p))
	}
	rnd := rand.New(rand.NewPCG(14, 2))
	for range 300 {
		p := drawnPart(rnd, 20)
		mustPut(t, "a drawn part", p, plainBytes(p))
	}
}

func TestPutOfPartsThatAreNotRight(t *testing.T) {
	for name, p := range wrongParts() {
		if got, errno := states.Put(p); errno != api.ErrState || len(got) != 0 {
			t.Errorf("Put of %s: %v %d", name, got, errno)
		}
	}
}

func TestPutShowsNothingOfMailWithoutHas(t *testing.T) {
	for _, value := range append(slices.Clone(distances), noDistances...) {
		for _, isChanged := range []bool{false, true} {
			p := with(states.Part{Step: 1}, 300, 5, isChanged, none(value))
			mustPut(t, "no mail", p, plainBytes(with(states.Part{Step: 1}, 300, 5, isChanged, none(0))))
		}
	}
}

// P14.3

func TestGetOfTheExamples(t *testing.T) {
	mustGet(t, []byte{0, 0, 0, 3, 0, 0}, states.Part{Step: 3})
	mustGet(t, []byte{0, 0, 0, 0, 0, 1, 0, 1, 0, 0, 0, 0, 0, 0, 0, 5, 1}, with(states.Part{}, 1, 5, true, none(0)))
	mustGet(t, []byte{0, 0, 0, 0, 0, 1, 0, 1, 0, 0, 0, 0, 0, 0, 0, 5, 3, 0, 0, 0, 0, 0, 0, 0, 9}, with(states.Part{}, 1, 5, true, sent(9)))
}

func TestGetOfPartsThatAreRight(t *testing.T) {
	for _, p := range rightParts() {
		b := plainBytes(p)
		p.Inbox = quiet(p.Inbox)
		mustGet(t, b, p)
	}
}

func TestGetOfNoBytes(t *testing.T) {
	mustNotGet(t, "nil", nil)
	mustNotGet(t, "no bytes", []byte{})
	for k := range 40 {
		mustNotGet(t, "bytes of 255", bytes.Repeat([]byte{255}, k))
		if k != 6 {
			mustNotGet(t, "bytes of 0", make([]byte, k))
		}
	}
}

func TestGetOfBeginnings(t *testing.T) {
	for name, p := range rightParts() {
		b := plainBytes(p)
		for k := range b {
			mustNotGet(t, "a beginning of "+name, b[:k:k])
			// What lies behind the length is not there.
			if k%7 == 0 {
				mustNotGet(t, "a beginning of "+name, b[:k])
			}
		}
	}
}

func TestGetOfOneByteMore(t *testing.T) {
	for name, p := range rightParts() {
		for _, more := range []byte{0, 1, 255} {
			mustNotGet(t, "more than "+name, append(plainBytes(p), more))
		}
		mustNotGet(t, "twice "+name, append(plainBytes(p), plainBytes(p)...))
	}
}

func TestGetOfUnlikeCounts(t *testing.T) {
	b := plainBytes(of(3, 4, 5, 6))
	for _, count := range []int64{0, 1, 2, 4, 5, 255, 256, 259, 512, 513, 32768, 65535} {
		mustNotGet(t, "another count", slices.Replace(slices.Clone(b), 4, 6, digits(count, 2)...))
	}
	mustNotGet(t, "a vertex, none said", slices.Replace(plainBytes(of(3, 4)), 4, 6, 0, 0))
	mustNotGet(t, "no vertex, one said", []byte{0, 0, 0, 3, 0, 1})
	mustNotGet(t, "no vertex, 65535 said", []byte{0, 0, 0, 3, 255, 255})
	many := states.Part{}
	for v := range 600 {
		many = with(many, v, 0, false, none(0))
	}
	mustNotGet(t, "600 vertices", plainBytes(many))
	fill(many.Own, 7)
	mustNotGet(t, "600 times a vertex", plainBytes(many))
}

func TestGetOfVerticesThatMayNotBe(t *testing.T) {
	for _, v := range []int{512, 513, 767, 1024, 32768, 33000, 65535} {
		mustNotGet(t, "one vertex", plainBytes(of(3, v)))
		mustNotGet(t, "the last vertex", plainBytes(of(3, 0, 1, v)))
	}
	for _, own := range [][]int{{0, 0}, {1, 1}, {511, 511}, {1, 0}, {511, 0}, {4, 5, 5}, {4, 4, 5}, {4, 6, 5}, {6, 5, 4}, {4, 5, 4}, {512, 0}, {256, 1}} {
		mustNotGet(t, "vertices that do not rise", plainBytes(of(3, own...)))
	}
}

func TestGetOfStepsThatMayNotBe(t *testing.T) {
	for _, step := range []int{2001, 2002, 2048, 65535, 65536, 1 << 24, math.MaxInt32, 1 << 31, 1<<31 + 3, math.MaxUint32 - 3, math.MaxUint32} {
		mustNotGet(t, "no vertices", plainBytes(of(step)))
		mustNotGet(t, "two vertices", plainBytes(of(step, 4, 5)))
	}
}

func TestGetOfNumbersThatMayNotBe(t *testing.T) {
	b := plainBytes(of(3, 4, 5, 6))
	// Values stand at 8, 27 and 38, mail at 17 and 47.
	for _, place := range []int{8, 27, 38, 17, 47} {
		put := func(n []byte) []byte { return slices.Replace(slices.Clone(b), place, place+8, n...) }
		for _, n := range distances {
			want, _ := plainPart(put(digits(n, 8)))
			mustGet(t, put(digits(n, 8)), want)
		}
		mustNotGet(t, "one above Inf", put(digits(inf+1, 8)))
		mustNotGet(t, "the greatest below the first bit", put(digits(greatest, 8)))
		for _, first := range []byte{65, 96, 127, 128, 129, 192, 255} {
			mustNotGet(t, "above Inf", put([]byte{first, 0, 0, 0, 0, 0, 0, 0}))
			mustNotGet(t, "above Inf", put([]byte{first, 0, 0, 0, 0, 0, 0, 5}))
		}
		mustNotGet(t, "all bits set", put(bytes.Repeat([]byte{255}, 8)))
	}
}

func TestGetOfBytesOfWhatHasChanged(t *testing.T) {
	without := plainBytes(with(states.Part{}, 1, 5, false, none(0)))
	mail := digits(9, 8)
	for n := range 256 {
		b := slices.Clone(without)
		b[16] = byte(n)
		b2 := append(slices.Clone(b), mail...)
		if n < 2 {
			mustGet(t, b, with(states.Part{}, 1, 5, n == 1, none(0)))
			mustNotGet(t, "mail where the byte says none", b2)
			continue
		}
		mustNotGet(t, "no mail where the byte says some, or more", b)
		if n < 4 {
			mustGet(t, b2, with(states.Part{}, 1, 5, n == 3, sent(9)))
			continue
		}
		mustNotGet(t, "a byte of 4 and more", b2)
	}
}

func TestGetOfMailWhereTheByteSaysNone(t *testing.T) {
	// The vertex behind is then read out of the mail, and out of its own bytes.
	b := plainBytes(of(3, 4, 5, 6))
	for _, n := range []byte{0, 1} {
		c := slices.Clone(b)
		c[16] = n
		mustNotGet(t, "mail", c)
	}
}

func TestGetOfAnyByteChanged(t *testing.T) {
	for _, p := range []states.Part{{Step: 3}, of(0, 1), of(7, 4, 5, 6), of(2000, 0, 256, 300, 511)} {
		b := plainBytes(p)
		for i := range b {
			for n := range 256 {
				c := slices.Clone(b)
				c[i] = byte(n)
				if want, is := plainPart(c); is {
					mustGet(t, c, want)
				} else {
					mustNotGet(t, "a byte changed", c)
				}
			}
			mustGetAsPlain(t, slices.Delete(slices.Clone(b), i, i+1))
			mustGetAsPlain(t, slices.Insert(slices.Clone(b), i, 0))
		}
	}
}

func mustGetAsPlain(t *testing.T, b []byte) {
	t.Helper()
	if want, is := plainPart(b); is {
		mustGet(t, b, want)
	} else {
		mustNotGet(t, "other bytes", b)
	}
}

func TestGetOfDrawnBytes(t *testing.T) {
	rnd := rand.New(rand.NewPCG(14, 3))
	for range 3000 {
		b := plainBytes(drawnPart(rnd, 6))
		for range rnd.IntN(3) {
			b[rnd.IntN(len(b))] = byte(rnd.IntN(5))
		}
		mustGetAsPlain(t, b)
		b = make([]byte, rnd.IntN(60))
		for i := range b {
			b[i] = byte(rnd.IntN(4) * rnd.IntN(2))
		}
		mustGetAsPlain(t, b)
	}
}

// P14.4

func TestTakeByHand(t *testing.T) {
	s := api.State{
		Step: 4, Values: []int64{10, 11, 12, 13, 14, 15}, Changed: []bool{true, false, true, true, false, false},
		Inbox: []api.Mail{sent(1), sent(2), none(0), sent(0), none(0), sent(inf)}, Sum: 5, Most: 6,
	}
	// Chapter 6: of 6 vertices the worker 0 of 2 has 0 2 4 5.
	mustTake(t, s, 2, 0, states.Part{
		Step: 4, Own: []int{0, 2, 4, 5}, Values: []int64{10, 12, 14, 15}, Changed: []bool{true, true, false, false},
		Inbox: []api.Mail{sent(1), none(0), none(0), sent(inf)},
	})
	mustTake(t, s, 2, 1, states.Part{Step: 4, Own: []int{1, 3}, Values: []int64{11, 13}, Changed: []bool{false, true}, Inbox: []api.Mail{sent(2), sent(0)}})
	mustTake(t, s, 1, 0, states.Part{Step: 4, Own: []int{0, 1, 2, 3, 4, 5}, Values: s.Values, Changed: s.Changed, Inbox: s.Inbox})
}

func TestTakeOfWorkers(t *testing.T) {
	for _, s := range []api.State{stateOf(3, 1), stateOf(0, 6), stateOf(2000, 512)} {
		for _, workers := range []int{1, 2, 3, 63, 64} {
			for w := range workers {
				mustTake(t, s, workers, w, plainTake(s, workers, w))
			}
			for _, w := range []int{math.MinInt, -64, -1, workers, workers + 1, 64, 65, 1 << 32, math.MaxInt} {
				if w < 0 || w >= workers {
					mustNotTake(t, "a state", s, workers, w, api.ErrArg)
				}
			}
		}
		for _, workers := range noCounts {
			for _, w := range []int{math.MinInt, -1, 0, 1, workers - 1, workers, math.MaxInt} {
				mustNotTake(t, "a state", s, workers, w, api.ErrArg)
			}
		}
	}
}

func TestTakeOfFewerVerticesThanWorkers(t *testing.T) {
	empty := 0
	for _, vertices := range []int{1, 2, 5, 63} {
		for w := range 64 {
			s := stateOf(9, vertices)
			want := plainTake(s, 64, w)
			if len(want.Own) == 0 {
				empty++
				want = states.Part{Step: 9}
			}
			mustTake(t, s, 64, w, want)
		}
	}
	if empty == 0 {
		t.Error("no part is empty")
	}
}

// wrongStates are states of which there are no parts, by what is wrong.
func wrongStates() map[string]api.State {
	l := map[string]api.State{
		"nothing":       {},
		"no vertices":   {Step: 3, Values: []int64{}, Changed: []bool{}, Inbox: []api.Mail{}, Sum: 1, Most: 1},
		"no values":     {Changed: []bool{true}, Inbox: []api.Mail{{}}},
		"513 vertices":  stateOf(3, 513),
		"1024 vertices": stateOf(3, 1024),
	}
	for name, p := range wrongParts() {
		// What is wrong with its vertices alone does not show in a state.
		s := api.State{Step: p.Step, Values: p.Values, Changed: p.Changed, Inbox: p.Inbox}
		if !plainMayBe(s) {
			l[name] = s
		}
	}
	return l
}

func TestTakeOfStatesThatMayNotBe(t *testing.T) {
	for name, s := range wrongStates() {
		for _, workers := range []int{1, 2, 5, 64} {
			for w := range workers {
				mustNotTake(t, name, s, workers, w, api.ErrState)
			}
		}
	}
}

func TestTakeOfStatesAtTheEnds(t *testing.T) {
	for _, step := range steps {
		mustTake(t, stateOf(step, 3), 2, 1, plainTake(stateOf(step, 3), 2, 1))
	}
	for _, value := range distances {
		for v := range 3 {
			s := stateOf(3, 3)
			s.Values[v], s.Inbox[v] = value, sent(value)
			mustTake(t, s, 2, 0, plainTake(s, 2, 0))
			mustTake(t, s, 2, 1, plainTake(s, 2, 1))
		}
	}
}

// What is wrong counts wherever it stands, at another worker's vertex too.
func TestTakeOfWhatIsWrongAnywhere(t *testing.T) {
	for v := range 6 {
		for w := range 2 {
			s := stateOf(3, 6)
			s.Values[v] = -1
			mustNotTake(t, "a value below 0", s, 2, w, api.ErrState)
			s = stateOf(3, 6)
			s.Inbox[v] = sent(inf + 1)
			mustNotTake(t, "mail above Inf", s, 2, w, api.ErrState)
		}
	}
}

func TestTakeDoesNotGoBySumAndMost(t *testing.T) {
	for _, n := range append(slices.Clone(distances), noDistances...) {
		s := stateOf(3, 6)
		s.Sum, s.Most = n, -n
		mustTake(t, s, 2, 0, plainTake(stateOf(3, 6), 2, 0))
	}
}

func TestTakeOfMailWithoutHas(t *testing.T) {
	for _, vertices := range []int{1, 6, 512} {
		s := stateOf(3, vertices)
		s.Inbox = noisy(s.Inbox)
		for w := range 3 {
			mustTake(t, s, 3, w, plainTake(stateOf(3, vertices), 3, w))
		}
	}
}

func TestTakeErrorsInTheirOrder(t *testing.T) {
	for name, s := range wrongStates() {
		for _, workers := range noCounts {
			mustNotTake(t, name, s, workers, 0, api.ErrArg)
		}
		for _, w := range []int{math.MinInt, -1, 3, 4, math.MaxInt} {
			mustNotTake(t, name, s, 3, w, api.ErrArg)
		}
	}
}

func TestTakeOfDrawnStates(t *testing.T) {
	rnd := rand.New(rand.NewPCG(14, 4))
	for range 200 {
		s := drawnState(rnd, 1+rnd.IntN(40))
		workers := 1 + rnd.IntN(64)
		for w := range workers {
			mustTake(t, s, workers, w, plainTake(s, workers, w))
			if p, _ := states.Take(s, workers, w); !slices.Equal(p.Own, parts.Owned(len(s.Values), workers, w)) {
				t.Errorf("%d vertices, %d %d: %v", len(s.Values), workers, w, p.Own)
			}
		}
	}
}

// P14.5

// joined tells a state as Join does: without Sum and Most.
func joined(s api.State) api.State {
	s.Sum, s.Most = 0, 0
	return s
}

func TestJoinOfAllWorkers(t *testing.T) {
	rnd := rand.New(rand.NewPCG(14, 5))
	for workers := 1; workers <= 64; workers++ {
		for _, vertices := range []int{1, 2, 1 + rnd.IntN(70), 1 + rnd.IntN(512), 512} {
			s := drawnState(rnd, vertices)
			mustJoin(t, plainParts(s, workers), joined(s))
		}
	}
}

func TestJoinOfNoPartsAndOfTooMany(t *testing.T) {
	mustNotJoin(t, "nil", nil)
	mustNotJoin(t, "no parts", []states.Part{})
	for _, vertices := range []int{1, 6, 512} {
		for _, workers := range []int{65, 66, 128} {
			mustNotJoin(t, "too many", plainParts(stateOf(3, vertices), workers))
			mustNotJoin(t, "empty ones", append(plainParts(stateOf(3, vertices), 64), make([]states.Part, workers-64)...))
		}
	}
	mustNotJoin(t, "65 without vertices", make([]states.Part, 65))
}

func TestJoinOfAnotherOrder(t *testing.T) {
	for workers := 2; workers < 9; workers++ {
		for i := range workers {
			for k := range i {
				l := plainParts(stateOf(3, 100), workers)
				l[i], l[k] = l[k], l[i]
				mustNotJoin(t, "another order", l)
			}
		}
	}
}

func TestJoinOfOneTwiceOrLeftOut(t *testing.T) {
	for _, vertices := range []int{1, 4, 100} {
		for _, workers := range []int{1, 2, 3, 64} {
			s := stateOf(3, vertices)
			for i := range workers {
				l := plainParts(s, workers)
				mustJoinAsPlain(t, slices.Insert(copiedList(l), i, copied(l[i])))
				mustJoinAsPlain(t, slices.Delete(copiedList(l), i, i+1))
				other := copiedList(l)
				other[i] = copied(l[(i+1)%workers])
				mustJoinAsPlain(t, other)
				other[i] = states.Part{Step: 3}
				mustJoinAsPlain(t, other)
			}
		}
	}
	l := plainParts(stateOf(3, 100), 3)
	mustNotJoin(t, "one twice", append(copiedList(l), l[2]))
	mustNotJoin(t, "one for another", []states.Part{l[0], l[1], l[1]})
	mustNotJoin(t, "one left out", l[:2])
	mustNotJoin(t, "one left out", l[1:])
	mustNotJoin(t, "one empty", []states.Part{l[0], l[1], {Step: 3}})
}

func mustJoinAsPlain(t *testing.T, l []states.Part) {
	t.Helper()
	if want, is := plainJoin(l); is {
		want.Inbox = quiet(want.Inbox)
		mustJoin(t, l, want)
	} else {
		mustNotJoin(t, "other parts", l)
	}
}

func TestJoinOfPartsOfAnotherNumberOfWorkers(t *testing.T) {
	for workers := 1; workers < 9; workers++ {
		for others := 1; others < 9; others++ {
			l := plainParts(stateOf(3, 100), workers)
			for w := range min(workers, others) {
				if workers != others {
					l[w] = plainTake(stateOf(3, 100), others, w)
				}
			}
			if workers != others {
				mustNotJoin(t, "parts of another number", l)
			}
		}
	}
	l := plainParts(stateOf(3, 100), 4)
	l[1] = plainTake(stateOf(3, 100), 5, 1)
	mustNotJoin(t, "one of another number", l)
}

func TestJoinOfPartsOfUnlikeSteps(t *testing.T) {
	for _, workers := range []int{2, 3, 64} {
		for w := range workers {
			for _, step := range []int{0, 2, 4, 2000, 2001, -1} {
				l := plainParts(stateOf(3, 5), workers)
				l[w].Step = step
				mustNotJoin(t, "unlike Steps", l)
			}
		}
	}
}

func TestJoinOfAPartThatIsNotRight(t *testing.T) {
	for name, p := range wrongParts() {
		mustNotJoin(t, name, []states.Part{p})
		for w := range 2 {
			l := plainParts(stateOf(3, 6), 2)
			l[w] = p
			mustNotJoin(t, name, l)
		}
	}
	for name, s := range wrongStates() {
		if len(s.Values) == len(s.Changed) && len(s.Values) == len(s.Inbox) {
			for _, workers := range []int{1, 2, 64} {
				mustNotJoin(t, "the parts of "+name, plainParts(s, workers))
			}
		}
	}
}

func TestJoinOfAPartWithOneThingMoreOrLess(t *testing.T) {
	for w := range 3 {
		for name, change := range map[string]func(*states.Part){
			"a vertex more":   func(p *states.Part) { *p = with(*p, 500, 1, false, none(0)) },
			"the next vertex": func(p *states.Part) { *p = with(*p, 30, 1, false, none(0)) },
			"a vertex less": func(p *states.Part) {
				p.Own, p.Values, p.Changed, p.Inbox = p.Own[1:], p.Values[1:], p.Changed[1:], p.Inbox[1:]
			},
			"another vertex": func(p *states.Part) { p.Own[len(p.Own)-1] = 511 },
			"a value less":   func(p *states.Part) { p.Values = p.Values[1:] },
			"a value more":   func(p *states.Part) { p.Values = append(p.Values, 0) },
			"a Changed less": func(p *states.Part) { p.Changed = p.Changed[1:] },
			"a Changed more": func(p *states.Part) { p.Changed = append(p.Changed, false) },
			"a mail less":    func(p *states.Part) { p.Inbox = p.Inbox[1:] },
			"a mail more":    func(p *states.Part) { p.Inbox = append(p.Inbox, none(0)) },
			"a vertex of another one": func(p *states.Part) {
				v := (p.Own[len(p.Own)-1] + 1) % 30
				*p = with(*p, v, 1, false, none(0))
			},
		} {
			l := plainParts(stateOf(3, 30), 3)
			l[w] = changed(l[w], change)
			if want, is := plainJoin(l); !is {
				mustNotJoin(t, name, l)
			} else if plainWorker(30, 3) != w || name != "the next vertex" {
				t.Errorf("%s at %d: joined to %+v", name, w, want)
			}
		}
	}
}

func TestJoinOfPartsWithoutVertices(t *testing.T) {
	for workers := 1; workers <= 64; workers++ {
		mustNotJoin(t, "no vertices", make([]states.Part, workers))
		var l []states.Part
		for range workers {
			l = append(l, states.Part{Step: 3, Own: []int{}, Values: []int64{}, Changed: []bool{}, Inbox: []api.Mail{}})
		}
		mustNotJoin(t, "empty rows", l)
	}
}

func TestJoinOfMailWithoutHas(t *testing.T) {
	for _, workers := range []int{1, 2, 3, 64} {
		l := plainParts(stateOf(3, 100), workers)
		for w := range l {
			l[w].Inbox = noisy(l[w].Inbox)
		}
		mustJoin(t, l, joined(stateOf(3, 100)))
	}
}

func TestJoinTellsNoSumAndNoMost(t *testing.T) {
	for _, s := range ranStates(t) {
		if got, errno := states.Join(plainParts(s, 3)); errno != api.OK || got.Sum != 0 || got.Most != 0 {
			t.Errorf("%+v %d", got, errno)
		}
	}
}

func TestJoinOfDrawnLists(t *testing.T) {
	rnd := rand.New(rand.NewPCG(14, 6))
	for range 2000 {
		l := plainParts(drawnState(rnd, 1+rnd.IntN(6)), 1+rnd.IntN(3))
		p := &l[rnd.IntN(len(l))]
		switch rnd.IntN(6) {
		case 0:
			p.Step = drawnStep(rnd)
		case 1:
			*p = with(*p, rnd.IntN(8), drawnValue(rnd), true, drawnMail(rnd))
		case 2:
			l = append(l, states.Part{Step: p.Step})
		case 3:
			l[0], *p = *p, l[0]
		case 4:
			if len(p.Own) > 0 {
				p.Own[rnd.IntN(len(p.Own))] = rnd.IntN(7)
			}
		}
		mustJoinAsPlain(t, l)
	}
}

// P14.6

func TestSameOfTheSame(t *testing.T) {
	for name, p := range rightParts() {
		mustBeSame(t, name, p, copied(p), true)
	}
	// Parts that are not right, too, go by what they have.
	for name, p := range wrongParts() {
		mustBeSame(t, name, p, copied(p), true)
		mustBeSame(t, name, p, of(3, 4, 5, 6), false)
	}
}

func TestSameOfOneThingElse(t *testing.T) {
	for name, change := range map[string]func(*states.Part){
		"Step":                 func(p *states.Part) { p.Step++ },
		"Step below 0":         func(p *states.Part) { p.Step = -3 },
		"the first vertex":     func(p *states.Part) { p.Own[0]-- },
		"the last vertex":      func(p *states.Part) { p.Own[2]++ },
		"the first value":      func(p *states.Part) { p.Values[0]++ },
		"the last value":       func(p *states.Part) { p.Values[2]-- },
		"a value below 0":      func(p *states.Part) { p.Values[1] = -p.Values[1] },
		"the first Changed":    func(p *states.Part) { p.Changed[0] = false },
		"a Changed":            func(p *states.Part) { p.Changed[1] = true },
		"the last Changed":     func(p *states.Part) { p.Changed[2] = false },
		"the first mail":       func(p *states.Part) { p.Inbox[0].Value++ },
		"the last mail":        func(p *states.Part) { p.Inbox[2].Value-- },
		"mail that was none":   func(p *states.Part) { p.Inbox[1].Has = true },
		"no mail":              func(p *states.Part) { p.Inbox[0].Has = false },
		"nothing of mail":      func(p *states.Part) { p.Inbox[2] = none(0) },
		"Own shorter":          func(p *states.Part) { p.Own = p.Own[:2] },
		"Values shorter":       func(p *states.Part) { p.Values = p.Values[:2] },
		"Changed shorter":      func(p *states.Part) { p.Changed = p.Changed[:2] },
		"Inbox shorter":        func(p *states.Part) { p.Inbox = p.Inbox[:2] },
		"Own longer":           func(p *states.Part) { p.Own = append(p.Own, 7) },
		"Values longer":        func(p *states.Part) { p.Values = append(p.Values, 0) },
		"Changed longer":       func(p *states.Part) { p.Changed = append(p.Changed, false) },
		"Inbox longer":         func(p *states.Part) { p.Inbox = append(p.Inbox, none(0)) },
		"Own nil":              func(p *states.Part) { p.Own = nil },
		"Values nil":           func(p *states.Part) { p.Values = nil },
		"Changed nil":          func(p *states.Part) { p.Changed = nil },
		"Inbox nil":            func(p *states.Part) { p.Inbox = nil },
		"all but Step nothing": func(p *states.Part) { *p = states.Part{Step: p.Step} },
	} {
		p := of(3, 4, 5, 6)
		mustBeSame(t, name, p, changed(p, change), false)
	}
}

func TestSameOfMailWithoutHas(t *testing.T) {
	p := of(3, 4, 5, 6)
	for _, value := range append(slices.Clone(distances), noDistances...) {
		other := changed(p, func(p *states.Part) { p.Inbox[1] = none(value) })
		mustBeSame(t, "no mail", p, other, true)
		mustBeSame(t, "mail and none", changed(other, func(p *states.Part) { p.Inbox[1].Has = true }), other, false)
	}
}

func TestSameOfNilAndEmptyRows(t *testing.T) {
	empty := states.Part{Own: []int{}, Values: []int64{}, Changed: []bool{}, Inbox: []api.Mail{}}
	mustBeSame(t, "nil and empty rows", states.Part{}, empty, true)
	mustBeSame(t, "some of each", states.Part{Own: []int{}, Changed: []bool{}}, states.Part{Values: []int64{}, Inbox: []api.Mail{}}, true)
	empty.Step = 1
	mustBeSame(t, "unlike Steps", states.Part{}, empty, false)
	mustBeSame(t, "a vertex", states.Part{Step: 1, Own: []int{0}}, empty, false)
}

func TestSameAsInboxHasIt(t *testing.T) {
	rnd := rand.New(rand.NewPCG(14, 7))
	for range 500 {
		a, b := states.Part{}, states.Part{}
		for range rnd.IntN(4) {
			a.Inbox = append(a.Inbox, api.Mail{Has: rnd.IntN(2) == 0, Value: rnd.Int64N(2)})
		}
		for range rnd.IntN(4) {
			b.Inbox = append(b.Inbox, api.Mail{Has: rnd.IntN(2) == 0, Value: rnd.Int64N(2)})
		}
		mustBeSame(t, "mail", a, b, inbox.Same(a.Inbox, b.Inbox))
	}
}

// P14.7

// roomy tells a part with memory behind its rows.
func roomy(p states.Part) states.Part {
	p.Own, p.Values = withSpare(p.Own, 99), withSpare(p.Values, 99)
	p.Changed, p.Inbox = withSpare(p.Changed, true), withSpare(p.Inbox, sent(99))
	return p
}

func roomyState(s api.State) api.State {
	s.Values, s.Changed, s.Inbox = withSpare(s.Values, 99), withSpare(s.Changed, true), withSpare(s.Inbox, sent(99))
	return s
}

// withSpare tells a list with memory behind it.
func withSpare[T any](l []T, behind T) []T {
	return append(slices.Clone(l), behind, behind, behind)[:len(l)]
}

// whole tells all memory of a list, what lies behind it included.
func whole[T any](l []T) []T { return l[:cap(l)] }

// wholePart tells a copy of all of a part's memory.
func wholePart(p states.Part) states.Part {
	p.Own, p.Values, p.Changed, p.Inbox = whole(p.Own), whole(p.Values), whole(p.Changed), whole(p.Inbox)
	return copied(p)
}

func wholeState(s api.State) api.State {
	s.Values, s.Changed, s.Inbox = whole(s.Values), whole(s.Changed), whole(s.Inbox)
	return copiedState(s)
}

// spoil overwrites all of a part's memory.
func spoil(p states.Part) {
	fill(whole(p.Own), 77)
	fill(whole(p.Values), 77)
	fill(whole(p.Inbox), sent(77))
	spoilChanged(p.Changed)
}

func spoilState(s api.State) {
	fill(whole(s.Values), 77)
	fill(whole(s.Inbox), sent(77))
	spoilChanged(s.Changed)
}

func spoilChanged(l []bool) {
	for i, is := range whole(l) {
		whole(l)[i] = !is
	}
}

func TestPutOnlyReadsAndAnswersNewMemory(t *testing.T) {
	rnd := rand.New(rand.NewPCG(14, 8))
	for range 100 {
		p := roomy(drawnPart(rnd, 8))
		p.Inbox = withSpare(noisy(p.Inbox), none(5))
		was := wholePart(p)
		want := plainBytes(p)
		first, _ := states.Put(p)
		second, _ := states.Put(p)
		fill(whole(first), 0xAA)
		spoiltFirst := slices.Clone(whole(first))
		mustPut(t, "a part, once more", p, want)
		if !exact(wholePart(p), was) {
			t.Errorf("Put changed %+v to %+v", was, wholePart(p))
		}
		spoil(p)
		if !bytes.Equal(second, want) || !bytes.Equal(whole(first), spoiltFirst) {
			t.Errorf("%v became %v", want, second)
		}
	}
}

func TestGetOnlyReadsAndAnswersNewMemory(t *testing.T) {
	rnd := rand.New(rand.NewPCG(14, 9))
	for range 100 {
		want := drawnPart(rnd, 8)
		b := withSpare(plainBytes(want), 0xAA)
		was := slices.Clone(whole(b))
		first, _ := states.Get(b)
		second, _ := states.Get(b)
		spoil(first)
		mustGet(t, b, want)
		if !bytes.Equal(whole(b), was) {
			t.Errorf("Get changed %v to %v", was, whole(b))
		}
		fill(whole(b), 0x55)
		if !exact(second, want) {
			t.Errorf("%+v became %+v", want, second)
		}
	}
}

func TestTakeOnlyReadsAndAnswersNewMemory(t *testing.T) {
	rnd := rand.New(rand.NewPCG(14, 10))
	for range 100 {
		drawn := drawnState(rnd, 1+rnd.IntN(8))
		for workers := range 4 {
			s := roomyState(drawn)
			was := wholeState(s)
			// The one worker of all has all: it must be copied, too.
			first, errno := states.Take(s, workers, 0)
			second, _ := states.Take(s, workers, 0)
			if errno != api.OK {
				mustNotTake(t, "no workers", s, workers, 0, api.ErrArg)
				continue
			}
			want := plainTake(drawn, workers, 0)
			spoil(first)
			mustTake(t, s, workers, 0, want)
			if !exactState(wholeState(s), was) {
				t.Errorf("Take changed %+v to %+v", was, wholeState(s))
			}
			spoilState(s)
			if !exact(second, want) {
				t.Errorf("%+v became %+v", want, second)
			}
		}
	}
}

func TestJoinOnlyReadsAndAnswersNewMemory(t *testing.T) {
	rnd := rand.New(rand.NewPCG(14, 11))
	for range 100 {
		drawn := drawnState(rnd, 1+rnd.IntN(8))
		for workers := 1; workers < 5; workers++ {
			var l, was []states.Part
			for _, p := range plainParts(drawn, workers) {
				p = roomy(p)
				l, was = append(l, p), append(was, wholePart(p))
			}
			l = withSpare(l, of(3, 7))
			first, _ := states.Join(l)
			second, _ := states.Join(l)
			spoilState(first)
			mustJoin(t, l, joined(drawn))
			for w := range l {
				if !exact(wholePart(l[w]), was[w]) {
					t.Errorf("Join changed %+v to %+v", was[w], wholePart(l[w]))
				}
				spoil(l[w])
			}
			if !exact(whole(l)[workers], of(3, 7)) {
				t.Errorf("Join changed what lies behind the list: %+v", whole(l)[workers])
			}
			if !exactState(second, joined(drawn)) {
				t.Errorf("%+v became %+v", drawn, second)
			}
		}
	}
}

func TestRefusalsOnlyRead(t *testing.T) {
	for name, p := range wrongParts() {
		p = roomy(p)
		was := wholePart(p)
		s := api.State{Step: p.Step, Values: p.Values, Changed: p.Changed, Inbox: p.Inbox}
		states.Put(p)
		states.Join([]states.Part{p})
		states.Join([]states.Part{of(3, 0), p})
		states.Take(s, 2, 0)
		states.Take(s, 0, 0)
		if !exact(wholePart(p), was) {
			t.Errorf("%s: %+v became %+v", name, was, wholePart(p))
		}
	}
	b := withSpare(append(plainBytes(of(3, 4, 5, 6)), 4), 9)
	was := slices.Clone(whole(b))
	mustNotGet(t, "one byte more", b)
	if !bytes.Equal(whole(b), was) {
		t.Errorf("%v became %v", was, whole(b))
	}
}

func TestRightAndSameOnlyRead(t *testing.T) {
	for name, p := range rightParts() {
		p = roomy(p)
		p.Inbox = withSpare(noisy(p.Inbox), none(5))
		other := roomy(p)
		was, otherWas := wholePart(p), wholePart(other)
		mustBeRight(t, name, p, true)
		mustBeSame(t, name, p, other, true)
		mustBeSame(t, name, p, of(1999, 3), false)
		if !exact(wholePart(p), was) || !exact(wholePart(other), otherWas) {
			t.Errorf("%s: %+v became %+v", name, was, wholePart(p))
		}
	}
}

// P14.8

func TestWhatIsPutIsGotAsItWas(t *testing.T) {
	rnd := rand.New(rand.NewPCG(14, 12))
	for range 300 {
		p := drawnPart(rnd, 20)
		b, errno := states.Put(p)
		if errno != api.OK {
			t.Fatalf("Put of %+v: error %d", p, errno)
		}
		mustGet(t, b, p)
		got, _ := states.Get(b)
		mustBeSame(t, "what was put", got, p, true)
		p.Inbox = noisy(p.Inbox)
		mustBeSame(t, "what was put, with noise", got, p, true)
		mustPut(t, "what was put, with noise", p, b)
	}
}

func TestWhatIsGotIsPutAsTheSameBytes(t *testing.T) {
	rnd := rand.New(rand.NewPCG(14, 13))
	got := 0
	for range 3000 {
		b := plainBytes(drawnPart(rnd, 3))
		for range rnd.IntN(3) {
			b[rnd.IntN(len(b))] = byte(rnd.IntN(4))
		}
		p, errno := states.Get(b)
		if errno != api.OK {
			continue
		}
		got++
		mustBeRight(t, "what was got", p, true)
		mustPut(t, "what was got", p, b)
	}
	if got < 1000 {
		t.Errorf("only %d were got", got)
	}
}

func TestNoBeginningIsAPart(t *testing.T) {
	rnd := rand.New(rand.NewPCG(14, 14))
	for range 300 {
		b, _ := states.Put(drawnPart(rnd, 8))
		for k := range b {
			mustNotGet(t, "a beginning", b[:k:k])
		}
	}
}

func TestPartsOfAStateAreIt(t *testing.T) {
	rnd := rand.New(rand.NewPCG(14, 15))
	list := ranStates(t)
	for range 60 {
		list = append(list, drawnState(rnd, 1+rnd.IntN(60)))
	}
	list = append(list, drawnState(rnd, 511), drawnState(rnd, 512))
	for _, s := range list {
		for _, workers := range []int{1, 2, 3, 1 + rnd.IntN(64), 63, 64} {
			var l []states.Part
			for w := range workers {
				p, errno := states.Take(s, workers, w)
				if errno != api.OK {
					t.Fatalf("Take of %+v, %d %d: error %d", s, workers, w, errno)
				}
				mustBeRight(t, "what was taken", p, true)
				// By way of bytes it is the same.
				b, _ := states.Put(p)
				mustGet(t, b, p)
				l = append(l, p)
			}
			mustJoin(t, l, joined(s))
			got, _ := states.Join(l)
			got.Sum, got.Most = s.Sum, s.Most
			if !seq.Same(got, s) {
				t.Errorf("%+v became %+v", s, got)
			}
		}
	}
}
