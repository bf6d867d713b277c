package states_test

import (
	"math/big"

	"treadwheel/api"
	"treadwheel/states"
)

// What follows takes the chapters' words plainly, on big numbers where there
// are any, and asks none of the layers.

// plainRight is what chapter 14 calls right.
func plainRight(p states.Part) bool {
	if p.Step < 0 || p.Step > 2000 {
		return false
	}
	if len(p.Values) != len(p.Own) || len(p.Changed) != len(p.Own) || len(p.Inbox) != len(p.Own) {
		return false
	}
	for i, v := range p.Own {
		if v < 0 || v > 511 || i > 0 && v <= p.Own[i-1] {
			return false
		}
		if p.Values[i] < 0 || p.Values[i] > inf {
			return false
		}
		if p.Inbox[i].Has && (p.Inbox[i].Value < 0 || p.Inbox[i].Value > inf) {
			return false
		}
	}
	return true
}

// digits are a number's digits to the base 256, the highest one first.
func digits(n int64, width int) []byte {
	return big.NewInt(n).FillBytes(make([]byte, width))
}

// number is the one that has these digits to the base 256.
func number(b []byte) *big.Int { return new(big.Int).SetBytes(b) }

// plainBytes are those of a part that is right.
func plainBytes(p states.Part) []byte {
	b := append(digits(int64(p.Step), 4), digits(int64(len(p.Own)), 2)...)
	for i, v := range p.Own {
		b = append(append(b, digits(int64(v), 2)...), digits(p.Values[i], 8)...)
		switch {
		case p.Changed[i] && p.Inbox[i].Has:
			b = append(b, 3)
		case p.Inbox[i].Has:
			b = append(b, 2)
		case p.Changed[i]:
			b = append(b, 1)
		default:
			b = append(b, 0)
		}
		if p.Inbox[i].Has {
			b = append(b, digits(p.Inbox[i].Value, 8)...)
		}
	}
	return b
}

// plainPart is the part that has these bytes, if there is one.
func plainPart(b []byte) (states.Part, bool) {
	if len(b) < 6 || number(b[:4]).Cmp(big.NewInt(2000)) > 0 {
		return states.Part{}, false
	}
	p := states.Part{Step: int(number(b[:4]).Int64())}
	count := int(number(b[4:6]).Int64())
	b = b[6:]
	for range count {
		if len(b) < 11 || b[10] > 3 || b[10] > 1 && len(b) < 19 {
			return states.Part{}, false
		}
		value, ahead, mail := number(b[2:10]), 11, new(big.Int)
		if b[10] > 1 {
			mail, ahead = number(b[11:19]), 19
		}
		if value.Cmp(big.NewInt(inf)) > 0 || mail.Cmp(big.NewInt(inf)) > 0 {
			return states.Part{}, false
		}
		p = with(p, int(number(b[:2]).Int64()), value.Int64(), b[10]%2 == 1, api.Mail{Has: b[10] > 1, Value: mail.Int64()})
		b = b[ahead:]
	}
	return p, len(b) == 0 && plainRight(p)
}

// plainWorker is the worker of a vertex, as chapter 6 says it.
func plainWorker(v, workers int) int {
	n := new(big.Int).Mul(big.NewInt(2654435761), big.NewInt(int64(v)))
	modulus := big.NewInt(1 << 32)
	n.Mod(n, modulus).Mul(n, big.NewInt(int64(workers))).Div(n, modulus)
	return int(n.Int64())
}

// plainMayBe: is the part of all vertices of a state right, and is there one?
func plainMayBe(s api.State) bool {
	var own []int
	for v := range s.Values {
		own = append(own, v)
	}
	return len(own) > 0 && plainRight(states.Part{Step: s.Step, Own: own, Values: s.Values, Changed: s.Changed, Inbox: s.Inbox})
}

// plainTake is a worker's part of a state that may be.
func plainTake(s api.State, workers, w int) states.Part {
	p := states.Part{Step: s.Step}
	for v, value := range s.Values {
		if plainWorker(v, workers) == w {
			p = with(p, v, value, s.Changed[v], s.Inbox[v])
		}
	}
	return p
}

func plainParts(s api.State, workers int) []states.Part {
	var l []states.Part
	for w := range workers {
		l = append(l, plainTake(s, workers, w))
	}
	return l
}

// plainJoin looks for the state vertex by vertex.
func plainJoin(l []states.Part) (api.State, bool) {
	if len(l) < 1 || len(l) > 64 {
		return api.State{}, false
	}
	s := api.State{Step: l[0].Step}
	for v, found := 0, true; found && v < 513; v++ {
		found = false
		for _, p := range l {
			for i, u := range p.Own {
				if !found && u == v && i < len(p.Values) && i < len(p.Changed) && i < len(p.Inbox) {
					found = true
					s.Values, s.Changed, s.Inbox = append(s.Values, p.Values[i]), append(s.Changed, p.Changed[i]), append(s.Inbox, p.Inbox[i])
				}
			}
		}
	}
	if !plainMayBe(s) {
		return api.State{}, false
	}
	for w, p := range l {
		if !plainSame(plainTake(s, len(l), w), p) {
			return api.State{}, false
		}
	}
	return s, true
}

// plainSame goes over what two parts have, place by place.
func plainSame(a, b states.Part) bool {
	if a.Step != b.Step || len(a.Own) != len(b.Own) || len(a.Values) != len(b.Values) || len(a.Changed) != len(b.Changed) || len(a.Inbox) != len(b.Inbox) {
		return false
	}
	for i := range a.Own {
		if a.Own[i] != b.Own[i] {
			return false
		}
	}
	for i := range a.Values {
		if a.Values[i] != b.Values[i] {
			return false
		}
	}
	for i := range a.Changed {
		if a.Changed[i] != b.Changed[i] {
			return false
		}
	}
	return plainSameMail(a.Inbox, b.Inbox)
}

func plainSameMail(a, b []api.Mail) bool {
	for i := range a {
		if a[i].Has != b[i].Has || a[i].Has && a[i].Value != b[i].Value {
			return false
		}
	}
	return len(a) == len(b)
}
