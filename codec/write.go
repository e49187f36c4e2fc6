package codec

import (
	"emender/api"
	"emender/quad"
	"emender/sum"
)

// kinds is how many kinds of tokens there are: a token's kind and its N are one number.
const kinds = 4

// put answers the bytes that part writes of the thing, if check takes it.
func put[T any](thing T, check func(T) api.Errno, part func(*writer, T)) ([]byte, api.Errno) {
	if e := check(thing); e != api.OK {
		return nil, e
	}
	var w writer
	part(&w, thing)
	return quad.Put(nil, w.numbers...), api.OK
}

// writer holds the numbers of what is written. They become bytes all at once, since quad.Put copies what stands ahead.
type writer struct {
	numbers []uint64
}

// add takes numbers that a check has found not to be below 0.
func (w *writer) add(l ...int) {
	for _, n := range l {
		w.numbers = append(w.numbers, uint64(n))
	}
}

func (w *writer) tokens(l []api.Token) {
	w.add(len(l))
	for _, t := range l {
		w.token(t)
	}
}

func (w *writer) token(t api.Token) {
	w.add(t.K + kinds*t.N)
	switch t.K {
	case api.TRune:
		w.add(t.M)
	case api.TOpen, api.TLeaf:
		w.add(t.T)
	}
}

func (w *writer) step(s api.Step) {
	w.add(s.K, s.From, s.To)
	switch s.K {
	case api.SMark, api.SUnmark:
		w.add(s.Mark)
	case api.SAround:
		w.add(s.GapFrom, s.GapTo, s.Insert)
		fallthrough
	case api.SReplace:
		w.tokens(s.Slice)
	}
}

func (w *writer) entry(e api.Entry) {
	w.add(e.Who, e.Seq)
	w.step(e.S)
}

func (w *writer) message(m api.Msg) {
	w.add(m.K, m.Who, m.Version, len(m.L))
	for _, one := range m.L {
		w.entry(one)
	}
}

// sumOf answers the sum of b as it stands in a frame, the highest byte first.
func sumOf(b []byte) []byte {
	s := sum.Of(b)
	return []byte{byte(s >> 24), byte(s >> 16), byte(s >> 8), byte(s)}
}
