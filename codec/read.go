package codec

import (
	"bytes"

	"emender/api"
)

// sumBytes is how many bytes a frame's sum has.
const sumBytes = 4

// get answers the thing that part reads, if all bytes are its own and check takes it.
func get[T any](b []byte, check func(T) api.Errno, part func(*reader) T) (T, api.Errno) {
	var none T
	thing, next, e := read(b, 0, part)
	if e != api.OK {
		return none, e
	}
	if next < len(b) || check(thing) != api.OK {
		return none, api.ErrForm
	}
	return thing, api.OK
}

// read answers the thing that part reads from at on, and the place behind it. What refuses it is found far inside: it leaves by a panic.
func read[T any](b []byte, at int, part func(*reader) T) (thing T, next int, e api.Errno) {
	defer func() {
		if refusal := recover(); refusal != nil {
			next, e = at, refusal.(api.Errno)
		}
	}()
	r := reader{place{b, at}}
	thing = part(&r)
	return thing, r.at, api.OK
}

// reader reads one part behind the other. It looks at no more than it needs to go on: whether what comes may be is known when all has come.
type reader struct {
	place
}

// field passes a number that does not say how to read on.
func (r *reader) field() int {
	return r.number(mostNumber)
}

func (r *reader) tokens() []api.Token {
	var l []api.Token
	for range r.number(api.MaxDoc) {
		l = append(l, r.token())
	}
	return l
}

func (r *reader) token() api.Token {
	n := r.number(mostNumber)
	t := api.Token{K: n % kinds, N: n / kinds}
	switch t.K {
	case api.TRune:
		t.M = r.field()
	case api.TOpen, api.TLeaf:
		t.T = r.field()
	}
	return t
}

func (r *reader) step() api.Step {
	// A kind that is none can't wait for the check in the end: nobody knows where its step ends.
	s := api.Step{K: r.number(api.SUnmark), From: r.field(), To: r.field()}
	switch s.K {
	case api.SMark, api.SUnmark:
		s.Mark = r.field()
	case api.SAround:
		s.GapFrom, s.GapTo, s.Insert = r.field(), r.field(), r.field()
		fallthrough
	case api.SReplace:
		s.Slice = r.tokens()
	}
	return s
}

func (r *reader) entry() api.Entry {
	return api.Entry{Who: r.field(), Seq: r.field(), S: r.step()}
}

func (r *reader) message() api.Msg {
	m := api.Msg{K: r.field(), Who: r.field(), Version: r.field()}
	for range r.number(api.MaxLog) {
		m.L = append(m.L, r.entry())
	}
	return m
}

// frame answers a copy: the bytes that are read are somebody else's.
func (r *reader) frame() []byte {
	b := r.take(r.number(api.MaxFrame))
	if !bytes.Equal(r.take(sumBytes), sumOf(b)) {
		panic(api.ErrSum)
	}
	return bytes.Clone(b)
}
