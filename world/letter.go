package world

import (
	"errors"
	"slices"
	"sort"

	"emender/api"
	"emender/codec"
)

const (
	toKeeper = -1 // as whatever is no client
	mostTold = 64 // entries
)

// letter is a message on its way: the bytes of a frame, and the client to which they go.
type letter struct {
	to    int
	bytes []byte
}

// send puts a message behind those on their way. If there is no room for it, it is lost, and nobody is told.
func (w *World) send(to int, m api.Msg) api.Errno {
	b, e := packed(m)
	if e != api.OK {
		return e
	}
	w.put(letter{to, b})
	return api.OK
}

// put puts a letter behind those on their way, if there is room.
func (w *World) put(one letter) bool {
	if len(w.moving) >= api.MaxNet {
		return false
	}
	w.moving = append(w.moving, one)
	return true
}

func (w *World) takeOut(i int) letter {
	one := w.moving[i]
	w.moving = slices.Delete(w.moving, i, i+1)
	return one
}

// deliverAll delivers what is on its way, and what that brings about.
func (w *World) deliverAll() {
	for len(w.moving) > 0 {
		w.deliver(w.takeOut(0))
	}
}

// deliver lets the one to whom a letter goes do what its message asks; what is none for that one does nothing.
func (w *World) deliver(one letter) {
	m, ok := unpacked(one.bytes)
	if !ok || w.Client(m.Who) == nil {
		return
	}
	c := w.Client(one.to)
	switch {
	case c == nil:
		w.reachKeeper(m)
	case m.K == api.MTold && m.Who == one.to:
		c.Take(m.Version, m.L)
	}
}

func (w *World) reachKeeper(m api.Msg) {
	switch m.K {
	case api.MSubmit:
		w.keeper.Submit(m.Who, m.Version, m.L)
	case api.MAsk:
		if l, e := w.keeper.Since(m.Version); e == api.OK {
			w.tell(m.Who, m.Version, l)
		}
	}
}

// tell sends a client the first of the entries that the log has from a version on. Where one frame has no room for as many as may be told at once, fewer are told: if none were, the client could never go on.
func (w *World) tell(who int, version int, l []api.Entry) {
	told := func(n int) api.Msg {
		return api.Msg{K: api.MTold, Who: who, Version: version, L: l[:n]}
	}
	n := sort.Search(min(len(l), mostTold), func(n int) bool {
		_, e := packed(told(n + 1))
		return errors.Is(e, api.ErrLong)
	})
	w.send(who, told(n))
}

// packed answers the bytes of a message.
func packed(m api.Msg) ([]byte, api.Errno) {
	b, e := codec.PutMsg(m)
	if e != api.OK {
		return nil, e
	}
	return codec.Wrap(b)
}

// unpacked answers the message whose bytes b are, if they are just one frame of one.
func unpacked(b []byte) (api.Msg, bool) {
	inner, end, e := codec.Open(b, 0)
	if e != api.OK || end < len(b) {
		return api.Msg{}, false
	}
	m, e := codec.GetMsg(inner)
	return m, e == api.OK
}
