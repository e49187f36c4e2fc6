package world

import (
	"emender/api"
	"emender/client"
	"emender/edit"
	"emender/schema"
)

// byClient does an act of the client A.
func (w *World) byClient(a api.Act) api.Errno {
	c := w.Client(a.A)
	if c == nil {
		return api.ErrArg
	}
	m := api.Msg{K: api.MAsk, Who: a.A, Version: c.Version()}
	switch a.K {
	case api.ASubmit:
		m.K = api.MSubmit
		if m.Version, m.L = c.Batch(); len(m.L) == 0 {
			return api.ErrNone
		}
		fallthrough
	case api.AAsk:
		return w.send(toKeeper, m)
	default:
		return change(c, a)
	}
}

// change does the command of an AEdit at the client's document.
func change(c *client.Client, a api.Act) api.Errno {
	doc := c.Doc()
	s, e := edit.Do(schema.House(), doc, within(a, len(doc)+1))
	if e != api.OK {
		return e
	}
	return c.Local(s)
}

// within brings what are places in the command of an AEdit to those of a document that has that many.
func within(a api.Act, places int) api.Act {
	a.C = rest(a.C, places)
	switch a.B {
	case api.CDelete, api.CMark, api.CWrap:
		d := rest(a.D, places)
		a.C, a.D = min(a.C, d), max(a.C, d)
	}
	return a
}

// onTheWay does an act with one of the messages on their way.
func (w *World) onTheWay(a api.Act) api.Errno {
	if len(w.moving) == 0 {
		return api.ErrNone
	}
	i := rest(a.A, len(w.moving))
	switch a.K {
	case api.ADeliver:
		// It is off its way ahead of being read, so that there is room for what it brings about.
		w.deliver(w.takeOut(i))
	case api.ADrop:
		w.takeOut(i)
	case api.ATwice:
		if !w.put(w.moving[i]) {
			return api.ErrFull
		}
	}
	return api.OK
}

// round lets each client learn what there is, send what it has, and learn what has become of it.
func (w *World) round() {
	for who := range w.clients {
		for _, k := range [...]int{api.AAsk, api.ASubmit, api.ASync, api.AAsk} {
			// What is refused, as a submit without anything pending, is just not done.
			w.Do(api.Act{K: k, A: who})
			w.deliverAll()
		}
	}
}

// rest answers what is left of n in parts of size, never below 0.
func rest(n int, size int) int {
	return (n%size + size) % size
}
