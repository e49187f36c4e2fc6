package client

import (
	"slices"

	"emender/allow"
	"emender/api"
	"emender/record"
	"emender/remap"
	"emender/schema"
	"emender/step"
)

// behind answers the client as it is behind the entries l, which the log has next.
func (c *Client) behind(l []api.Entry) (Client, api.Errno) {
	isOwn := func(one api.Entry) bool { return one.Who == c.who }
	own, others := parted(l, leading(l, isOwn))
	house := schema.House()
	base, ok := fold(house, c.confirmed, own)
	if !ok {
		return Client{}, api.ErrValid
	}
	confirmed, ok := fold(house, base, others)
	if !ok {
		return Client{}, api.ErrValid
	}
	if !isBeginning(c.pending, own) || slices.ContainsFunc(others, isOwn) {
		return Client{}, api.ErrForm
	}
	next := *c
	next.version += len(l)
	next.confirmed = confirmed
	_, next.pending = parted(c.pending, len(own))
	if len(others) == 0 {
		return next, api.OK
	}
	if e := next.rebase(house, base, others); e != api.OK {
		return Client{}, e
	}
	return next, api.OK
}

// rebase sends what is pending from base on behind the others' entries.
func (c *Client) rebase(house *schema.Schema, base []api.Token, others []api.Entry) api.Errno {
	r, e := remap.Rebase(house, base, steps(c.pending), steps(others))
	if e != api.OK {
		return e
	}
	kept := make([]api.Entry, len(r.Kept))
	for i, which := range r.Kept {
		kept[i] = api.Entry{Who: c.who, Seq: c.pending[which].Seq, S: r.Steps[i]}
	}
	c.lost += len(c.pending) - len(kept)
	c.pending = kept
	c.doc = r.Doc
	return api.OK
}

// parted answers the first n of l (all, if there are less) and the others, without room behind them: they still are those of l, and nobody may write on into it.
func parted(l []api.Entry, n int) ([]api.Entry, []api.Entry) {
	n = min(n, len(l))
	return l[:n:n], l[n:len(l):len(l)]
}

// leading answers how many of l, from the first on, are so.
func leading(l []api.Entry, is func(one api.Entry) bool) int {
	n := 0
	for n < len(l) && is(l[n]) {
		n++
	}
	return n
}

// fold does the steps of l one by one from doc on, if each is a client's and may be done.
func fold(house *schema.Schema, doc []api.Token, l []api.Entry) ([]api.Token, bool) {
	for _, one := range l {
		then, e := allow.Do(house, doc, one.S)
		if e != api.OK || !record.IsClient(one.Who) {
			return nil, false
		}
		doc = then
	}
	return doc, true
}

// isBeginning tells whether l begins with the entries first; both are of one client.
func isBeginning(l []api.Entry, first []api.Entry) bool {
	if len(first) > len(l) {
		return false
	}
	for i, one := range first {
		if one.Seq != l[i].Seq || !step.Same(one.S, l[i].S) {
			return false
		}
	}
	return true
}

func steps(l []api.Entry) []api.Step {
	all := make([]api.Step, len(l))
	for i, one := range l {
		all[i] = one.S
	}
	return all
}
