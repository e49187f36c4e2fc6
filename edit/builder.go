package edit

import (
	"slices"

	"emender/api"
	"emender/flat"
	"emender/mark"
)

// builder holds what a command is asked for; its methods build the commands' steps, which need not be allowed.
type builder struct {
	doc    []api.Token // a valid one
	from   int         // both are places of it, in their order; of a command with one place they are the same
	to     int
	tokens []api.Token // what is put in, or around
	kind   int         // the type that a block becomes
	n      int         // the N that goes with it, or a mark
}

type command func(builder) (api.Step, api.Errno)

// commandOf answers the command of the number that acts have for it.
func commandOf(number int) command {
	table := [...]command{
		api.CInsert: builder.insert,
		api.CDelete: builder.delete,
		api.CSplit:  builder.split,
		api.CJoin:   builder.join,
		api.CBlock:  builder.retype,
		api.CMark:   builder.toggle,
		api.CWrap:   builder.wrap,
		api.CLift:   builder.lift,
	}
	if number < 0 || number >= len(table) {
		return builder.refuse
	}
	return table[number]
}

// aroundOf answers what an act that asks for the type t wraps in.
func aroundOf(t int) []api.Token {
	var around []api.Token
	switch t {
	case api.Item:
		// An item stands in a list alone, so that it brings its own.
		around = append(around, api.Token{K: api.TOpen, T: api.List})
		fallthrough
	default:
		around = append(around, api.Token{K: api.TOpen, T: t})
	}
	return around
}

// refuse is the command of a number that has none.
func (b builder) refuse() (api.Step, api.Errno) {
	return api.Step{}, api.ErrArg
}

func (b builder) insert() (api.Step, api.Errno) {
	if !areAll(api.TRune, b.tokens) {
		return api.Step{}, api.ErrArg
	}
	return replace(b.from, b.to, b.tokens...), api.OK
}

func (b builder) delete() (api.Step, api.Errno) {
	return replace(b.from, b.to), api.OK
}

func (b builder) split() (api.Step, api.Errno) {
	i := flat.Around(b.doc, b.from)
	if i < 0 {
		return api.Step{}, api.ErrNone
	}
	return replace(b.from, b.to, api.Token{K: api.TClose}, b.doc[i]), api.OK
}

func (b builder) join() (api.Step, api.Errno) {
	at := b.from
	if at == 0 || at == len(b.doc) || b.doc[at-1].K != api.TClose || b.doc[at].K != api.TOpen {
		return api.Step{}, api.ErrNone
	}
	return replace(at-1, at+1), api.OK
}

func (b builder) retype() (api.Step, api.Errno) {
	i := flat.Around(b.doc, b.from)
	if i < 0 {
		return api.Step{}, api.ErrNone
	}
	open := api.Token{K: api.TOpen, T: b.kind, N: b.n}
	if !flat.Right(open) {
		return api.Step{}, api.ErrArg
	}
	return replace(i, i+1, open), api.OK
}

func (b builder) toggle() (api.Step, api.Errno) {
	if _, e := mark.Add(0, b.n); e != api.OK {
		return api.Step{}, api.ErrArg
	}
	some, all := false, true
	for _, t := range b.doc[b.from:b.to] {
		if t.K == api.TRune {
			some, all = true, all && mark.Has(t.M, b.n)
		}
	}
	s := api.Step{K: api.SMark, From: b.from, To: b.to, Mark: b.n}
	switch {
	case !some:
		return api.Step{}, api.ErrNone
	case all:
		s.K = api.SUnmark
	}
	return s, api.OK
}

func (b builder) wrap() (api.Step, api.Errno) {
	if len(b.tokens) == 0 || !areAll(api.TOpen, b.tokens) {
		return api.Step{}, api.ErrArg
	}
	if b.from == b.to {
		return api.Step{}, api.ErrNone
	}
	ends := slices.Repeat([]api.Token{{K: api.TClose}}, len(b.tokens))
	s := stay(b.from, b.to)
	s.Slice, s.Insert = slices.Concat(b.tokens, ends), len(b.tokens)
	return s, api.OK
}

func (b builder) lift() (api.Step, api.Errno) {
	block := flat.Around(b.doc, b.from)
	parent := flat.Around(b.doc, block)
	if parent < 0 {
		return api.Step{}, api.ErrNone
	}
	s := stay(block, flat.Partner(b.doc, block)+1)
	// What stands ahead of the block and behind it stays in the parent, which is needed no more on a side where nothing does.
	if block == parent+1 {
		s.From = parent
	} else {
		s.Slice, s.Insert = append(s.Slice, api.Token{K: api.TClose}), 1
	}
	if end := flat.Partner(b.doc, parent); s.GapTo == end {
		s.To = end + 1
	} else {
		s.Slice = append(s.Slice, b.doc[parent])
	}
	return s, api.OK
}

// replace answers the SReplace with slice, which it copies.
func replace(from int, to int, slice ...api.Token) api.Step {
	return api.Step{K: api.SReplace, From: from, To: to, Slice: slices.Clone(slice)}
}

// stay answers the SAround that takes out nothing and puts nothing around its gap.
func stay(from int, to int) api.Step {
	return api.Step{K: api.SAround, From: from, To: to, GapFrom: from, GapTo: to}
}

func areAll(kind int, l []api.Token) bool {
	other := func(t api.Token) bool { return t.K != kind }
	return !slices.ContainsFunc(l, other)
}
