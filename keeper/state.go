package keeper

import (
	"maps"
	"math"
	"slices"

	"emender/allow"
	"emender/api"
	"emender/record"
	"emender/schema"
)

// noSeq is the last Seq of a client that has no entry.
const noSeq = -1

// state is a log, and what it comes to.
type state struct {
	log  []api.Entry
	doc  []api.Token
	last map[int]int // the last Seq of each client that has an entry
}

// refusal tells which of some entries can't stand in the log, and why.
type refusal struct {
	entry int
	why   api.Errno
}

func (r refusal) Error() string {
	return r.why.Error()
}

func (r refusal) Unwrap() error {
	return r.why
}

// fork answers a state that may go on without this one's changing.
func (s *state) fork() state {
	return state{log: slices.Clip(s.log), doc: s.doc, last: maps.Clone(s.last)}
}

// fold puts entries into the log one by one, up to the first whose client may not be the one that it names, or that can't stand there.
func (s *state) fold(l []api.Entry, may func(who int) bool) error {
	house := schema.House()
	for i, one := range l {
		if !may(one.Who) {
			return refusal{i, api.ErrForm}
		}
		if e := s.add(house, one); e != api.OK {
			return refusal{i, e}
		}
	}
	return nil
}

func (s *state) add(house *schema.Schema, one api.Entry) api.Errno {
	if one.Seq <= s.lastOf(one.Who) || one.Seq > math.MaxInt32 {
		return api.ErrForm
	}
	doc, e := allow.Do(house, s.doc, one.S)
	if e != api.OK {
		return api.ErrValid
	}
	if len(s.log) >= api.MaxLog {
		return api.ErrFull
	}
	s.log = append(s.log, record.Clone(one))
	s.doc = doc
	s.last[one.Who] = one.Seq
	return api.OK
}

func (s *state) lastOf(who int) int {
	if seq, ok := s.last[who]; ok {
		return seq
	}
	return noSeq
}
