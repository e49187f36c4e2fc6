package client

import (
	"slices"
	"testing"

	"emender/api"
	"emender/remap"
	"emender/sample"
	"emender/schema"
	"emender/step"
)

// spoken is a client as the chapter's words tell it: its document is worked out each time.
type spoken struct {
	who, version, seq, lost int
	confirmed               []api.Token
	pending                 []api.Entry
}

// next answers what one step makes of doc, if it is valid.
func next(doc []api.Token, s api.Step) ([]api.Token, api.Errno) {
	then, e := step.Apply(doc, s)
	if e == api.OK {
		_, e = schema.House().Check(then)
	}
	return then, e
}

func (s *spoken) doc(t *testing.T) []api.Token {
	return folded(t, s.confirmed, s.pending)
}

func (s *spoken) local(t *testing.T, one api.Step) api.Errno {
	if len(s.pending) >= 500 || s.seq == 1<<31-1 {
		return api.ErrFull
	}
	if _, e := next(s.doc(t), one); e != api.OK {
		return e
	}
	s.pending = append(slices.Clone(s.pending), api.Entry{Who: s.who, Seq: s.seq, S: one})
	s.seq++
	return api.OK
}

func (s *spoken) take(t *testing.T, version int, l []api.Entry) api.Errno {
	if version != s.version {
		return api.ErrStale
	}
	if version+len(l) > 1024 {
		return api.ErrFull
	}
	docs := [][]api.Token{s.confirmed}
	for i, one := range l {
		doc, e := next(docs[i], one.S)
		if e != api.OK || one.Who < 0 || one.Who > 3 {
			return api.ErrValid
		}
		docs = append(docs, doc)
	}
	var own []api.Entry
	for _, one := range l {
		if one.Who == s.who {
			own = append(own, one)
		}
	}
	n := len(own)
	if n > len(s.pending) || !same(own, l[:n]) || !same(own, s.pending[:n]) {
		return api.ErrForm
	}
	rest, lost := s.pending[n:], 0
	if n < len(l) {
		r, e := remap.Rebase(schema.House(), docs[n], stepsOf(rest), stepsOf(l[n:]))
		if e != api.OK {
			return e
		}
		var kept []api.Entry
		for i, was := range r.Kept {
			kept = append(kept, api.Entry{Who: s.who, Seq: rest[was].Seq, S: r.Steps[i]})
		}
		rest, lost = kept, len(rest)-len(kept)
	}
	s.version, s.confirmed, s.pending, s.lost = version+len(l), docs[len(l)], rest, s.lost+lost
	return api.OK
}

func (s *spoken) reset(version int, doc []api.Token) api.Errno {
	if version < 0 || version > 1024 {
		return api.ErrArg
	}
	if version < s.version {
		return api.ErrStale
	}
	if _, e := schema.House().Check(doc); e != api.OK {
		return e
	}
	s.version, s.confirmed, s.pending, s.lost = version, doc, nil, s.lost+len(s.pending)
	return api.OK
}

func stepsOf(l []api.Entry) []api.Step {
	var all []api.Step
	for _, one := range l {
		all = append(all, one.S)
	}
	return all
}

// both are a client and what it is by the chapter's words.
type both struct {
	c    *Client
	says spoken
}

func start(t *testing.T, who int, first string) *both {
	t.Helper()
	return &both{c: fresh(t, who, first), says: spoken{who: who, confirmed: sample.Tokens(first)}}
}

func (b *both) agree(t *testing.T) {
	t.Helper()
	c, says := b.c, b.says
	if c.Version() != says.version || c.Seq() != says.seq || c.Lost() != says.lost || !same(c.Pending(), says.pending) {
		t.Errorf("version %d, seq %d, lost %d, pending %s; want %s", c.Version(), c.Seq(), c.Lost(), short(c.Pending()), short(says))
	}
	if !slices.Equal(c.Confirmed(), says.confirmed) || !slices.Equal(c.Doc(), says.doc(t)) {
		t.Errorf("confirmed %s, the document %s; want %s", short(c.Confirmed()), short(c.Doc()), short(says))
	}
	if v, l := c.Batch(); v != says.version || !same(l, says.pending[:min(8, len(says.pending))]) {
		t.Errorf("Batch: %d, %s; want %s", v, short(l), short(says))
	}
}

func (b *both) local(t *testing.T, s api.Step) api.Errno {
	t.Helper()
	e := b.says.local(t, s)
	refused(t, b.c.Local(s), e)
	return e
}

func (b *both) take(t *testing.T, version int, l ...api.Entry) api.Errno {
	t.Helper()
	e := b.says.take(t, version, l)
	refused(t, b.c.Take(version, l), e)
	return e
}

// told takes the first n of what is pending, and others behind them.
func (b *both) told(t *testing.T, n int, others ...api.Entry) {
	t.Helper()
	own := b.says.pending[:min(n, len(b.says.pending))]
	b.take(t, b.says.version, slices.Concat(own, others)...)
}

func (b *both) reset(t *testing.T, version int, doc []api.Token) api.Errno {
	t.Helper()
	e := b.says.reset(version, doc)
	refused(t, b.c.Reset(version, doc), e)
	return e
}

// TestP20_5AllShortRows holds a client against the chapter's words over all short rows of acts.
func TestP20_5AllShortRows(t *testing.T) {
	acts := []func(b *both){
		func(b *both) { b.local(t, sample.Replace(1, 1, "x")) },
		func(b *both) { b.local(t, sample.Replace(2, 2, "><")) },
		func(b *both) { b.local(t, sample.Replace(1, 2, "")) },
		func(b *both) { b.local(t, api.Step{K: api.SMark, From: 1, To: 3, Mark: api.Em}) },
		func(b *both) { b.told(t, 1) },
		func(b *both) { b.told(t, 2, put(1, 0, 1, "y")) },
		func(b *both) { b.told(t, 0, put(2, 0, 2, "z"), put(3, 0, 0, "_")) },
		func(b *both) { b.told(t, 1, rule(1, 0, len(b.says.confirmed)), put(1, 1, 0, "<ab>")) },
		func(b *both) {
			b.take(t, b.says.version, slices.Concat([]api.Entry{put(1, 0, 0, "")}, b.says.pending)...)
		},
		func(b *both) { b.reset(t, b.says.version+1, sample.Tokens("(<>)")) },
	}
	for _, row := range sample.Rows(acts, 4) {
		b := start(t, 0, "<a>")
		for _, act := range row {
			act(b)
		}
		b.agree(t)
		if t.Failed() {
			return
		}
	}
}

// party is clients with a log that takes what is submitted at its version.
type party struct {
	first []api.Token
	log   []api.Entry
	all   []*both
	got   map[api.Errno]int
}

func gather(t *testing.T, first string) *party {
	p := &party{first: sample.Tokens(first), got: map[api.Errno]int{}}
	for who := range api.MaxClients {
		p.all = append(p.all, start(t, who, first))
	}
	return p
}

func (p *party) doc(t *testing.T) []api.Token {
	return folded(t, p.first, p.log)
}

func (p *party) submit(b *both) {
	if v, l := b.c.Batch(); v == len(p.log) {
		p.log = append(p.log, l...)
	}
}

// tell gives a client at most n entries that it does not have.
func (p *party) tell(t *testing.T, b *both, n int) {
	t.Helper()
	v := b.says.version
	e := b.take(t, v, p.log[v:min(v+n, len(p.log))]...)
	done(t, e)
	p.got[e]++
}

// calm goes on till all have all.
func (p *party) calm(t *testing.T) {
	t.Helper()
	for range 100 {
		for _, b := range p.all {
			p.tell(t, b, len(p.log))
			p.submit(b)
		}
	}
	for _, b := range p.all {
		b.agree(t)
		if b.c.Version() != len(p.log) || b.c.Pending() != nil || !slices.Equal(b.c.Doc(), p.doc(t)) {
			t.Errorf("%d of %d, pending %s, %s", b.c.Version(), len(p.log), short(b.c.Pending()), short(b.c.Doc()))
		}
	}
	for who := range p.all {
		last := -1
		for _, one := range p.log {
			if one.Who == who && one.Seq <= last {
				t.Errorf("client %d: Seq %d is behind %d", who, one.Seq, last)
			}
			if one.Who == who {
				last = one.Seq
			}
		}
	}
}

// TestP20_5LongRows holds clients against the chapter's words over long rows, in which they edit and learn of one log; in the end all have the same.
func TestP20_5LongRows(t *testing.T) {
	got, lost := map[api.Errno]int{}, 0
	for seed := range uint32(12) {
		p := gather(t, []string{"<>", "<ab>(<c>)_", "[{<x>}{#'}]`a\n'"}[seed%3])
		p.got = got
		n := sample.Mixed(seed, 1500, 1000)
		for i := 0; i+6 < len(n) && len(p.log) < 400; i += 6 {
			p.act(t, n[i:i+6])
			if t.Failed() {
				return
			}
		}
		p.calm(t)
		for _, b := range p.all {
			lost += b.c.Lost()
		}
	}
	for _, e := range []api.Errno{api.OK, api.ErrArg, api.ErrLong, api.ErrForm, api.ErrValid, api.ErrStale} {
		if got[e] < 10 {
			t.Errorf("%d times %d", got[e], e)
		}
	}
	if lost < 50 {
		t.Errorf("%d lost", lost)
	}
}

// act does what six numbers tell.
func (p *party) act(t *testing.T, m []int) {
	t.Helper()
	b := p.all[m[1]%len(p.all)]
	switch m[0] % 12 {
	case 0, 1, 2, 3:
		p.got[b.local(t, mixed(b.says.doc(t), m[2:]))]++
	case 4, 5:
		p.submit(b)
	case 6, 7:
		p.tell(t, b, 1+m[2]%12)
	case 8:
		p.tell(t, b, len(p.log))
	case 9:
		p.mislead(t, b, m[2:])
	case 10:
		p.got[b.local(t, api.Step{Slice: slices.Repeat(sample.Tokens("_"), m[2]%2*3000), K: m[3]%2*5 - 1})]++
	case 11:
		if m[2]%8 == 0 {
			p.got[b.reset(t, len(p.log), p.doc(t))]++
		}
	}
	b.agree(t)
}

// mislead tells a client what the log does not have, where that must be refused.
func (p *party) mislead(t *testing.T, b *both, m []int) {
	t.Helper()
	version := b.says.version - m[2]%2
	l := slices.Concat(b.says.pending, []api.Entry{{Who: m[0]%6 - 1, S: mixed(b.says.doc(t), m)}})
	if m[1]%3 == 0 {
		slices.Reverse(l)
	}
	trial := b.says
	if trial.take(t, version, l) != api.OK {
		p.got[b.take(t, version, l...)]++
	}
}

// mixed answers a step that four numbers tell, from some place on the first that leaves the document valid, if there is one; at times any.
func mixed(doc []api.Token, m []int) api.Step {
	text := []string{"x", "B", "", "><", "<y>", "(<z>)", "_", "yz", "CDE"}[m[1]%9]
	var s api.Step
	for i := range len(doc) + 1 {
		from := (m[0] + i) % (len(doc) + 1)
		to := min(from+m[2]%3, len(doc))
		switch m[3] % 8 {
		case 0:
			s = api.Step{K: api.SMark, From: from, To: to + 1, Mark: api.Em}
		case 1:
			s = api.Step{K: api.SUnmark, From: from, To: to + 1, Mark: api.Strong}
		case 2:
			s = sample.Around(from, from, from+2+m[2]%5, from+2+m[2]%5, "(", ")")
		case 3:
			s = sample.Around(from, from+1, from+2+m[2]%5, from+3+m[2]%5, "#", "'")
		default:
			s = sample.Replace(from, to, text)
		}
		if _, e := next(doc, s); e == api.OK || m[0]%10 == 0 {
			break
		}
	}
	return s
}
