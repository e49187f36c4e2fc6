package world

import (
	"slices"
	"strings"
	"testing"

	"emender/api"
	"emender/client"
	"emender/codec"
	"emender/disk"
	"emender/edit"
	"emender/keeper"
	"emender/sample"
	"emender/schema"
	"emender/step"
)

// spoken is a world as the chapter's words tell it, of a keeper and clients of its own.
type spoken struct {
	k   *keeper.Keeper
	c   []*client.Client
	net []letter
}

// left answers the rest of n, not negative.
func left(n int, size int) int {
	if n %= size; n < 0 {
		n += size
	}
	return n
}

func (s *spoken) isClient(i int) bool {
	return 0 <= i && i < len(s.c)
}

func (s *spoken) do(a api.Act) api.Errno {
	if a.K < 0 || a.K > 8 || a.K <= api.AAsk && !s.isClient(a.A) {
		return api.ErrArg
	}
	i := 0
	if a.K == api.ADeliver || a.K == api.ADrop || a.K == api.ATwice {
		if len(s.net) == 0 {
			return api.ErrNone
		}
		i = left(a.A, len(s.net))
	}
	switch a.K {
	case api.AEdit:
		return s.edit(a)
	case api.ASubmit:
		version, l := s.c[a.A].Batch()
		if len(l) == 0 {
			return api.ErrNone
		}
		return s.send(-1, api.Msg{K: api.MSubmit, Who: a.A, Version: version, L: l})
	case api.AAsk:
		return s.send(-1, api.Msg{K: api.MAsk, Who: a.A, Version: s.c[a.A].Version()})
	case api.ADeliver:
		one := s.net[i]
		s.net = slices.Concat(s.net[:i], s.net[i+1:])
		s.delivered(one)
	case api.ADrop:
		s.net = slices.Concat(s.net[:i], s.net[i+1:])
	case api.ATwice:
		if len(s.net) == 256 {
			return api.ErrFull
		}
		s.net = append(s.net, s.net[i])
	case api.ACrash:
		return s.k.Crash(a.A)
	case api.ASync:
		return s.k.Sync()
	case api.AInject:
		s.delivered(letter{a.A, a.Bytes})
	}
	return api.OK
}

func (s *spoken) edit(a api.Act) api.Errno {
	c := s.c[a.A]
	n := len(c.Doc())
	a.C = left(a.C, n+1)
	if a.B == api.CDelete || a.B == api.CMark || a.B == api.CWrap {
		if a.D = left(a.D, n+1); a.D < a.C {
			a.C, a.D = a.D, a.C
		}
	}
	one, e := edit.Do(schema.House(), c.Doc(), a)
	if e == api.OK {
		e = c.Local(one)
	}
	return e
}

func (s *spoken) send(to int, m api.Msg) api.Errno {
	b, e := codec.PutMsg(m)
	if e == api.OK {
		b, e = codec.Wrap(b)
	}
	if e == api.OK && len(s.net) < 256 {
		s.net = append(s.net, letter{to, b})
	}
	return e
}

func (s *spoken) delivered(one letter) {
	inner, end, e := codec.Open(one.bytes, 0)
	if e != api.OK || end != len(one.bytes) {
		return
	}
	m, e := codec.GetMsg(inner)
	if e != api.OK || !s.isClient(m.Who) {
		return
	}
	if s.isClient(one.to) {
		if m.K == api.MTold && m.Who == one.to {
			s.c[one.to].Take(m.Version, m.L)
		}
		return
	}
	if m.K == api.MSubmit {
		s.k.Submit(m.Who, m.Version, m.L)
	}
	if m.K == api.MAsk {
		if l, e := s.k.Since(m.Version); e == api.OK {
			s.send(m.Who, api.Msg{K: api.MTold, Who: m.Who, Version: m.Version, L: l[:min(64, len(l))]})
		}
	}
}

func (s *spoken) deliveredAll() {
	for len(s.net) > 0 {
		s.do(api.Act{K: api.ADeliver})
	}
}

func (s *spoken) calm(rounds int) int {
	for n := 1; n <= min(rounds, 100); n++ {
		for i := range s.c {
			s.do(asks(i))
			s.deliveredAll()
			if len(s.c[i].Pending()) > 0 {
				s.do(submits(i))
			}
			s.deliveredAll()
			s.k.Sync()
			s.do(asks(i))
			s.deliveredAll()
		}
		if s.settled() {
			return n
		}
	}
	return max(0, min(rounds, 100))
}

func (s *spoken) settled() bool {
	for _, c := range s.c {
		if len(c.Pending()) > 0 || c.Version() != s.k.Version() || !slices.Equal(c.Doc(), s.k.Doc()) {
			return false
		}
	}
	return s.k.Version() == s.k.Sure()
}

// both are a world and what it is by the chapter's words.
type both struct {
	w     *World
	says  *spoken
	first []api.Token
	sent  [][]byte // all messages that ever were on their way
	got   map[api.Errno]int
}

func start(t *testing.T, first string, clients int, most int) *both {
	t.Helper()
	d, e := disk.New(most)
	done(t, e)
	k, e := keeper.New(sample.Tokens(first), d)
	done(t, e)
	s := &spoken{k: k}
	for i := range clients {
		c, e := client.New(i, sample.Tokens(first))
		done(t, e)
		s.c = append(s.c, c)
	}
	return &both{w: on(t, first, clients, most), says: s, first: sample.Tokens(first), got: map[api.Errno]int{}}
}

func (b *both) do(t *testing.T, a api.Act) {
	t.Helper()
	before, want := len(b.says.net), b.says.do(a)
	if e := b.w.Do(a); e != want {
		t.Errorf("Do(%s): %d, want %d", short(a), e, want)
	}
	b.got[want]++
	if len(b.says.net) > before {
		b.sent = append(b.sent, b.says.net[before].bytes)
	}
}

func (b *both) calm(t *testing.T, rounds int) {
	t.Helper()
	want := b.says.calm(rounds)
	if n := b.w.Calm(rounds); n != want {
		t.Errorf("Calm(%d): %d, want %d", rounds, n, want)
	}
}

// agree holds a world against the chapter's words, and against what follows.
func (b *both) agree(t *testing.T) {
	t.Helper()
	got, want := shot(b.w), shotOf(b.says.k, b.says.c, b.says.net)
	if got != want {
		t.Errorf("%.2000s\nwant\n%.2000s", got, want)
	}
	if b.w.Settled() != b.says.settled() || b.w.Moving() != len(b.says.net) {
		t.Errorf("settled %v, %d on their way; want %v, %d", b.w.Settled(), b.w.Moving(), b.says.settled(), len(b.says.net))
	}
	b.follows(t)
}

// follows holds a world against what the chapter says that follows; nobody must have lied to it.
func (b *both) follows(t *testing.T) {
	t.Helper()
	log := b.w.Keeper().Log()
	docs := folded(t, b.first, log)
	if !slices.Equal(b.w.Keeper().Doc(), docs[len(log)]) {
		t.Errorf("the keeper has %s, want %s", short(b.w.Keeper().Doc()), short(docs[len(log)]))
	}
	for i := range len(b.says.c) {
		c := b.w.Client(i)
		if c.Version() > b.w.Keeper().Sure() {
			t.Fatalf("client %d is at %d, %d are sure", i, c.Version(), b.w.Keeper().Sure())
		}
		if !slices.Equal(c.Confirmed(), docs[c.Version()]) {
			t.Errorf("client %d at %d has confirmed %s, want %s", i, c.Version(), short(c.Confirmed()), short(docs[c.Version()]))
		}
	}
	type id struct{ who, seq int }
	seen := map[id]int{}
	for at, one := range log {
		if was, ok := seen[id{one.Who, one.Seq}]; ok {
			t.Errorf("%d and %d of the log are both %d of client %d", was, at, one.Seq, one.Who)
		}
		seen[id{one.Who, one.Seq}] = at
	}
}

// folded answers the documents at all versions of a log; each must be valid.
func folded(t *testing.T, first []api.Token, log []api.Entry) [][]api.Token {
	t.Helper()
	all := [][]api.Token{first}
	for _, one := range log {
		next, e := step.Apply(all[len(all)-1], one.S)
		done(t, e)
		_, e = schema.House().Check(next)
		done(t, e)
		all = append(all, next)
	}
	return all
}

// TestP21_5AllShortRows holds a world against the chapter's words over all short rows of acts.
func TestP21_5AllShortRows(t *testing.T) {
	acts := []api.Act{
		inserts(0, 1, 'x'),
		{K: api.AEdit, A: 1, B: api.CDelete, C: 2, D: -4},
		submits(0), submits(1), asks(1), delivers(0), delivers(-1), drops(0), twice(1), crashes(0), syncs(),
	}
	for _, row := range sample.Rows(acts, 4) {
		b := start(t, "<a>", 2, api.MaxDisk)
		for _, a := range row {
			b.do(t, a)
		}
		b.agree(t)
		b.calm(t, 9)
		b.agree(t)
		if !b.w.Settled() {
			t.Errorf("%v does not settle", row)
		}
		if t.Failed() {
			return
		}
	}
}

// TestP21_5LongRows does so over long rows, in which messages are lost, come late and more than once, and the keeper crashes.
func TestP21_5LongRows(t *testing.T) {
	got := map[api.Errno]int{}
	for seed := range uint32(12) {
		clients := 1 + int(seed+3)%api.MaxClients
		b := start(t, []string{"<>", "<ab>(<c>)_", "[{<x>}{#'}]`a\n'"}[seed%3], clients, api.MaxDisk)
		b.got = got
		n := sample.Mixed(seed, 6000, 1000)
		for i := 0; i+8 < len(n) && b.w.Keeper().Version() < 400; i += 8 {
			b.act(t, n[i:i+8])
			if i%5 == 0 {
				b.agree(t)
			}
			if t.Failed() {
				t.Fatalf("seed %d, act %d", seed, i/8)
			}
		}
		b.agree(t)
		b.calm(t, 100)
		b.agree(t)
		if !b.w.Settled() || b.w.Moving() != 0 {
			t.Errorf("seed %d does not settle", seed)
		}
	}
	for _, e := range []api.Errno{api.OK, api.ErrArg, api.ErrForm, api.ErrNone, api.ErrValid} {
		if got[e] < 10 {
			t.Errorf("%d times %d", got[e], e)
		}
	}
}

// act does what eight numbers tell.
func (b *both) act(t *testing.T, m []int) {
	t.Helper()
	who := m[1] % len(b.says.c)
	switch m[0] % 24 {
	case 0, 1, 2, 3, 4:
		b.do(t, inserts(who, m[2]-500, rune('a'+m[3]%26)))
	case 5, 6:
		b.do(t, api.Act{K: api.AEdit, A: who, B: m[2]%10 - 1, C: m[3] - 500, D: m[4]%20 - 6, N: m[5] % 8})
	case 7:
		b.do(t, api.Act{K: api.AEdit, A: who, B: api.CDelete, C: m[2], D: m[2] + m[3]%4})
	case 8, 9, 10:
		b.do(t, submits(who))
	case 11, 12:
		b.do(t, asks(who))
	case 13, 14, 15, 16, 17:
		b.do(t, delivers(m[2]%20*(m[3]%3-1)))
	case 18:
		b.do(t, drops(m[2]-500))
	case 19:
		b.do(t, twice(m[2]-500))
	case 20:
		b.do(t, syncs())
	case 21:
		b.do(t, crashes(m[2]%40*(m[3]%3)-5))
	case 22:
		// What once was sent may come again, to whom it was not sent, too, or with a bit of it wrong.
		if len(b.sent) > 0 {
			old := slices.Clone(b.sent[m[2]%len(b.sent)])
			old[m[3]%len(old)] ^= byte(m[4] % 2 << (m[5] % 8))
			b.do(t, injects(m[6]%6-1, old))
		}
	case 23:
		switch m[2] % 8 {
		case 0:
			b.calm(t, m[3]%4)
		case 1:
			b.do(t, api.Act{K: m[3]%20 - 5, A: m[4] - 500, Bytes: []byte("junk")})
		}
	}
}

// TestP21_5FullDisk: where the log has no more room all goes on, but for what is new.
func TestP21_5FullDisk(t *testing.T) {
	for seed := range uint32(4) {
		b := start(t, "<>", 3, 150)
		n := sample.Mixed(seed+70, 2400, 1000)
		for i := 0; i+8 < len(n); i += 8 {
			b.act(t, n[i:i+8])
		}
		b.agree(t)
		b.calm(t, 20)
		b.agree(t)
		if b.w.Settled() || t.Failed() {
			t.Fatalf("seed %d", seed)
		}
	}
}

// TestP21_5AllIsThere: what clients type, at whatever places, is all there in the end, and once, whatever is lost, comes twice or crashes.
func TestP21_5AllIsThere(t *testing.T) {
	for seed := range uint32(8) {
		b := start(t, "<->", 4, api.MaxDisk)
		n := sample.Mixed(seed+40, 3000, 1000)
		typed := []rune{'-'}
		for i := 0; i+8 < len(n); i += 8 {
			m := n[i : i+8]
			if m[0]%24 < 8 || m[0]%24 == 23 {
				// Places 1 to the last but one are those where text may stand.
				who := m[1] % 4
				r := rune(0x4E00 + len(typed))
				b.do(t, inserts(who, 1+m[2]%(len(b.w.Client(who).Doc())-1), r))
				typed = append(typed, r)
				continue
			}
			b.act(t, m)
		}
		b.calm(t, 100)
		b.agree(t)
		for i := range 4 {
			c := b.w.Client(i)
			text := []rune(textOf(c.Doc()))
			slices.Sort(text)
			if c.Lost() != 0 || !slices.Equal(text, typed) {
				t.Errorf("seed %d: client %d has %d of %d, %d lost", seed, i, len(text), len(typed), c.Lost())
			}
		}
		if !b.w.Settled() || len(typed) < 50 {
			t.Errorf("seed %d: %d typed", seed, len(typed))
		}
	}
}

func textOf(l []api.Token) string {
	var s strings.Builder
	for _, one := range l {
		if one.K == api.TRune {
			s.WriteRune(rune(one.N))
		}
	}
	return s.String()
}
