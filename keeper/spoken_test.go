package keeper

import (
	"math"
	"slices"
	"testing"

	"emender/api"
	"emender/disk"
	"emender/sample"
	"emender/schema"
	"emender/step"
)

// spoken is a keeper of an empty para as the chapter's words tell it: all but the log and how much of it is sure is worked out each time.
type spoken struct {
	most int
	log  []api.Entry
	sure int
}

func (s *spoken) submit(t *testing.T, who int, version int, l []api.Entry) api.Errno {
	if who < 0 || who > 3 || len(l) == 0 || len(l) > 8 {
		return api.ErrArg
	}
	if version != len(s.log) {
		return api.ErrStale
	}
	log := slices.Clone(s.log)
	for _, one := range l {
		if one.Who != who || one.Seq <= lastOf(log, who) || one.Seq > 1<<31-1 {
			return api.ErrForm
		}
		doc, e := step.Apply(folded(t, sample.Tokens("<>"), log), one.S)
		if e != api.OK {
			return api.ErrValid
		}
		if _, e := schema.House().Check(doc); e != api.OK {
			return api.ErrValid
		}
		if log = append(log, one); len(log) > 1024 {
			return api.ErrFull
		}
	}
	if len(framed(t, log...)) > s.most {
		return api.ErrFull
	}
	s.log = log
	return api.OK
}

func (s *spoken) crash(t *testing.T, keep int) api.Errno {
	if keep < 0 {
		return api.ErrArg
	}
	for keep < len(framed(t, s.log[s.sure:]...)) {
		s.log = s.log[:len(s.log)-1]
	}
	s.sure = len(s.log)
	return api.OK
}

// both are a keeper and what it is by the chapter's words.
type both struct {
	k    *Keeper
	d    *disk.Disk
	says spoken
}

func start(t *testing.T, most int) *both {
	d := blank(t, most)
	return &both{k: made(t, "<>", d), d: d, says: spoken{most: most}}
}

func (b *both) agree(t *testing.T) {
	t.Helper()
	is(t, b.k, "<>", b.d, b.says.sure, b.says.log...)
}

func (b *both) submit(t *testing.T, who int, version int, l ...api.Entry) api.Errno {
	t.Helper()
	e := b.says.submit(t, who, version, l)
	refused(t, b.k.Submit(who, version, l), e)
	return e
}

// next submits an entry of who at the version of now.
func (b *both) next(t *testing.T, who int, at int, text string) {
	t.Helper()
	b.submit(t, who, len(b.says.log), put(who, lastOf(b.says.log, who)+1, at, text))
}

func (b *both) sync(t *testing.T) {
	t.Helper()
	b.says.sure = len(b.says.log)
	done(t, b.k.Sync())
}

func (b *both) crash(t *testing.T, keep int) {
	t.Helper()
	was, sure := b.says.log, b.k.Sure()
	e := b.says.crash(t, keep)
	refused(t, b.k.Crash(keep), e)
	if n := b.k.Version(); n < sure || n > len(was) || !same(b.k.Log(), was[:n]) {
		t.Errorf("Crash(%d) leaves %v of %v, of which %d were sure", keep, b.k.Log(), was, sure)
	}
}

// again makes another keeper from the disk.
func (b *both) again(t *testing.T) {
	t.Helper()
	b.says.sure = len(b.says.log)
	b.k = made(t, "<>", b.d, b.says.log...)
}

// TestP19_4AllShortRows holds a keeper against the chapter's words over all short rows of acts.
func TestP19_4AllShortRows(t *testing.T) {
	acts := []func(b *both){
		func(b *both) { b.next(t, 0, 1, "x") },
		func(b *both) { b.next(t, 1, len(b.says.log), "y") },
		func(b *both) { b.submit(t, 2, 1, put(2, 4, 1, "z"), put(2, 5, 2, "><")) },
		func(b *both) { b.submit(t, 0, len(b.says.log), put(0, 1, 1, "b"), put(0, 2, 1, "e")) },
		func(b *both) { b.sync(t) },
		func(b *both) { b.crash(t, 0) },
		func(b *both) { b.crash(t, 20) },
		func(b *both) { b.again(t) },
	}
	for _, row := range sample.Rows(acts, 4) {
		for _, most := range []int{45, 400} {
			b := start(t, most)
			for _, act := range row {
				act(b)
			}
			b.agree(t)
		}
		if t.Failed() {
			return
		}
	}
}

// TestP19_4LongRows does so over long rows, on disks of which some are soon full.
func TestP19_4LongRows(t *testing.T) {
	got := map[api.Errno]int{}
	for seed := range uint32(16) {
		b := start(t, []int{300, 900, 4000, api.MaxDisk}[seed%4])
		n := sample.Mixed(seed, 1200, 1000)
		for i := 0; i+12 < len(n); i += 12 {
			switch m := n[i : i+12]; n[i] % 10 {
			case 0:
				b.sync(t)
			case 1:
				b.crash(t, m[1]%60-3)
			case 2:
				b.crash(t, []int{0, 10, 40, math.MaxInt}[m[1]%4])
			case 3:
				b.again(t)
			default:
				e := b.mixed(t, m)
				got[e]++
			}
			b.agree(t)
		}
		if t.Failed() {
			return
		}
	}
	for _, e := range []api.Errno{api.OK, api.ErrArg, api.ErrStale, api.ErrForm, api.ErrValid, api.ErrFull} {
		if got[e] < 10 {
			t.Errorf("%d times %d", got[e], e)
		}
	}
}

// mixed submits a batch that twelve numbers tell; it is mostly one that may be.
func (b *both) mixed(t *testing.T, m []int) api.Errno {
	t.Helper()
	who := m[1] % api.MaxClients
	doc := folded(t, sample.Tokens("<>"), b.says.log)
	seq := lastOf(b.says.log, who)
	var l []api.Entry
	for i := range 1 + m[2]%3 {
		seq += 1 + m[3+i]%3
		text := []string{"x", "B", "", "><", "<y>", "(<>)", "_", "yz"}[(m[9]+i)%8]
		s := replace(doc, m[6+i], m[8]%3, text)
		if then, e := step.Apply(doc, s); e == api.OK {
			doc = then
		}
		l = append(l, api.Entry{Who: who, Seq: seq, S: s})
	}
	version := len(b.says.log)
	switch m[10] % 16 {
	case 0:
		version += m[11]%3 - 1
	case 1:
		who = m[11]%6 - 1
	case 2:
		l[m[11]%len(l)].Seq -= 3
	case 3:
		l[m[11]%len(l)].Seq = 1<<31 - 1 + m[11]%2
	case 4:
		l = append(l, slices.Repeat(l, m[11]%4)...)
	case 5:
		l = l[:m[11]%2]
	case 6:
		l[m[11]%len(l)].S.From -= 2
	}
	return b.submit(t, who, version, l...)
}

// replace answers a step that puts text in the place of some tokens, from at on the first that leaves the document valid, if there is one.
func replace(doc []api.Token, at int, cut int, text string) api.Step {
	var s api.Step
	for i := range len(doc) + 1 {
		from := (at + i) % (len(doc) + 1)
		s = sample.Replace(from, min(from+cut, len(doc)), text)
		then, e := step.Apply(doc, s)
		if e != api.OK {
			continue
		}
		if _, e := schema.House().Check(then); e == api.OK {
			break
		}
	}
	return s
}
