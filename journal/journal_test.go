package journal

import (
	"math"
	"slices"
	"strings"
	"testing"

	"emender/api"
	"emender/codec"
	"emender/disk"
	"emender/sample"
	"emender/step"
)

// zero is the frame of an entry of which all is zero: how many bytes, these, their sum.
const zero = "\x06\x00\x00\x00\x00\x00\x00\x00\x06\x00\x01"

// typed answers the entry that types the text, of the client 1.
func typed(seq int, text string) api.Entry {
	return api.Entry{Who: 1, Seq: seq, S: sample.Replace(0, 0, text)}
}

// all are entries of all kinds of steps, of different lengths.
func all() []api.Entry {
	return []api.Entry{
		{},
		typed(5, "a"),
		{Who: 3, Seq: 1<<31 - 1, S: sample.Replace(3, 2048, "<B>_")},
		{Who: 2, Seq: 300, S: sample.Around(1, 2, 3, 4, "(", ")")},
		{Seq: 9, S: api.Step{K: api.SMark, From: 1, To: 9, Mark: api.Em}},
		{Seq: 10, S: api.Step{K: api.SUnmark, From: 200, To: 300, Mark: api.Code}},
		typed(6, strings.Repeat("long ", 40)),
		typed(4, ""),
	}
}

// framed answers the frames of entries, one behind the other.
func framed(t *testing.T, l ...api.Entry) string {
	t.Helper()
	var b strings.Builder
	for _, one := range l {
		inner, e := codec.PutEntry(one)
		done(t, e)
		b.WriteString(wrapped(t, string(inner)))
	}
	return b.String()
}

func wrapped(t *testing.T, inner string) string {
	t.Helper()
	f, e := codec.Wrap([]byte(inner))
	done(t, e)
	return string(f)
}

func blank(t *testing.T, most int) *disk.Disk {
	t.Helper()
	d, e := disk.New(most)
	done(t, e)
	return d
}

// holding answers a disk that holds sure, and behind it loose, which is not sure.
func holding(t *testing.T, sure string, loose string) *disk.Disk {
	t.Helper()
	d := blank(t, api.MaxDisk)
	done(t, d.Append([]byte(sure)))
	done(t, d.Sync())
	done(t, d.Append([]byte(loose)))
	return d
}

// opened answers the journal of d, which must hold want.
func opened(t *testing.T, d *disk.Disk, want ...api.Entry) *Journal {
	t.Helper()
	j, l, e := Open(d)
	if j == nil || !same(l, want) || e != api.OK {
		t.Fatalf("Open: %v, %.200v, %d; want %.200v", j, l, e, want)
	}
	is(t, j, framed(t, want...), len(want), len(want))
	return j
}

// fresh answers a journal on an empty disk of at most most bytes, with entries that are sure and others that are not.
func fresh(t *testing.T, most int, sure []api.Entry, loose ...api.Entry) *Journal {
	t.Helper()
	j := opened(t, blank(t, most))
	done(t, j.Append(sure...))
	done(t, j.Sync())
	done(t, j.Append(loose...))
	is(t, j, framed(t, sure...)+framed(t, loose...), len(sure)+len(loose), len(sure))
	return j
}

func done(t *testing.T, e api.Errno) {
	t.Helper()
	refused(t, e, api.OK)
}

func refused(t *testing.T, e api.Errno, want api.Errno) {
	t.Helper()
	if e != want {
		t.Errorf("the answer is %d, want %d", e, want)
	}
}

// is holds a journal against the bytes of its disk, how many entries it has and how many are sure.
func is(t *testing.T, j *Journal, b string, size int, sure int) {
	t.Helper()
	if string(j.Disk().Bytes()) != b || j.Len() != size || j.Sure() != sure {
		t.Errorf("%d entries, %d sure, in %.200x; want %d, %d, %.200x", j.Len(), j.Sure(), j.Disk().Bytes(), size, sure, b)
	}
}

func same(a []api.Entry, b []api.Entry) bool {
	return slices.EqualFunc(a, b, func(x, y api.Entry) bool {
		return x.Who == y.Who && x.Seq == y.Seq && step.Same(x.S, y.S)
	})
}

func TestP18_1Open(t *testing.T) {
	for _, l := range [][]api.Entry{nil, {{}}, {typed(1, "x")}, all(), slices.Repeat(all(), 20)} {
		d := holding(t, framed(t, l...), "")
		j := opened(t, d, l...)
		if j.Disk() != d {
			t.Errorf("%d entries: the disk is another one", len(l))
		}
		opened(t, d, l...)
	}
	opened(t, holding(t, zero, ""), api.Entry{})
	opened(t, blank(t, 0))
}

func TestP18_1OpenMakesSure(t *testing.T) {
	l := all()
	b := framed(t, l...)
	for at := range len(b) + 1 {
		d := holding(t, b[:at], b[at:])
		j := opened(t, d, l...)
		done(t, d.Crash(0))
		is(t, j, b, len(l), len(l))
	}
}

// noFrames are bytes with which no frame of an entry begins.
func noFrames(t *testing.T) []string {
	good, last := framed(t, typed(1, "x")), framed(t, api.Entry{Who: 3, Seq: 7})
	return []string{
		"torn", "\x00", "\x80", "\xff\xff\xff\xff\xff\xff\xff\xff\xff\x02", "\xff\xff\x7f",
		"\x80\x00" + good, "\x86\x00" + zero[1:], zero[:10] + "\x02", zero[:7] + "\x01\x00\x06\x00", "\x05" + zero[1:],
		good[:1], good[:len(good)/2], good[:len(good)-1], last[:len(last)-1],
		wrapped(t, ""), wrapped(t, "abc"), wrapped(t, "\x00\x00\x00\x00\x00"), wrapped(t, "\x00\x00\x00\x00\x00\x00\x00"),
		wrapped(t, "\x04\x00\x00\x00\x00\x00"), wrapped(t, "\x00\x00\x04\x00\x00\x00"), wrapped(t, "\x00\x00\x00\x01\x00\x00"),
		wrapped(t, "\x80\x00\x00\x00\x00\x00\x00"), wrapped(t, strings.Repeat("x", api.MaxFrame)), wrapped(t, zero),
	}
}

func TestP18_1OpenCutsWhatIsNoFrame(t *testing.T) {
	for _, l := range [][]api.Entry{nil, {typed(4, "y")}, all()} {
		b := framed(t, l...)
		for _, torn := range noFrames(t) {
			opened(t, holding(t, b+torn, ""), l...)
			opened(t, holding(t, b, torn), l...)
			opened(t, holding(t, "", b+torn), l...)
			opened(t, holding(t, b+torn[:1], torn[1:]), l...)
		}
	}
}

func TestP18_1OpenStopsAtTheFirst(t *testing.T) {
	behind := framed(t, all()...)
	for _, torn := range []string{"\x00", wrapped(t, ""), wrapped(t, "abc"), zero[:10] + "\x02", "\x80\x00"} {
		opened(t, holding(t, torn+behind, ""))
		opened(t, holding(t, zero+torn+behind, ""), api.Entry{})
	}
}

func TestP18_1OpenOfEachBeginning(t *testing.T) {
	l := all()
	b := framed(t, l...)
	for end := range len(b) + 1 {
		n := 0
		for n < len(l) && len(framed(t, l[:n+1]...)) <= end {
			n++
		}
		opened(t, holding(t, b[:end], ""), l[:n]...)
	}
}

func TestP18_1OpenOfEachChangedByte(t *testing.T) {
	ahead, behind := all()[:3], all()[3:]
	b := framed(t, ahead...)
	f := framed(t, typed(77, "abc"))
	for i := range f {
		for _, flip := range []byte{1, 2, 0x40, 0x80, 0xff} {
			wrong := []byte(f)
			wrong[i] ^= flip
			opened(t, holding(t, b+string(wrong)+framed(t, behind...), ""), ahead...)
		}
	}
}

func TestP18_1OpenRefuses(t *testing.T) {
	var none *disk.Disk
	for _, d := range []*disk.Disk{nil, none, {}, new(disk.Disk)} {
		if j, l, e := Open(d); j != nil || l != nil || e != api.ErrZero {
			t.Errorf("Open: %v, %v, %d", j, l, e)
		}
	}
}

func TestP18_1Append(t *testing.T) {
	j := opened(t, blank(t, api.MaxDisk))
	done(t, j.Append())
	is(t, j, "", 0, 0)
	done(t, j.Append(api.Entry{}))
	is(t, j, zero, 1, 0)
	done(t, j.Append(all()...))
	is(t, j, zero+framed(t, all()...), 1+len(all()), 0)
	done(t, j.Append(typed(1, "x"), typed(1, "x")))
	done(t, j.Append(nil...))
	l := append(append([]api.Entry{{}}, all()...), typed(1, "x"), typed(1, "x"))
	is(t, j, framed(t, l...), len(l), 0)
	opened(t, j.Disk(), l...)
}

func TestP18_1AppendBehindWhatWasOpened(t *testing.T) {
	for _, torn := range []string{"", "torn", zero[:10]} {
		j := opened(t, holding(t, framed(t, all()...), torn), all()...)
		done(t, j.Append(typed(9, "z"), api.Entry{}))
		is(t, j, framed(t, all()...)+framed(t, typed(9, "z"))+zero, len(all())+2, len(all()))
	}
}

func TestP18_1AppendRefuses(t *testing.T) {
	arg := api.Entry{Who: api.MaxClients}
	long := api.Entry{S: api.Step{Slice: slices.Repeat(sample.Tokens("x"), api.MaxDoc+1)}}
	right := typed(1, "x")
	for _, x := range []struct {
		l    []api.Entry
		want api.Errno
	}{
		{[]api.Entry{arg}, api.ErrArg},
		{[]api.Entry{{Who: -1}}, api.ErrArg},
		{[]api.Entry{{Seq: -1}}, api.ErrArg},
		{[]api.Entry{{Seq: 1 << 31}}, api.ErrArg},
		{[]api.Entry{{S: api.Step{K: 4}}}, api.ErrArg},
		{[]api.Entry{{S: sample.Replace(2, 1, "")}}, api.ErrArg},
		{[]api.Entry{{S: sample.Replace(0, 0, "x!")}}, api.ErrArg},
		{[]api.Entry{long}, api.ErrLong},
		{[]api.Entry{right, arg, right}, api.ErrArg},
		{[]api.Entry{right, long}, api.ErrLong},
		{[]api.Entry{arg, long}, api.ErrArg},
		{[]api.Entry{long, arg}, api.ErrLong},
		{append(slices.Repeat([]api.Entry{right}, 50), arg), api.ErrArg},
		{append(slices.Repeat([]api.Entry{right}, 50), long), api.ErrLong},
		{slices.Repeat([]api.Entry{right}, 50), api.ErrFull},
	} {
		j := fresh(t, 60, []api.Entry{{}}, typed(2, "y"))
		refused(t, j.Append(x.l...), x.want)
		is(t, j, zero+framed(t, typed(2, "y")), 2, 1)
		opened(t, j.Disk(), api.Entry{}, typed(2, "y"))
	}
}

func TestP18_1AppendUpToFull(t *testing.T) {
	most := 3 * len(zero)
	for n := range 6 {
		for _, spare := range []int{0, 1, len(zero) - 1} {
			j := opened(t, blank(t, most+spare))
			want, have := api.OK, n
			if n > 3 {
				want, have = api.ErrFull, 0
			}
			refused(t, j.Append(make([]api.Entry, n)...), want)
			is(t, j, strings.Repeat(zero, have), have, 0)
			done(t, j.Append(make([]api.Entry, 3-have)...))
			refused(t, j.Append(api.Entry{}), api.ErrFull)
			done(t, j.Append())
			is(t, j, strings.Repeat(zero, 3), 3, 0)
		}
	}
	j := opened(t, blank(t, 0))
	done(t, j.Append())
	refused(t, j.Append(api.Entry{}), api.ErrFull)
	is(t, j, "", 0, 0)
}

func TestP18_1AppendUpToMaxDisk(t *testing.T) {
	j := opened(t, blank(t, api.MaxDisk))
	n := api.MaxDisk / len(zero)
	refused(t, j.Append(make([]api.Entry, n+1)...), api.ErrFull)
	done(t, j.Append(make([]api.Entry, n)...))
	done(t, j.Sync())
	refused(t, j.Append(api.Entry{}), api.ErrFull)
	is(t, j, strings.Repeat(zero, n), n, n)
	opened(t, j.Disk(), make([]api.Entry, n)...)
}

func TestP18_1AppendOfTheLongestEntry(t *testing.T) {
	one := api.Entry{Who: 3, Seq: 1<<31 - 1, S: api.Step{
		K: api.SAround, From: 2046, To: 2048, GapFrom: 2046, GapTo: 2048, Insert: 2048,
		Slice: slices.Repeat([]api.Token{{N: 0x10FFFF, M: api.Code}}, api.MaxDoc),
	}}
	j := opened(t, blank(t, api.MaxDisk))
	done(t, j.Append(one, one))
	is(t, j, framed(t, one, one), 2, 0)
	opened(t, j.Disk(), one, one)
}

func TestP18_1Sync(t *testing.T) {
	j := opened(t, blank(t, 500))
	done(t, j.Sync())
	is(t, j, "", 0, 0)
	done(t, j.Append(api.Entry{}, api.Entry{}))
	is(t, j, zero+zero, 2, 0)
	done(t, j.Sync())
	is(t, j, zero+zero, 2, 2)
	done(t, j.Append(api.Entry{}))
	is(t, j, zero+zero+zero, 3, 2)
	done(t, j.Sync())
	done(t, j.Sync())
	is(t, j, zero+zero+zero, 3, 3)
	if j.Disk().Sure() != 3*len(zero) {
		t.Errorf("%d bytes are sure", j.Disk().Sure())
	}
}

func TestP18_1Crash(t *testing.T) {
	sure, loose := all()[:3], all()[3:]
	whole := len(framed(t, loose...))
	for keep := range whole + 2 {
		n := 0
		for n < len(loose) && len(framed(t, loose[:n+1]...)) <= keep {
			n++
		}
		crashed(t, fresh(t, api.MaxDisk, sure, loose...), keep, all()[:3+n])
	}
	crashed(t, fresh(t, api.MaxDisk, sure, loose...), math.MaxInt, all())
	crashed(t, fresh(t, api.MaxDisk, nil, loose...), 0, nil)
	crashed(t, fresh(t, api.MaxDisk, all()), 0, all())
	crashed(t, fresh(t, 0, nil), 7, nil)
}

// crashed holds what a crash answers against want, and answers the journal of then.
func crashed(t *testing.T, j *Journal, keep int, want []api.Entry) *Journal {
	t.Helper()
	d := j.Disk()
	then, l, e := j.Crash(keep)
	if then == nil || !same(l, want) || e != api.OK || then.Disk() != d {
		t.Fatalf("Crash(%d): %v, %.200v, %d; want %.200v", keep, then, l, e, want)
	}
	is(t, then, framed(t, want...), len(want), len(want))
	return then
}

func TestP18_1CrashRefuses(t *testing.T) {
	for _, keep := range []int{-1, -14, math.MinInt} {
		j := fresh(t, 500, []api.Entry{{}}, typed(1, "x"))
		if then, l, e := j.Crash(keep); then != nil || l != nil || e != api.ErrArg {
			t.Errorf("Crash(%d): %v, %v, %d", keep, then, l, e)
		}
		is(t, j, zero+framed(t, typed(1, "x")), 2, 1)
		done(t, j.Append(api.Entry{}))
		crashed(t, j, 15, []api.Entry{{}, typed(1, "x")})
	}
}

func TestP18_1CrashGoesOn(t *testing.T) {
	j := fresh(t, 500, []api.Entry{{}, {}}, typed(1, "x"))
	j = crashed(t, j, 3, []api.Entry{{}, {}})
	done(t, j.Append(typed(2, "y")))
	is(t, j, zero+zero+framed(t, typed(2, "y")), 3, 2)
	j = crashed(t, j, 100, []api.Entry{{}, {}, typed(2, "y")})
	j = crashed(t, j, 0, []api.Entry{{}, {}, typed(2, "y")})
	done(t, j.Cut(1))
	done(t, j.Append(typed(3, "z")))
	crashed(t, j, 0, []api.Entry{{}})
}

func TestP18_1ListsAreNotShared(t *testing.T) {
	slice := sample.Tokens("abc")
	l := []api.Entry{{S: api.Step{Slice: slice[:2]}}, typed(1, "x"), typed(2, "y")}
	j := opened(t, blank(t, 500))
	done(t, j.Append(l[:2]...))
	if slice[2].N != 'c' || !same(l, []api.Entry{{S: sample.Replace(0, 0, "ab")}, typed(1, "x"), typed(2, "y")}) {
		t.Errorf("Append changed what was handed in: %v", l)
	}
	slice[0].N, l[1].Seq = 'z', 7
	want := []api.Entry{{S: sample.Replace(0, 0, "ab")}, typed(1, "x")}
	opened(t, j.Disk(), want...)
	j, out, e := Open(j.Disk())
	done(t, e)
	out[0].S.Slice[0].N, out[1].Seq = 'z', 7
	_ = append(out[0].S.Slice, slice...)
	_ = append(out[:1], l...)
	opened(t, j.Disk(), want...)
	crashed(t, j, 0, want)
}

func TestP18_1JournalsGoTheirOwnWays(t *testing.T) {
	j := fresh(t, 500, []api.Entry{{}}, typed(1, "x"))
	other := opened(t, j.Disk().Copy(), api.Entry{}, typed(1, "x"))
	done(t, other.Append(typed(2, "y")))
	done(t, j.Cut(0))
	is(t, j, "", 0, 0)
	is(t, other, zero+framed(t, typed(1, "x"), typed(2, "y")), 3, 2)
}

func TestP18_2LenAndSure(t *testing.T) {
	j := opened(t, blank(t, api.MaxDisk))
	for i, one := range all() {
		done(t, j.Append(one))
		is(t, j, framed(t, all()[:i+1]...), i+1, i/2*2)
		if i%2 == 1 {
			done(t, j.Sync())
			is(t, j, framed(t, all()[:i+1]...), i+1, i+1)
		}
	}
}

func TestP18_2SureCountsWholeFrames(t *testing.T) {
	l := all()
	b := framed(t, l...)
	for at := range len(b) + 1 {
		j := fresh(t, api.MaxDisk, nil, l...)
		// A cut and what it took, once more: so many bytes are sure, wherever in a frame that is.
		done(t, j.Disk().Cut(at))
		done(t, j.Disk().Append([]byte(b[at:])))
		n := 0
		for n < len(l) && len(framed(t, l[:n+1]...)) <= at {
			n++
		}
		is(t, j, b, len(l), n)
	}
}

func TestP18_2Cut(t *testing.T) {
	for sure := range len(all()) + 1 {
		for n := range len(all()) + 1 {
			j := fresh(t, api.MaxDisk, all()[:sure], all()[sure:]...)
			done(t, j.Cut(n))
			is(t, j, framed(t, all()[:n]...), n, n)
			refused(t, j.Cut(n+1), api.ErrArg)
			crashed(t, j, 0, all()[:n])
		}
	}
	done(t, fresh(t, 0, nil).Cut(0))
}

func TestP18_2CutRefuses(t *testing.T) {
	for _, n := range []int{-1, math.MinInt, 3, 4, len(zero), math.MaxInt} {
		j := fresh(t, 500, []api.Entry{{}}, typed(1, "x"))
		refused(t, j.Cut(n), api.ErrArg)
		is(t, j, zero+framed(t, typed(1, "x")), 2, 1)
		refused(t, fresh(t, 0, nil).Cut(max(n, 1)), api.ErrArg)
	}
}

func TestP18_2RoomIsBackBehindCuts(t *testing.T) {
	j := fresh(t, 3*len(zero), make([]api.Entry, 2), api.Entry{})
	refused(t, j.Append(api.Entry{}), api.ErrFull)
	done(t, j.Cut(1))
	refused(t, j.Append(make([]api.Entry, 3)...), api.ErrFull)
	one := api.Entry{Who: 2, Seq: 5}
	done(t, j.Append(one, one))
	is(t, j, zero+framed(t, one, one), 3, 1)
	done(t, j.Sync())
	is(t, j, zero+framed(t, one, one), 3, 3)
}

func TestP18_2Disk(t *testing.T) {
	d := blank(t, 100)
	j := opened(t, d)
	done(t, j.Append(api.Entry{}))
	if j.Disk() != d || d.Len() != len(zero) || d.Sure() != 0 {
		t.Errorf("%d bytes, %d sure", d.Len(), d.Sure())
	}
	done(t, j.Cut(0))
	j = crashed(t, j, 0, nil)
	if j.Disk() != d || d.Len() != 0 {
		t.Errorf("%d bytes", d.Len())
	}
}

func TestP18_3JournalThatNoCallMade(t *testing.T) {
	var none *Journal
	for _, j := range []*Journal{none, {}, new(Journal)} {
		for range 2 {
			refused(t, j.Append(), api.ErrZero)
			refused(t, j.Append(all()...), api.ErrZero)
			refused(t, j.Append(api.Entry{Who: -1}), api.ErrZero)
			refused(t, j.Sync(), api.ErrZero)
			for _, n := range []int{0, 1, -1, math.MinInt, math.MaxInt} {
				refused(t, j.Cut(n), api.ErrZero)
				if then, l, e := j.Crash(n); then != nil || l != nil || e != api.ErrZero {
					t.Errorf("Crash(%d): %v, %v, %d", n, then, l, e)
				}
			}
			if j.Len() != 0 || j.Sure() != 0 || j.Disk() != nil {
				t.Errorf("%d entries, %d sure, %v", j.Len(), j.Sure(), j.Disk())
			}
		}
	}
}

// spoken is a journal as the chapter's words tell it: each entry knows whether it is sure.
type spoken struct {
	most int
	l    []line
}

type line struct {
	e    api.Entry
	size int
	sure bool
}

func (s *spoken) size() int {
	n := 0
	for _, one := range s.l {
		n += one.size
	}
	return n
}

func (s *spoken) add(l []line) api.Errno {
	then := spoken{l: slices.Concat(s.l, l)}
	if then.size() > s.most {
		return api.ErrFull
	}
	s.l = then.l
	return api.OK
}

func (s *spoken) sync() api.Errno {
	for i := range s.l {
		s.l[i].sure = true
	}
	return api.OK
}

func (s *spoken) crash(keep int) api.Errno {
	if keep < 0 {
		return api.ErrArg
	}
	var stay []line
	for _, one := range s.l {
		if !one.sure {
			keep -= one.size
		}
		if keep < 0 {
			break
		}
		stay = append(stay, one)
	}
	s.l = stay
	return s.sync()
}

func (s *spoken) cut(n int) api.Errno {
	if n < 0 || n > len(s.l) {
		return api.ErrArg
	}
	s.l = slices.Clone(s.l[:n])
	return s.sync()
}

// parts answers the entries, how many of them are sure.
func (s *spoken) parts() ([]api.Entry, int) {
	var l []api.Entry
	sure := 0
	for _, one := range s.l {
		l = append(l, one.e)
		if one.sure {
			sure++
		}
	}
	return l, sure
}

const (
	actAppend = iota
	actSync
	actCrash
	actCut
	actOpen
)

type act struct {
	k int
	n int
}

// pair is a journal beside what the words tell of it; each entry that is appended is another one.
type pair struct {
	j    *Journal
	s    spoken
	next int
}

func paired(t *testing.T, most int) *pair {
	t.Helper()
	return &pair{j: opened(t, blank(t, most)), s: spoken{most: most}}
}

// made answers n entries that no other call of it answers, each longer by one than the one ahead of it.
func (p *pair) made(t *testing.T, n int) ([]api.Entry, []line) {
	var l []api.Entry
	var told []line
	for i := range n {
		p.next++
		one := api.Entry{Who: p.next % api.MaxClients, Seq: p.next}
		if i > 0 {
			one.S = api.Step{Slice: slices.Repeat([]api.Token{{K: api.TClose}}, i)}
		}
		l = append(l, one)
		told = append(told, line{e: one, size: len(framed(t, one))})
	}
	return l, told
}

// do does one act at both, and tells what both answer.
func (p *pair) do(t *testing.T, a act) (api.Errno, api.Errno) {
	switch a.k {
	case actAppend:
		l, told := p.made(t, a.n)
		return p.j.Append(l...), p.s.add(told)
	case actSync:
		return p.j.Sync(), p.s.sync()
	case actCut:
		return p.j.Cut(a.n), p.s.cut(a.n)
	case actCrash:
		j, l, e := p.j.Crash(a.n)
		want := p.s.crash(a.n)
		p.goOn(t, j, l, e)
		return e, want
	}
	j, l, e := Open(p.j.Disk())
	p.goOn(t, j, l, e)
	return e, p.s.sync()
}

// goOn takes the journal that a call has answered, if it has answered one, and looks at its entries.
func (p *pair) goOn(t *testing.T, j *Journal, l []api.Entry, e api.Errno) {
	if (e == api.OK) != (j != nil) {
		t.Fatalf("%v beside %d", j, e)
	}
	if j == nil {
		return
	}
	p.j = j
	if want, _ := p.s.parts(); !same(l, want) {
		t.Fatalf("the entries are %v, want %v", l, want)
	}
}

// agree tells whether both hold the same.
func (p *pair) agree(t *testing.T) bool {
	l, sure := p.s.parts()
	b := framed(t, l...)
	return string(p.j.Disk().Bytes()) == b && p.j.Len() == len(l) && p.j.Sure() == sure && p.j.Disk().Sure() == len(framed(t, l[:sure]...))
}

func TestP18_1AsTheWordsTell(t *testing.T) {
	acts := []act{
		{actAppend, 0}, {actAppend, 1}, {actAppend, 2}, {actSync, 0}, {actOpen, 0},
		{actCrash, -1}, {actCrash, 0}, {actCrash, 11}, {actCrash, 13}, {actCrash, math.MaxInt},
		{actCut, -1}, {actCut, 0}, {actCut, 1}, {actCut, 3},
	}
	rows := sample.Rows(acts, 4)
	for _, most := range []int{0, 11, 12, 24, 40} {
		for _, row := range rows {
			p := paired(t, most)
			for _, a := range row {
				if got, want := p.do(t, a); got != want {
					t.Fatalf("most %d, %v: the answer of %v is %d, want %d", most, row, a, got, want)
				}
			}
			if !p.agree(t) {
				t.Fatalf("most %d, %v: %d entries, %d sure; want %v", most, row, p.j.Len(), p.j.Sure(), p.s.l)
			}
		}
	}
}

func TestP18_1LongRowsAsTheWordsTell(t *testing.T) {
	for _, most := range []int{0, 20, 100, 1000, 5000} {
		p := paired(t, most)
		kinds, sizes := sample.Mixed(uint32(most), 600, 9), sample.Mixed(uint32(most)+1, 600, 9)
		for i, k := range kinds {
			a := act{k: actAppend, n: sizes[i]}
			switch k {
			case 0, 1:
				a.k = actSync
			case 2:
				a.k, a.n = actCrash, sizes[i]*9-1
			case 3:
				a.k, a.n = actCut, p.j.Len()+1-sizes[i]
			case 4:
				a.k = actOpen
			}
			if got, want := p.do(t, a); got != want || !p.agree(t) {
				t.Fatalf("most %d: the answer of act %d, %v, is %d, want %d", most, i, a, got, want)
			}
		}
	}
}

func TestP18_4WhatIsSureStays(t *testing.T) {
	acts := []act{{actAppend, 1}, {actAppend, 2}, {actSync, 0}, {actCrash, 0}, {actCrash, 12}}
	for _, row := range sample.Rows(acts, 5) {
		p := paired(t, 60)
		for _, a := range row {
			p.do(t, a)
		}
		appended, _ := p.s.parts()
		sure := p.j.Sure()
		loose := p.j.Disk().Len() - p.j.Disk().Sure()
		for keep := range loose + 2 {
			_, l, e := p.crashedCopy(t, keep)
			if e != api.OK || len(l) < sure || len(l) > len(appended) || !same(l, appended[:len(l)]) {
				t.Fatalf("%v, Crash(%d): %v, %d; %d of %v were sure", row, keep, l, e, sure, appended)
			}
		}
	}
}

// crashedCopy crashes a disk that is the same, and opens it.
func (p *pair) crashedCopy(t *testing.T, keep int) (*Journal, []api.Entry, api.Errno) {
	t.Helper()
	d := p.j.Disk().Copy()
	done(t, d.Crash(keep))
	return Open(d)
}

func TestP18_4TheExample(t *testing.T) {
	j := fresh(t, 100, []api.Entry{typed(0, "a"), typed(1, "b")}, typed(2, "c"))
	crashed(t, j, 0, []api.Entry{typed(0, "a"), typed(1, "b")})
}

func TestP18_4WhatWasLostDoesNotComeBack(t *testing.T) {
	first, lost, next := api.Entry{}, typed(2, "y"), typed(3, "z")
	j := fresh(t, 200, []api.Entry{first}, lost, lost)
	j = crashed(t, j, len(framed(t, lost))-1, []api.Entry{first})
	done(t, j.Append(next))
	j = crashed(t, j, math.MaxInt, []api.Entry{first, next})
	done(t, j.Append(lost, lost))
	done(t, j.Cut(2))
	done(t, j.Append(next))
	opened(t, j.Disk(), first, next, next)
}
