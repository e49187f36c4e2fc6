package keeper

import (
	"math"
	"slices"
	"strings"
	"testing"

	"emender/api"
	"emender/codec"
	"emender/disk"
	"emender/journal"
	"emender/sample"
	"emender/schema"
	"emender/step"
)

// put answers the entry that puts text in at a place.
func put(who int, seq int, at int, text string) api.Entry {
	return api.Entry{Who: who, Seq: seq, S: sample.Replace(at, at, text)}
}

// all are entries of all clients and kinds of steps that stand one behind the other from an empty para on.
func all() []api.Entry {
	return []api.Entry{
		put(0, 0, 1, "ab"),
		put(1, 7, 3, "c"),
		{Who: 0, Seq: 1, S: api.Step{K: api.SMark, From: 1, To: 4, Mark: api.Em}},
		{Who: 3, Seq: 1<<31 - 1, S: sample.Around(0, 0, 5, 5, "(", ")")},
		{Who: 1, Seq: 300, S: api.Step{K: api.SUnmark, From: 2, To: 3, Mark: api.Em}},
		{Who: 2, Seq: 5, S: sample.Replace(3, 3, "><")},
		put(2, 6, 0, "[{<long>}]_"),
		put(0, 2, 0, ""),
	}
}

func blank(t *testing.T, most int) *disk.Disk {
	t.Helper()
	d, e := disk.New(most)
	done(t, e)
	return d
}

// holding answers a disk that holds a log, of which the first sure are.
func holding(t *testing.T, sure int, l ...api.Entry) *disk.Disk {
	t.Helper()
	d := blank(t, api.MaxDisk)
	j, _, e := journal.Open(d)
	done(t, e)
	done(t, j.Append(l[:sure]...))
	done(t, j.Sync())
	done(t, j.Append(l[sure:]...))
	return d
}

// made answers the keeper of first and d, whose log must be want.
func made(t *testing.T, first string, d *disk.Disk, want ...api.Entry) *Keeper {
	t.Helper()
	k, e := New(sample.Tokens(first), d)
	if k == nil || e != api.OK {
		t.Fatalf("New(%s): %v, %d", first, k, e)
	}
	is(t, k, first, d, len(want), want...)
	return k
}

// fresh answers a keeper of an empty para, with entries that are sure and others that are not, and its disk.
func fresh(t *testing.T, sure []api.Entry, loose ...api.Entry) (*Keeper, *disk.Disk) {
	t.Helper()
	d := holding(t, len(sure), sure...)
	k := made(t, "<>", d, sure...)
	for _, one := range loose {
		done(t, k.Submit(one.Who, k.Version(), []api.Entry{one}))
	}
	is(t, k, "<>", d, len(sure), slices.Concat(sure, loose)...)
	return k, d
}

func done(t *testing.T, e api.Errno) {
	t.Helper()
	refused(t, e, api.OK)
}

func refused(t *testing.T, e api.Errno, want api.Errno) {
	t.Helper()
	if e != want {
		t.Errorf("the answer is %d, want %d", e, want)
	}
}

// is holds all that a keeper tells, and the bytes of its disk, against its first document, how many entries are sure, and the log.
func is(t *testing.T, k *Keeper, first string, d *disk.Disk, sure int, log ...api.Entry) {
	t.Helper()
	if k.Version() != len(log) || k.Sure() != sure || !same(k.Log(), log) {
		t.Errorf("%d entries, %d sure, %v; want %d, %d, %v", k.Version(), k.Sure(), k.Log(), len(log), sure, log)
	}
	if want := folded(t, sample.Tokens(first), log); !slices.Equal(k.Doc(), want) {
		t.Errorf("the document is %v, want %v", k.Doc(), want)
	}
	for who := -1; who <= api.MaxClients; who++ {
		if got, want := k.Last(who), lastOf(log, who); got != want {
			t.Errorf("Last(%d): %d, want %d", who, got, want)
		}
	}
	for v := range sure + 1 {
		if l, e := k.Since(v); !same(l, log[v:sure]) || e != api.OK {
			t.Errorf("Since(%d): %v, %d; want %v", v, l, e, log[v:sure])
		}
	}
	for _, v := range []int{math.MinInt, -1, sure + 1, len(log) + 1, math.MaxInt} {
		if l, e := k.Since(v); l != nil || e != api.ErrArg {
			t.Errorf("Since(%d): %v, %d", v, l, e)
		}
	}
	b := framed(t, log...)
	if string(d.Bytes()) != b || d.Sure() != len(framed(t, log[:sure]...)) {
		t.Errorf("the disk has %.200x, %d sure; want %.200x", d.Bytes(), d.Sure(), b)
	}
}

// folded answers first with the steps of a log done; each may be done, and each document is valid.
func folded(t *testing.T, first []api.Token, log []api.Entry) []api.Token {
	t.Helper()
	doc := first
	for i, one := range log {
		next, e := step.Apply(doc, one.S)
		done(t, e)
		doc = next
		if at, e := schema.House().Check(doc); e != api.OK {
			t.Errorf("the document at %d: %d, %d", i+1, at, e)
		}
	}
	return doc
}

func lastOf(log []api.Entry, who int) int {
	last := -1
	for _, one := range log {
		if one.Who == who {
			last = one.Seq
		}
	}
	return last
}

func framed(t *testing.T, l ...api.Entry) string {
	t.Helper()
	var b strings.Builder
	for _, one := range l {
		inner, e := codec.PutEntry(one)
		done(t, e)
		f, e := codec.Wrap(inner)
		done(t, e)
		b.Write(f)
	}
	return b.String()
}

func same(a []api.Entry, b []api.Entry) bool {
	return slices.EqualFunc(a, b, func(x, y api.Entry) bool {
		return x.Who == y.Who && x.Seq == y.Seq && step.Same(x.S, y.S)
	})
}

// many answers n entries of one client that put in nothing.
func many(n int) []api.Entry {
	l := make([]api.Entry, n)
	for i := range l {
		l[i] = put(0, i, 0, "")
	}
	return l
}

func TestP19_1New(t *testing.T) {
	for _, first := range []string{"<>", "<ab>", "(<B>)_", "[{<x>}{#'}]`a\n'", strings.Repeat("<>", api.MaxDoc/2)} {
		made(t, first, blank(t, api.MaxDisk))
		made(t, first, blank(t, 0))
	}
}

func TestP19_1NewRefuses(t *testing.T) {
	var none *disk.Disk
	for _, x := range []struct {
		first []api.Token
		want  api.Errno
	}{
		{nil, api.ErrValid},
		{[]api.Token{}, api.ErrValid},
		{sample.Tokens("a"), api.ErrValid},
		{sample.Tokens("<<>>"), api.ErrValid},
		{sample.Tokens("[]"), api.ErrValid},
		{sample.Tokens("<a!>"), api.ErrForm},
		{sample.Tokens("<>>"), api.ErrForm},
		{sample.Tokens("<a"), api.ErrShort},
		{slices.Repeat(sample.Tokens("<>"), api.MaxDoc/2+1), api.ErrLong},
		{slices.Repeat(sample.Tokens("("), api.MaxDeep+1), api.ErrDeep},
	} {
		d := holding(t, 1, all()...)
		done(t, d.Append([]byte("torn")))
		b := string(d.Bytes())
		for _, on := range []*disk.Disk{d, nil, none, {}} {
			if k, e := New(x.first, on); k != nil || e != x.want {
				t.Errorf("New(%v): %v, %d; want %d", x.first, k, e, x.want)
			}
		}
		if string(d.Bytes()) != b || d.Sure() != len(framed(t, all()[0])) {
			t.Errorf("New(%v) has changed the disk", x.first)
		}
	}
	for _, on := range []*disk.Disk{nil, none, {}} {
		if k, e := New(sample.Tokens("<>"), on); k != nil || e != api.ErrZero {
			t.Errorf("New: %v, %d", k, e)
		}
	}
}

func TestP19_1NewOfALog(t *testing.T) {
	for n := range len(all()) + 1 {
		for sure := range n + 1 {
			d := holding(t, sure, all()[:n]...)
			made(t, "<>", d, all()[:n]...)
			made(t, "<>", d, all()[:n]...)
			done(t, d.Append([]byte("torn")))
			made(t, "<>", d, all()[:n]...)
		}
	}
	made(t, "<z>", holding(t, 0, all()...), all()...)
	made(t, "(<>)", holding(t, 0, put(0, 5, 2, "x"), put(0, 6, 3, "y")), put(0, 5, 2, "x"), put(0, 6, 3, "y"))
}

// TestP19_1NewCuts: what is behind an entry that can't stand there is gone, also what could stand without it.
func TestP19_1NewCuts(t *testing.T) {
	for _, x := range []struct {
		first string
		l     []api.Entry
		stand int
	}{
		{"<>", []api.Entry{put(0, 3, 1, "a"), put(0, 3, 1, "b"), put(1, 0, 1, "c")}, 1},
		{"<>", []api.Entry{put(0, 3, 1, "a"), put(0, 2, 1, "b"), put(0, 4, 1, "c")}, 1},
		{"<>", []api.Entry{put(0, 3, 1, "a"), put(1, 2, 1, "b"), put(0, 1, 1, "c"), put(0, 9, 1, "d")}, 2},
		{"<>", []api.Entry{put(0, 3, 1, "a"), put(1, 2, 1, "b"), put(2, 0, 1, "c"), put(1, 2, 1, "d")}, 3},
		{"<>", []api.Entry{put(0, 1<<31-1, 1, "a"), put(0, 1<<31-1, 1, "b")}, 1},
		{"<>", []api.Entry{put(0, 0, 0, "a"), put(0, 1, 1, "b")}, 0},
		{"<>", []api.Entry{put(0, 0, 1, "a"), put(0, 1, 4, "<>"), put(0, 2, 1, "b")}, 1},
		{"<>", []api.Entry{put(0, 0, 1, "a"), put(0, 1, 1, ">"), put(0, 2, 1, "b")}, 1},
		{"<>", []api.Entry{put(0, 0, 1, "a"), {Seq: 1, S: sample.Replace(0, 3, "")}, put(0, 2, 1, "b")}, 1},
		{"<ab>", []api.Entry{{S: sample.Replace(1, 3, "")}, {Seq: 1, S: sample.Replace(1, 3, "")}}, 1},
		{strings.Repeat("<>", api.MaxDoc/2), []api.Entry{put(0, 0, 0, ""), put(0, 1, 0, "_"), put(0, 2, 0, "")}, 1},
	} {
		for sure := range len(x.l) + 1 {
			d := holding(t, sure, x.l...)
			k := made(t, x.first, d, x.l[:x.stand]...)
			done(t, k.Crash(math.MaxInt))
			is(t, k, x.first, d, x.stand, x.l[:x.stand]...)
		}
	}
}

// TestP19_1NewOfAnotherFirst: what stood behind one document need not behind another.
func TestP19_1NewOfAnotherFirst(t *testing.T) {
	k, d := fresh(t, nil, put(0, 0, 1, "ab"), put(1, 0, 0, "_"), put(0, 1, 4, "c"))
	made(t, "`'", d.Copy(), k.Log()...)
	made(t, "_", d.Copy())
	made(t, "(<>)", d.Copy())
	made(t, "<>", d.Copy(), k.Log()...)
	is(t, k, "<>", d, 0, k.Log()...)
}

func TestP19_1NewUpToMaxLog(t *testing.T) {
	for _, n := range []int{api.MaxLog - 1, api.MaxLog, api.MaxLog + 1, api.MaxLog + 300} {
		d := holding(t, 0, many(n)...)
		k := made(t, "<>", d, many(min(n, api.MaxLog))...)
		if n >= api.MaxLog {
			refused(t, k.Submit(1, api.MaxLog, []api.Entry{put(1, 0, 1, "x")}), api.ErrFull)
		}
	}
}

func TestP19_1Submit(t *testing.T) {
	d := blank(t, 500)
	k := made(t, "<>", d)
	a := []api.Entry{put(0, 0, 1, "a"), put(0, 3, 2, "b")}
	done(t, k.Submit(0, 0, a))
	is(t, k, "<>", d, 0, a...)
	b := []api.Entry{put(2, 0, 1, "c")}
	done(t, k.Submit(2, 2, b))
	is(t, k, "<>", d, 0, slices.Concat(a, b)...)
	c := []api.Entry{put(0, 4, 4, "d"), put(0, 900, 0, "_"), {Seq: 901, S: sample.Replace(1, 7, "")}}
	done(t, k.Submit(0, 3, c))
	is(t, k, "<>", d, 0, slices.Concat(a, b, c)...)
	if !slices.Equal(k.Doc(), sample.Tokens("_")) {
		t.Errorf("the document is %v", k.Doc())
	}
}

func TestP19_1SubmitOfAllKinds(t *testing.T) {
	k, d := fresh(t, nil, all()...)
	done(t, k.Sync())
	is(t, k, "<>", d, len(all()), all()...)
}

func TestP19_1SubmitOfWholeBatches(t *testing.T) {
	for n := 1; n <= api.MaxBatch; n++ {
		for who := range api.MaxClients {
			k, d := fresh(t, []api.Entry{put(who, 7, 1, "x")})
			var l []api.Entry
			for i := range n {
				l = append(l, put(who, 8+2*i, 1+i, "y"))
			}
			done(t, k.Submit(who, 1, l))
			is(t, k, "<>", d, 1, slices.Concat([]api.Entry{put(who, 7, 1, "x")}, l)...)
		}
	}
}

func TestP19_1SubmitRefuses(t *testing.T) {
	right := put(1, 5, 1, "x")
	form, valid := put(1, 4, 1, "x"), put(1, 5, 0, "x")
	for _, x := range []struct {
		who, version int
		l            []api.Entry
		want         api.Errno
	}{
		{-1, 2, []api.Entry{put(-1, 5, 1, "x")}, api.ErrArg},
		{4, 2, []api.Entry{put(4, 5, 1, "x")}, api.ErrArg},
		{math.MinInt, 2, []api.Entry{right}, api.ErrArg},
		{math.MaxInt, 2, []api.Entry{right}, api.ErrArg},
		{1, 2, nil, api.ErrArg},
		{1, 2, []api.Entry{}, api.ErrArg},
		{1, 2, many(api.MaxBatch + 1), api.ErrArg},
		{1, 2, many(api.MaxLog), api.ErrArg},
		{4, 1, []api.Entry{right}, api.ErrArg},
		{1, 1, nil, api.ErrArg},
		{1, 1, many(api.MaxBatch + 1), api.ErrArg},
		{1, 1, []api.Entry{right}, api.ErrStale},
		{1, 3, []api.Entry{right}, api.ErrStale},
		{1, 0, []api.Entry{right}, api.ErrStale},
		{1, -1, []api.Entry{right}, api.ErrStale},
		{1, math.MaxInt, []api.Entry{right}, api.ErrStale},
		{1, math.MinInt, []api.Entry{right}, api.ErrStale},
		{1, 1, []api.Entry{form}, api.ErrStale},
		{1, 1, []api.Entry{valid}, api.ErrStale},
		{0, 2, []api.Entry{right}, api.ErrForm},
		{2, 2, []api.Entry{right}, api.ErrForm},
		{1, 2, []api.Entry{put(0, 5, 1, "x")}, api.ErrForm},
		{1, 2, []api.Entry{put(4, 5, 1, "x")}, api.ErrForm},
		{1, 2, []api.Entry{put(-1, 5, 1, "x")}, api.ErrForm},
		{1, 2, []api.Entry{form}, api.ErrForm},
		{1, 2, []api.Entry{put(1, 0, 1, "x")}, api.ErrForm},
		{2, 2, []api.Entry{put(2, -1, 1, "x")}, api.ErrForm},
		{2, 2, []api.Entry{put(2, math.MinInt, 1, "x")}, api.ErrForm},
		{1, 2, []api.Entry{put(1, 1<<31, 1, "x")}, api.ErrForm},
		{1, 2, []api.Entry{put(1, math.MaxInt, 1, "x")}, api.ErrForm},
		{1, 2, []api.Entry{right, right}, api.ErrForm},
		{1, 2, []api.Entry{right, form}, api.ErrForm},
		{1, 2, []api.Entry{right, put(0, 6, 1, "x")}, api.ErrForm},
		{1, 2, []api.Entry{right, put(1, 9, 1, "y"), put(1, 8, 1, "z")}, api.ErrForm},
		{1, 2, []api.Entry{put(1, 1<<31-1, 1, "x"), put(1, 1<<31-1, 1, "y")}, api.ErrForm},
		{1, 2, []api.Entry{put(1, 4, 0, "x")}, api.ErrForm},
		{1, 2, []api.Entry{put(0, 5, 0, "x")}, api.ErrForm},
		{1, 2, []api.Entry{form, valid}, api.ErrForm},
		{1, 2, []api.Entry{valid}, api.ErrValid},
		{1, 2, []api.Entry{valid, form}, api.ErrValid},
		{1, 2, []api.Entry{valid, put(0, 6, 1, "x")}, api.ErrValid},
		{1, 2, []api.Entry{right, put(1, 6, 0, "x")}, api.ErrValid},
		{1, 2, []api.Entry{put(1, 5, 1, ">")}, api.ErrValid},
		{1, 2, []api.Entry{put(1, 5, 1, "<>")}, api.ErrValid},
		{1, 2, []api.Entry{put(1, 5, 1, "!")}, api.ErrValid},
		{1, 2, []api.Entry{put(1, 5, 5, "<>")}, api.ErrValid},
		{1, 2, []api.Entry{put(1, 5, -1, "<>")}, api.ErrValid},
		{1, 2, []api.Entry{{Who: 1, Seq: 5, S: sample.Replace(0, 4, "")}}, api.ErrValid},
		{1, 2, []api.Entry{{Who: 1, Seq: 5, S: sample.Replace(2, 1, "")}}, api.ErrValid},
		{1, 2, []api.Entry{{Who: 1, Seq: 5, S: api.Step{K: 4}}}, api.ErrValid},
		{1, 2, []api.Entry{{Who: 1, Seq: 5, S: api.Step{Mark: 1}}}, api.ErrValid},
		{1, 2, []api.Entry{{Who: 1, Seq: 5, S: api.Step{Slice: slices.Repeat(sample.Tokens("_"), api.MaxDoc-3)}}}, api.ErrValid},
		{1, 2, []api.Entry{{Who: 1, Seq: 5, S: api.Step{Slice: slices.Repeat(sample.Tokens("_"), api.MaxDoc+1)}}}, api.ErrValid},
		{1, 2, []api.Entry{put(1, 5, 0, strings.Repeat("(", 32)+"<>"+strings.Repeat(")", 32))}, api.ErrValid},
		{1, 2, []api.Entry{right, {Who: 1, Seq: 6, S: sample.Replace(0, 5, "")}}, api.ErrValid},
	} {
		log := []api.Entry{put(0, 8, 1, "a"), put(1, 4, 2, "b")}
		k, d := fresh(t, log[:1], log[1])
		if e := k.Submit(x.who, x.version, x.l); e != x.want {
			t.Errorf("Submit(%d, %d, %v): %d, want %d", x.who, x.version, x.l, e, x.want)
		}
		is(t, k, "<>", d, 1, log...)
		done(t, k.Submit(1, 2, []api.Entry{right}))
		is(t, k, "<>", d, 1, log[0], log[1], right)
	}
}

func TestP19_1SubmitOfTheGreatestSeq(t *testing.T) {
	k, d := fresh(t, nil)
	l := []api.Entry{put(3, 1<<31-2, 1, "a"), put(3, 1<<31-1, 1, "b")}
	done(t, k.Submit(3, 0, l))
	refused(t, k.Submit(3, 2, []api.Entry{put(3, 1<<31, 1, "c")}), api.ErrForm)
	refused(t, k.Submit(3, 2, []api.Entry{put(3, 1<<31-1, 1, "c")}), api.ErrForm)
	is(t, k, "<>", d, 0, l...)
}

func TestP19_1SubmitUpToMaxDoc(t *testing.T) {
	first := strings.Repeat("<>", api.MaxDoc/2-1)
	d := blank(t, 500)
	k := made(t, first, d)
	l := []api.Entry{put(0, 0, 0, "__"), put(0, 1, 0, "_")}
	refused(t, k.Submit(0, 0, l), api.ErrValid)
	done(t, k.Submit(0, 0, l[:1]))
	refused(t, k.Submit(0, 1, l[1:]), api.ErrValid)
	is(t, k, first, d, 0, l[:1]...)
}

// TestP19_1SubmitUpToMaxLog: each entry is looked at whole, ahead of those behind it.
func TestP19_1SubmitUpToMaxLog(t *testing.T) {
	for _, spare := range []int{0, 1, 5} {
		n := api.MaxLog - spare
		d := holding(t, n, many(n)...)
		k := made(t, "<>", d, many(n)...)
		seq := func(l ...api.Entry) []api.Entry {
			out := slices.Clone(many(n + spare)[n:])
			return append(out, l...)
		}
		for _, x := range []struct {
			l    []api.Entry
			want api.Errno
		}{
			{seq(put(0, 2000, 1, "x")), api.ErrFull},
			{seq(put(0, 2000, 1, "x"), put(0, 2001, 1, "y")), api.ErrFull},
			{seq(put(0, 2000, 1, "x"), put(0, 2000, 1, "y")), api.ErrFull},
			{seq(put(0, 2000, 1, "x"), put(0, 2001, 0, "y")), api.ErrFull},
			{seq(put(0, 0, 1, "x")), api.ErrForm},
			{seq(put(1, 0, 1, "x")), api.ErrForm},
			{seq(put(0, 2000, 0, "x")), api.ErrValid},
		} {
			refused(t, k.Submit(0, n, x.l), x.want)
		}
		refused(t, k.Submit(0, n+1, seq(put(0, 2000, 1, "x"))), api.ErrStale)
		refused(t, k.Submit(0, n, nil), api.ErrArg)
		is(t, k, "<>", d, n, many(n)...)
		if spare > 0 {
			done(t, k.Submit(0, n, seq()))
			is(t, k, "<>", d, n, many(api.MaxLog)...)
		}
	}
}

func TestP19_1SubmitUpToTheDisk(t *testing.T) {
	l := []api.Entry{put(0, 0, 1, "a"), put(0, 1, 1, "b"), put(0, 2, 1, "c")}
	for most := range len(framed(t, l...)) + 2 {
		d := blank(t, most)
		k := made(t, "<>", d)
		n := 0
		for n < len(l) && len(framed(t, l[:n+1]...)) <= most {
			n++
		}
		if n < len(l) {
			refused(t, k.Submit(0, 0, l), api.ErrFull)
			refused(t, k.Submit(0, 0, l[:n+1]), api.ErrFull)
			refused(t, k.Submit(0, 0, append(l[:n+1:n+1], put(0, 0, 1, "x"))), api.ErrForm)
			refused(t, k.Submit(0, 0, append(l[:n+1:n+1], put(0, 9, 0, "x"))), api.ErrValid)
		}
		is(t, k, "<>", d, 0)
		if n > 0 {
			done(t, k.Submit(0, 0, l[:n]))
		}
		is(t, k, "<>", d, 0, l[:n]...)
	}
}

func TestP19_2Sync(t *testing.T) {
	k, d := fresh(t, all()[:2], all()[2:]...)
	for range 2 {
		done(t, k.Sync())
		is(t, k, "<>", d, len(all()), all()...)
	}
	done(t, k.Submit(0, len(all()), []api.Entry{put(0, 99, 0, "_")}))
	is(t, k, "<>", d, len(all()), append(all(), put(0, 99, 0, "_"))...)
	done(t, made(t, "<>", blank(t, 0)).Sync())
}

func TestP19_2Crash(t *testing.T) {
	for sure := range len(all()) + 1 {
		loose := all()[sure:]
		for keep := range len(framed(t, loose...)) + 2 {
			n := 0
			for n < len(loose) && len(framed(t, loose[:n+1]...)) <= keep {
				n++
			}
			k, d := fresh(t, all()[:sure], loose...)
			done(t, k.Crash(keep))
			is(t, k, "<>", d, sure+n, all()[:sure+n]...)
		}
	}
	k, d := fresh(t, all()[:3], all()[3:]...)
	done(t, k.Crash(math.MaxInt))
	is(t, k, "<>", d, len(all()), all()...)
}

func TestP19_2CrashRefuses(t *testing.T) {
	for _, keep := range []int{-1, -20, math.MinInt} {
		k, d := fresh(t, all()[:2], all()[2:]...)
		refused(t, k.Crash(keep), api.ErrArg)
		is(t, k, "<>", d, 2, all()...)
	}
}

// TestP19_2CrashGoesOn: what a crash took is no more in the document, nor in the Seqs.
func TestP19_2CrashGoesOn(t *testing.T) {
	k, d := fresh(t, []api.Entry{put(0, 4, 1, "a")}, put(0, 5, 2, "b"), put(1, 0, 1, "c"))
	done(t, k.Crash(0))
	is(t, k, "<>", d, 1, put(0, 4, 1, "a"))
	refused(t, k.Submit(1, 3, []api.Entry{put(1, 0, 1, "d")}), api.ErrStale)
	refused(t, k.Submit(0, 1, []api.Entry{put(0, 4, 1, "d")}), api.ErrForm)
	refused(t, k.Submit(0, 1, []api.Entry{put(0, 5, 4, "d")}), api.ErrValid)
	done(t, k.Submit(0, 1, []api.Entry{put(0, 5, 1, "d")}))
	done(t, k.Submit(1, 2, []api.Entry{put(1, 0, 1, "e")}))
	is(t, k, "<>", d, 1, put(0, 4, 1, "a"), put(0, 5, 1, "d"), put(1, 0, 1, "e"))
	done(t, k.Sync())
	done(t, k.Crash(0))
	is(t, k, "<>", d, 3, put(0, 4, 1, "a"), put(0, 5, 1, "d"), put(1, 0, 1, "e"))
}

// TestP19_2CrashMakesAnew: a crash does what New does, also at bytes that came to the disk beside the keeper.
func TestP19_2CrashMakesAnew(t *testing.T) {
	for _, x := range []struct {
		beside []api.Entry
		stand  int
	}{
		{[]api.Entry{put(1, 0, 1, "b"), put(0, 5, 1, "c")}, 2},
		{[]api.Entry{put(0, 4, 1, "b"), put(0, 5, 1, "c")}, 0},
		{[]api.Entry{put(0, 5, 1, "b"), put(0, 6, 0, "c"), put(0, 7, 1, "d")}, 1},
	} {
		ahead := put(0, 4, 1, "a")
		k, d := fresh(t, []api.Entry{ahead})
		done(t, d.Append([]byte(framed(t, x.beside...)+"torn")))
		done(t, k.Crash(math.MaxInt))
		log := append([]api.Entry{ahead}, x.beside[:x.stand]...)
		is(t, k, "<>", d, len(log), log...)
		made(t, "<>", d, log...)
	}
}

func TestP19_2NothingYet(t *testing.T) {
	k, d := fresh(t, nil)
	done(t, k.Sync())
	done(t, k.Crash(5))
	is(t, k, "<>", d, 0)
	if k.Last(0) != -1 || k.Last(math.MinInt) != -1 || k.Last(math.MaxInt) != -1 {
		t.Errorf("Last: %d", k.Last(0))
	}
}

func TestP19_3NilAndUnmade(t *testing.T) {
	var none *Keeper
	for _, k := range []*Keeper{nil, none, {}, new(Keeper)} {
		for range 2 {
			refused(t, k.Submit(0, 0, []api.Entry{put(0, 0, 1, "x")}), api.ErrZero)
			refused(t, k.Submit(9, 7, nil), api.ErrZero)
			refused(t, k.Sync(), api.ErrZero)
			refused(t, k.Crash(0), api.ErrZero)
			refused(t, k.Crash(-1), api.ErrZero)
			for _, v := range []int{-1, 0, 1} {
				if l, e := k.Since(v); l != nil || e != api.ErrZero {
					t.Errorf("Since(%d): %v, %d", v, l, e)
				}
				if k.Last(v) != -1 {
					t.Errorf("Last(%d): %d", v, k.Last(v))
				}
			}
			if k.Version() != 0 || k.Sure() != 0 || k.Doc() != nil || k.Log() != nil {
				t.Errorf("%d, %d, %v, %v", k.Version(), k.Sure(), k.Doc(), k.Log())
			}
		}
	}
}

func TestListsAreNotShared(t *testing.T) {
	first, text := sample.Tokens("<yz>"), sample.Tokens("abc")
	d := blank(t, 500)
	k, e := New(first[:4], d)
	done(t, e)
	l := []api.Entry{{S: api.Step{From: 1, To: 1, Slice: text[:2]}}, put(0, 1, 1, "x"), put(1, 0, 1, "w")}
	done(t, k.Submit(0, 0, l[:2]))
	want := []api.Entry{put(0, 0, 1, "ab"), put(0, 1, 1, "x")}
	if !same(l[:2], want) || text[2].N != 'c' || l[2].Who != 1 || !slices.Equal(first, sample.Tokens("<yz>")) {
		t.Errorf("what was handed in has changed: %v, %v", l, first)
	}
	first[1].N, text[0].N, l[1].Seq = 'q', 'q', 9
	is(t, k, "<yz>", d, 0, want...)
	done(t, k.Sync())
	for range 2 {
		since, e := k.Since(0)
		done(t, e)
		for _, out := range [][]api.Entry{since, k.Log()} {
			out[0].S.Slice[0].N, out[1].Seq = 'q', 9
			_ = append(out[0].S.Slice, text...)
			_ = append(out[:1], put(3, 3, 3, "q"))
		}
		doc := k.Doc()
		doc[1].N = 'q'
		_ = append(doc[:2], text...)
		is(t, k, "<yz>", d, 2, want...)
		done(t, k.Crash(0))
		is(t, k, "<yz>", d, 2, want...)
	}
}

func TestKeepersGoTheirOwnWays(t *testing.T) {
	k, d := fresh(t, all()[:1], all()[1])
	there := d.Copy()
	other := made(t, "<>", there, all()[:2]...)
	done(t, other.Submit(1, 2, []api.Entry{put(1, 8, 1, "o")}))
	done(t, k.Submit(0, 2, []api.Entry{put(0, 3, 1, "k")}))
	is(t, k, "<>", d, 1, all()[0], all()[1], put(0, 3, 1, "k"))
	is(t, other, "<>", there, 2, all()[0], all()[1], put(1, 8, 1, "o"))
	done(t, k.Crash(0))
	is(t, other, "<>", there, 2, all()[0], all()[1], put(1, 8, 1, "o"))
}
