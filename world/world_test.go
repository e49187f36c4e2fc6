package world

import (
	"fmt"
	"math"
	"slices"
	"strings"
	"testing"

	"emender/api"
	"emender/client"
	"emender/codec"
	"emender/keeper"
	"emender/sample"
	"emender/step"
)

// fresh answers a new world on a disk of MaxDisk.
func fresh(t *testing.T, first string, clients int) *World {
	t.Helper()
	return on(t, first, clients, api.MaxDisk)
}

func on(t *testing.T, first string, clients int, most int) *World {
	t.Helper()
	w, e := New(sample.Tokens(first), clients, most)
	if w == nil || e != api.OK {
		t.Fatalf("New(%s, %d, %d): %v, %d", first, clients, most, w, e)
	}
	return w
}

// does does acts, none of which may be refused.
func does(t *testing.T, w *World, l ...api.Act) {
	t.Helper()
	for _, a := range l {
		if e := w.Do(a); e != api.OK {
			t.Errorf("Do(%s): %d", short(a), e)
		}
	}
}

// refuses does acts that must be refused, and change nothing.
func refuses(t *testing.T, w *World, want api.Errno, l ...api.Act) {
	t.Helper()
	before := shot(w)
	for _, a := range l {
		if e := w.Do(a); e != want {
			t.Errorf("Do(%s): %d, want %d", short(a), e, want)
		}
		if shot(w) != before {
			t.Fatalf("Do(%s) has changed %s to %s", short(a), short(before), short(shot(w)))
		}
	}
}

// changesNothing does acts that are not refused, but do nothing.
func changesNothing(t *testing.T, w *World, l ...api.Act) {
	t.Helper()
	refuses(t, w, api.OK, l...)
}

func done(t *testing.T, e api.Errno) {
	t.Helper()
	if e != api.OK {
		t.Errorf("the answer is %d", e)
	}
}

// short tells what may be long.
func short(v any) string {
	return fmt.Sprintf("%.300s", fmt.Sprintf("%v", v))
}

// shot tells all of a world.
func shot(w *World) string {
	return shotOf(w.Keeper(), w.clients, w.moving)
}

func shotOf(k *keeper.Keeper, clients []*client.Client, moving []letter) string {
	var s strings.Builder
	fmt.Fprintln(&s, "keeper", k.Version(), k.Sure(), k.Doc(), k.Log())
	for _, c := range clients {
		fmt.Fprintln(&s, "client", c.Version(), c.Seq(), c.Lost(), c.Doc(), c.Confirmed(), c.Pending())
	}
	for _, one := range moving {
		fmt.Fprintln(&s, "moving", one.to, one.bytes)
	}
	return s.String()
}

// docs holds the documents of the keeper and of each client against want.
func docs(t *testing.T, w *World, keeper string, clients ...string) {
	t.Helper()
	if !slices.Equal(w.Keeper().Doc(), sample.Tokens(keeper)) {
		t.Errorf("the keeper has %s, want %s", short(w.Keeper().Doc()), keeper)
	}
	for i, want := range clients {
		if got := w.Client(i).Doc(); !slices.Equal(got, sample.Tokens(want)) {
			t.Errorf("client %d has %s, want %s", i, short(got), want)
		}
	}
}

// inserts answers the act by which a client puts text at a place.
func inserts(who int, at int, n rune) api.Act {
	return api.Act{K: api.AEdit, A: who, B: api.CInsert, C: at, N: int(n)}
}

func asks(who int) api.Act     { return api.Act{K: api.AAsk, A: who} }
func submits(who int) api.Act  { return api.Act{K: api.ASubmit, A: who} }
func delivers(i int) api.Act   { return api.Act{K: api.ADeliver, A: i} }
func drops(i int) api.Act      { return api.Act{K: api.ADrop, A: i} }
func twice(i int) api.Act      { return api.Act{K: api.ATwice, A: i} }
func crashes(keep int) api.Act { return api.Act{K: api.ACrash, A: keep} }
func syncs() api.Act           { return api.Act{K: api.ASync} }

func injects(to int, b []byte) api.Act {
	return api.Act{K: api.AInject, A: to, Bytes: b}
}

// put answers the entry that puts text in at a place.
func put(who int, seq int, at int, text string) api.Entry {
	return api.Entry{Who: who, Seq: seq, S: sample.Replace(at, at, text)}
}

// framed answers the bytes of a message.
func framed(t *testing.T, m api.Msg) []byte {
	t.Helper()
	b, e := codec.PutMsg(m)
	done(t, e)
	b, e = codec.Wrap(b)
	done(t, e)
	return b
}

// onWay holds what is on its way against want: to whom, and which messages.
func onWay(t *testing.T, w *World, want ...api.Msg) {
	t.Helper()
	if w.Moving() != len(want) || len(w.moving) != len(want) {
		t.Errorf("%d on their way, want %d", w.Moving(), len(want))
		return
	}
	for i, m := range want {
		to := -1
		if m.K == api.MTold {
			to = m.Who
		}
		one := w.moving[i]
		if b := framed(t, m); one.to != to || !slices.Equal(one.bytes, b) {
			t.Errorf("the message %d is to %d, %x; want %d, %x", i, one.to, one.bytes, to, b)
		}
	}
}

// logs holds the log, and how much of it is sure, against want.
func logs(t *testing.T, w *World, sure int, want ...api.Entry) {
	t.Helper()
	k := w.Keeper()
	if !same(k.Log(), want) || k.Version() != len(want) || k.Sure() != sure {
		t.Errorf("the log is %s, %d sure; want %s, %d", short(k.Log()), k.Sure(), short(want), sure)
	}
}

func same(a []api.Entry, b []api.Entry) bool {
	return slices.EqualFunc(a, b, func(x, y api.Entry) bool {
		return x.Who == y.Who && x.Seq == y.Seq && step.Same(x.S, y.S)
	})
}

// stranger is one whose entries the keeper takes, though small worlds have no such client.
const stranger = 3

// filled puts n entries that put in nothing into the log, all of them sure.
func filled(t *testing.T, w *World, n int) {
	t.Helper()
	k := w.Keeper()
	for k.Version() < n {
		var l []api.Entry
		for i := range min(api.MaxBatch, n-k.Version()) {
			l = append(l, put(stranger, k.Version()+i, 0, ""))
		}
		done(t, k.Submit(stranger, k.Version(), l))
	}
	done(t, k.Sync())
}

// heavy puts entries into the log, each of which writes all of one para anew; all are sure.
func heavy(t *testing.T, w *World, n int, size int) {
	t.Helper()
	k := w.Keeper()
	for range n {
		s := api.Step{From: 1, To: len(k.Doc()) - 1, Slice: slices.Repeat(sample.Tokens("x"), size)}
		done(t, k.Submit(stranger, k.Version(), []api.Entry{{Who: stranger, Seq: k.Version(), S: s}}))
	}
	done(t, k.Sync())
}

func TestP21_1New(t *testing.T) {
	for _, first := range []string{"<>", "<ab>", "(<B>)_", "[{<x>}{#'}]`a\n'", strings.Repeat("<>", api.MaxDoc/2)} {
		for clients := 1; clients <= api.MaxClients; clients++ {
			for _, most := range []int{0, 1, 5000, api.MaxDisk} {
				w := on(t, first, clients, most)
				docs(t, w, first, slices.Repeat([]string{first}, clients)...)
				logs(t, w, 0)
				onWay(t, w)
				if !w.Settled() {
					t.Errorf("a new world of %d is not settled", clients)
				}
				for _, i := range []int{math.MinInt, -1, clients, api.MaxClients, math.MaxInt} {
					if w.Client(i) != nil {
						t.Errorf("of %d clients there is %d", clients, i)
					}
				}
				for i := range clients {
					if c := w.Client(i); c.Version() != 0 || c.Seq() != 0 || c.Lost() != 0 || c.Pending() != nil {
						t.Errorf("client %d of a new world: %v", i, c)
					}
				}
			}
		}
	}
}

func TestP21_1NewNumbersClients(t *testing.T) {
	w := fresh(t, "<>", api.MaxClients)
	for i := range api.MaxClients {
		does(t, w, inserts(i, 1, 'x'))
		if l := w.Client(i).Pending(); !same(l, []api.Entry{put(i, 0, 1, "x")}) {
			t.Errorf("client %d has %v", i, l)
		}
	}
}

func TestP21_1NewRefuses(t *testing.T) {
	for _, x := range []struct {
		first   []api.Token
		clients int
		most    int
		want    api.Errno
	}{
		{sample.Tokens("<>"), 0, 100, api.ErrArg},
		{sample.Tokens("<>"), -1, 100, api.ErrArg},
		{sample.Tokens("<>"), 5, 100, api.ErrArg},
		{sample.Tokens("<>"), math.MinInt, 100, api.ErrArg},
		{sample.Tokens("<>"), math.MaxInt, 100, api.ErrArg},
		{sample.Tokens("<>"), 1, -1, api.ErrArg},
		{sample.Tokens("<>"), 1, api.MaxDisk + 1, api.ErrArg},
		{sample.Tokens("<>"), 1, math.MinInt, api.ErrArg},
		{sample.Tokens("<>"), 1, math.MaxInt, api.ErrArg},
		{sample.Tokens("<a"), 0, 100, api.ErrArg},
		{sample.Tokens("<a"), 5, 100, api.ErrArg},
		{sample.Tokens("<a"), 1, -1, api.ErrArg},
		{sample.Tokens("<a"), 1, api.MaxDisk + 1, api.ErrArg},
		{nil, 1, 100, api.ErrValid},
		{[]api.Token{}, 4, 100, api.ErrValid},
		{sample.Tokens("a"), 2, 100, api.ErrValid},
		{sample.Tokens("<a!>"), 2, 100, api.ErrForm},
		{sample.Tokens("<a"), 2, 100, api.ErrShort},
		{slices.Repeat(sample.Tokens("<>"), api.MaxDoc/2+1), 2, 100, api.ErrLong},
		{slices.Repeat(sample.Tokens("("), api.MaxDeep+1), 2, 0, api.ErrDeep},
	} {
		if w, e := New(x.first, x.clients, x.most); w != nil || e != x.want {
			t.Errorf("New(%s, %d, %d): %v, %d; want %d", short(x.first), x.clients, x.most, w, e, x.want)
		}
	}
}

// TestP21_1NewHasThatDisk: an entry that the disk has no room for does not come into the log.
func TestP21_1NewHasThatDisk(t *testing.T) {
	entry, e := codec.PutEntry(put(0, 0, 1, "x"))
	done(t, e)
	frame, e := codec.Wrap(entry)
	done(t, e)
	for _, x := range []struct{ most, want int }{{0, 0}, {len(frame) - 1, 0}, {len(frame), 1}, {2*len(frame) - 1, 1}, {2 * len(frame), 2}} {
		w := on(t, "<>", 1, x.most)
		for range 3 {
			does(t, w, inserts(0, 1, 'x'), submits(0), delivers(0), syncs(), asks(0), delivers(0), delivers(0))
		}
		if w.Keeper().Version() != x.want || len(w.Client(0).Pending()) != 3-x.want {
			t.Errorf("a disk of %d has %d entries, want %d", x.most, w.Keeper().Version(), x.want)
		}
	}
}

func TestP21_1EachK(t *testing.T) {
	w := fresh(t, "<>", 2)
	refuses(t, w, api.ErrArg, api.Act{K: -1}, api.Act{K: api.ACompact}, api.Act{K: api.AUndo}, api.Act{K: api.ARedo},
		api.Act{K: 12}, api.Act{K: math.MinInt}, api.Act{K: math.MaxInt}, api.Act{K: 9, A: 9, Bytes: []byte("x")})
	for _, who := range []int{-1, 2, 3, 4, math.MinInt, math.MaxInt} {
		refuses(t, w, api.ErrArg, inserts(who, 1, 'x'), submits(who), asks(who), api.Act{K: api.AEdit, A: who, B: 99})
	}
	refuses(t, w, api.ErrNone, delivers(0), drops(0), twice(0), delivers(-1), drops(7), twice(math.MinInt), submits(0), submits(1))
	refuses(t, w, api.ErrArg, crashes(-1), crashes(math.MinInt))
	changesNothing(t, w, syncs(), crashes(0), crashes(math.MaxInt), injects(0, nil), injects(-1, nil), injects(9, nil))
}

func TestP21_1Edit(t *testing.T) {
	at := func(b int, c int, d int, n int) api.Act {
		return api.Act{K: api.AEdit, B: b, C: c, D: d, N: n}
	}
	// <be><cd> has 9 places.
	for _, x := range []struct {
		first string
		a     api.Act
		then  string
	}{
		{"<be><cd>", at(api.CInsert, 1, 0, 'x'), "<xbe><cd>"},
		{"<be><cd>", at(api.CInsert, 7, 2, 'x'), "<be><cdx>"},
		{"<be><cd>", at(api.CInsert, 10, -99, 'x'), "<xbe><cd>"},
		{"<be><cd>", at(api.CInsert, 21, 99, 'x'), "<bex><cd>"},
		{"<be><cd>", at(api.CInsert, -4, 0, 'x'), "<be><xcd>"},
		{"<be><cd>", at(api.CInsert, -17, 0, 'x'), "<xbe><cd>"},
		{"<be><cd>", at(api.CInsert, math.MaxInt, 0, 'x'), "<be><cdx>"},
		{"<be><cd>", at(api.CInsert, math.MinInt, 0, 'x'), "<xbe><cd>"},
		{"<be><cd>", at(api.CDelete, 1, 2, 0), "<e><cd>"},
		{"<be><cd>", at(api.CDelete, 2, 1, 0), "<e><cd>"},
		{"<be><cd>", at(api.CDelete, 10, 2, 0), "<e><cd>"},
		{"<be><cd>", at(api.CDelete, 1, -7, 0), "<e><cd>"},
		{"<be><cd>", at(api.CDelete, 2, 19, 0), "<e><cd>"},
		{"<be><cd>", at(api.CDelete, 0, 4, 0), "<cd>"},
		{"<be><cd>", at(api.CDelete, 4, 9, 0), "<cd>"},
		{"<be><cd>", at(api.CDelete, 8, 4, 0), "<be>"},
		{"<be><cd>", at(api.CDelete, -1, -5, 0), "<be>"},
		{"<be><cd>", at(api.CDelete, math.MinInt, math.MaxInt, 0), "<>"},
		{"<be><cd>", at(api.CDelete, 3, 3, 0), "<be><cd>"},
		{"<be><cd>", at(api.CDelete, 3, 12, 0), "<be><cd>"},
		{"<be><cd>", at(api.CSplit, 2, 99, 0), "<b><e><cd>"},
		{"<be><cd>", at(api.CSplit, 29, -1, 7), "<b><e><cd>"},
		{"<be><cd>", at(api.CJoin, 4, 1, 0), "<becd>"},
		{"<be><cd>", at(api.CJoin, -5, 0, 0), "<becd>"},
		{"<be><cd>", at(api.CBlock, 1, api.Head, 1), "#be'<cd>"},
		{"<be><cd>", at(api.CBlock, 5, api.Head, 1), "<be>#cd'"},
		{"<be><cd>", at(api.CBlock, 14, api.Head, 1), "<be>#cd'"},
		{"<be><cd>", at(api.CBlock, 1, api.Block, 0), "`be'<cd>"},
		{"<be><cd>", at(api.CMark, 1, 2, api.Strong), "<Be><cd>"},
		{"<be><cd>", at(api.CMark, 2, 1, api.Strong), "<Be><cd>"},
		{"<be><cd>", at(api.CMark, 11, 3, api.Em), "<bE><cd>"},
		{"<be><cd>", at(api.CMark, 3, 11, api.Em), "<bE><cd>"},
		{"<be><cd>", at(api.CMark, -7, -6, api.Em), "<bE><cd>"},
		{"<Bb><cd>", at(api.CMark, 3, 1, api.Strong), "<BB><cd>"},
		{"<BB><cd>", at(api.CMark, 9, 3, api.Strong), "<bb><cd>"},
		{"<be><cd>", at(api.CWrap, 0, 4, api.Quote), "(<be>)<cd>"},
		{"<be><cd>", at(api.CWrap, 4, 0, api.Quote), "(<be>)<cd>"},
		{"<be><cd>", at(api.CWrap, 9, -5, api.Quote), "(<be>)<cd>"},
		{"<be><cd>", at(api.CWrap, 8, 9, api.Quote), "(<be><cd>)"},
		{"<be><cd>", at(api.CWrap, 8, 4, api.Item), "<be>[{<cd>}]"},
		{"(<a>)", at(api.CLift, 2, 0, 0), "<a>"},
		{"(<a>)", at(api.CLift, -4, 9, 9), "<a>"},
	} {
		for who := range 2 {
			w := fresh(t, x.first, 2)
			x.a.A = who
			does(t, w, x.a)
			then := []string{x.first, x.first}
			then[who] = x.then
			docs(t, w, x.first, then...)
			onWay(t, w)
			if other := w.Client(1 - who); other.Pending() != nil {
				t.Errorf("%s: client %d has %s", x.first, 1-who, short(other.Pending()))
			}
			if l := w.Client(who).Pending(); len(l) != 1 || l[0].Who != who || l[0].Seq != 0 || w.Settled() {
				t.Errorf("%s: pending is %s", x.first, short(l))
			}
		}
	}
}

// TestP21_1EditGrows: the places are those of the client's own document, as it is then.
func TestP21_1EditGrows(t *testing.T) {
	w := fresh(t, "<>", 2)
	does(t, w, inserts(0, 4, 'a'), inserts(0, 4+2, 'b'), inserts(0, 5+3, 'c'))
	docs(t, w, "<>", "<abc>", "<>")
	does(t, w, api.Act{K: api.AEdit, A: 0, B: api.CDelete, C: 6 + 1, D: 6*7 + 4})
	docs(t, w, "<>", "<>", "<>")
	does(t, w, inserts(0, 4, 'd'), inserts(1, -2, 'e'))
	docs(t, w, "<>", "<d>", "<e>")
}

func TestP21_1EditRefuses(t *testing.T) {
	w := fresh(t, "<be><cd>", 2)
	for _, x := range []struct {
		a    api.Act
		want api.Errno
	}{
		{api.Act{B: -1, C: 1}, api.ErrArg},
		{api.Act{B: 8, C: 1}, api.ErrArg},
		{api.Act{B: math.MinInt, C: math.MinInt, D: math.MinInt, N: math.MinInt}, api.ErrArg},
		{api.Act{B: math.MaxInt, C: math.MaxInt, D: math.MaxInt, N: math.MaxInt}, api.ErrArg},
		{inserts(0, 0, 'x'), api.ErrValid},
		{inserts(0, 9, 'x'), api.ErrValid},
		{inserts(0, 1, '\n'), api.ErrValid},
		{inserts(0, 1, -1), api.ErrArg},
		{inserts(0, 1, 0xD800), api.ErrArg},
		{api.Act{B: api.CDelete, C: 0, D: 8}, api.ErrValid},
		{api.Act{B: api.CDelete, C: 2, D: 4}, api.ErrForm},
		{api.Act{B: api.CSplit, C: 0}, api.ErrNone},
		{api.Act{B: api.CSplit, C: 9}, api.ErrNone},
		{api.Act{B: api.CJoin, C: 1}, api.ErrNone},
		{api.Act{B: api.CBlock, C: 4, D: api.Head, N: 1}, api.ErrNone},
		{api.Act{B: api.CBlock, C: 1, D: 16}, api.ErrArg},
		{api.Act{B: api.CBlock, C: 1, D: api.Head - 9, N: 1}, api.ErrArg},
		{api.Act{B: api.CBlock, C: 1, D: api.Head + 9, N: 1}, api.ErrValid},
		{api.Act{B: api.CBlock, C: 1, D: api.Head, N: 7}, api.ErrValid},
		{api.Act{B: api.CMark, C: 1, D: 2, N: 3}, api.ErrArg},
		{api.Act{B: api.CMark, C: 3, D: 5, N: api.Em}, api.ErrNone},
		{api.Act{B: api.CMark, C: 1, D: 10, N: api.Em}, api.ErrNone},
		{api.Act{B: api.CWrap, C: 0, D: 9, N: api.Quote}, api.ErrNone},
		{api.Act{B: api.CWrap, C: 0, D: 4, N: api.Para}, api.ErrValid},
		{api.Act{B: api.CLift, C: 1}, api.ErrNone},
		{api.Act{B: api.CLift, C: 0}, api.ErrNone},
	} {
		for who := range 2 {
			x.a.A = who
			refuses(t, w, x.want, x.a)
		}
	}
}

// TestP21_1EditUpTo500: what the client refuses is told; what the command refuses comes first.
func TestP21_1EditUpTo500(t *testing.T) {
	w := fresh(t, "<>", 2)
	for range 500 {
		does(t, w, inserts(1, 1, 'x'))
	}
	refuses(t, w, api.ErrFull, inserts(1, 1, 'x'), api.Act{K: api.AEdit, A: 1, B: api.CSplit, C: 3})
	refuses(t, w, api.ErrNone, api.Act{K: api.AEdit, A: 1, B: api.CLift, C: 1})
	refuses(t, w, api.ErrArg, api.Act{K: api.AEdit, A: 1, B: 8})
	does(t, w, inserts(0, 1, 'y'))
}

// TestP21_1EditOfALongDocument: a command that makes too much of it is refused as the step is.
func TestP21_1EditOfALongDocument(t *testing.T) {
	w := fresh(t, "<>"+strings.Repeat("<>", api.MaxDoc/2-1), 1)
	refuses(t, w, api.ErrLong, inserts(0, 1, 'x'), api.Act{K: api.AEdit, B: api.CSplit, C: 1}, inserts(0, 1-(api.MaxDoc+1), 'x'))
	does(t, w, api.Act{K: api.AEdit, B: api.CDelete, C: api.MaxDoc, D: api.MaxDoc - 2}, inserts(0, api.MaxDoc, 'x'))
}

func TestP21_1SubmitAndAsk(t *testing.T) {
	w := fresh(t, "<>", 3)
	does(t, w, asks(2))
	want := []api.Msg{{K: api.MAsk, Who: 2}}
	onWay(t, w, want...)
	var l []api.Entry
	for i := range 10 {
		does(t, w, inserts(1, 1+i, 'x'))
		l = append(l, put(1, i, 1+i, "x"))
		does(t, w, submits(1))
		want = append(want, api.Msg{K: api.MSubmit, Who: 1, L: l[:min(8, i+1)]})
		onWay(t, w, want...)
		if !same(w.Client(1).Pending(), l) || w.Client(1).Version() != 0 {
			t.Errorf("pending are %v", w.Client(1).Pending())
		}
	}
	refuses(t, w, api.ErrNone, submits(0), submits(2))
	does(t, w, asks(0), asks(1))
	want = append(want, api.Msg{K: api.MAsk, Who: 0}, api.Msg{K: api.MAsk, Who: 1})
	onWay(t, w, want...)
	logs(t, w, 0)
}

// TestP21_1SubmitAndAskOfAVersion: the version is the client's, not the keeper's.
func TestP21_1SubmitAndAskOfAVersion(t *testing.T) {
	w := fresh(t, "<>", 2)
	done(t, w.Client(0).Take(0, []api.Entry{put(1, 0, 1, "a"), put(1, 1, 1, "b")}))
	done(t, w.Keeper().Submit(1, 0, []api.Entry{put(1, 0, 1, "a")}))
	does(t, w, inserts(0, 1, 'x'), submits(0), asks(0), asks(1))
	onWay(t, w, api.Msg{K: api.MSubmit, Version: 2, L: []api.Entry{put(0, 0, 1, "x")}}, api.Msg{K: api.MAsk, Version: 2}, api.Msg{K: api.MAsk, Who: 1})
}

// TestP21_1SubmitTooLong: what a frame has no room for is refused, as codec refuses it.
func TestP21_1SubmitTooLong(t *testing.T) {
	w := fresh(t, "<>", 2)
	text := slices.Repeat([]api.Token{{N: 0xFFFF}}, api.MaxDoc-2)
	done(t, w.Client(0).Local(api.Step{From: 1, To: 1, Slice: text}))
	for range 6 {
		done(t, w.Client(0).Local(api.Step{From: 1, To: api.MaxDoc - 1, Slice: text}))
	}
	does(t, w, submits(0))
	onWay(t, w, api.Msg{K: api.MSubmit, L: w.Client(0).Pending()})
	done(t, w.Client(0).Local(api.Step{From: 1, To: api.MaxDoc - 1, Slice: text}))
	refuses(t, w, api.ErrLong, submits(0))
	does(t, w, delivers(0), syncs(), asks(0), delivers(0), delivers(0), submits(0))
	onWay(t, w, api.Msg{K: api.MSubmit, Version: 7, L: w.Client(0).Pending()})
}

// row answers a world of an empty para with messages on their way: three that ask, of 0, 1 and 2.
func row(t *testing.T) (*World, []api.Msg) {
	t.Helper()
	w := fresh(t, "<>", 3)
	does(t, w, asks(0), asks(1), asks(2))
	return w, []api.Msg{{K: api.MAsk}, {K: api.MAsk, Who: 1}, {K: api.MAsk, Who: 2}}
}

func TestP21_1DeliverDropTwice(t *testing.T) {
	for _, x := range []struct{ a, i int }{
		{0, 0}, {1, 1}, {2, 2}, {3, 0}, {4, 1}, {302, 2}, {-1, 2}, {-2, 1}, {-3, 0}, {-4, 2}, {-302, 1},
		{math.MaxInt, 1}, {math.MinInt, 1}, {math.MaxInt - 1, 0}, {math.MinInt + 1, 2},
	} {
		w, l := row(t)
		does(t, w, twice(x.a))
		onWay(t, w, append(slices.Clone(l), l[x.i])...)
		w, l = row(t)
		does(t, w, drops(x.a))
		onWay(t, w, slices.Delete(slices.Clone(l), x.i, x.i+1)...)
		logs(t, w, 0)
		w, l = row(t)
		does(t, w, delivers(x.a))
		onWay(t, w, append(slices.Delete(slices.Clone(l), x.i, x.i+1), api.Msg{K: api.MTold, Who: x.i})...)
	}
}

func TestP21_1DropAndTwiceDeliverNothing(t *testing.T) {
	w := fresh(t, "<>", 2)
	does(t, w, inserts(0, 1, 'x'), submits(0), twice(0), twice(-1), drops(0), drops(0))
	logs(t, w, 0)
	onWay(t, w, api.Msg{K: api.MSubmit, L: []api.Entry{put(0, 0, 1, "x")}})
	does(t, w, delivers(0))
	logs(t, w, 0, put(0, 0, 1, "x"))
	refuses(t, w, api.ErrNone, delivers(0), drops(0), twice(0))
}

func TestP21_1AtMostMaxNet(t *testing.T) {
	w := fresh(t, "<>", 2)
	does(t, w, inserts(0, 1, 'x'), submits(0))
	want := []api.Msg{{K: api.MSubmit, L: []api.Entry{put(0, 0, 1, "x")}}}
	for len(want) < api.MaxNet {
		does(t, w, asks(1))
		want = append(want, api.Msg{K: api.MAsk, Who: 1})
	}
	onWay(t, w, want...)
	// What is more is lost, but twice is refused.
	changesNothing(t, w, asks(0), asks(1), submits(0), asks(1))
	refuses(t, w, api.ErrFull, twice(0), twice(-1), twice(77))
	// What is delivered makes room for what it brings about.
	does(t, w, delivers(1))
	want = append(slices.Delete(want, 1, 2), api.Msg{K: api.MTold, Who: 1})
	onWay(t, w, want...)
	// But nothing makes room for what is brought about by bytes that were not on their way.
	changesNothing(t, w, injects(-1, framed(t, api.Msg{K: api.MAsk})))
	does(t, w, drops(2), twice(0))
	want = append(slices.Delete(want, 2, 3), want[0])
	onWay(t, w, want...)
	refuses(t, w, api.ErrFull, twice(0))
}

func TestP21_1CrashAndSync(t *testing.T) {
	w := fresh(t, "<>", 2)
	l := []api.Entry{put(0, 0, 1, "x"), put(0, 1, 2, "y"), put(0, 2, 3, "z")}
	for i, one := range l {
		does(t, w, injects(-1, framed(t, api.Msg{K: api.MSubmit, Version: i, L: []api.Entry{one}})))
	}
	logs(t, w, 0, l...)
	refuses(t, w, api.ErrArg, crashes(-1))
	does(t, w, asks(1), crashes(30))
	logs(t, w, 2, l[:2]...)
	docs(t, w, "<xy>", "<>", "<>")
	onWay(t, w, api.Msg{K: api.MAsk, Who: 1})
	does(t, w, injects(-1, framed(t, api.Msg{K: api.MSubmit, Version: 2, L: l[2:]})), syncs())
	logs(t, w, 3, l...)
	changesNothing(t, w, crashes(0), syncs(), crashes(math.MaxInt))
	does(t, w, injects(-1, framed(t, api.Msg{K: api.MSubmit, Who: 1, Version: 3, L: []api.Entry{put(1, 0, 1, "w")}})), api.Act{K: api.ASync, A: 99}, crashes(0))
	logs(t, w, 4, append(l, put(1, 0, 1, "w"))...)
}

func TestP21_1Inject(t *testing.T) {
	told := []api.Entry{put(1, 0, 1, "x")}
	for _, to := range []int{-1, 2, 4, math.MinInt, math.MaxInt} {
		w := fresh(t, "<>", 2)
		does(t, w, injects(to, framed(t, api.Msg{K: api.MSubmit, Who: 1, L: told})))
		logs(t, w, 0, told...)
		onWay(t, w)
		changesNothing(t, w, injects(to, framed(t, api.Msg{K: api.MTold, Who: 1, L: told})))
		does(t, w, syncs(), asks(0), injects(to, framed(t, api.Msg{K: api.MAsk, Who: 1})))
		onWay(t, w, api.Msg{K: api.MAsk}, api.Msg{K: api.MTold, Who: 1, L: told})
	}
	w := fresh(t, "<>", 2)
	does(t, w, asks(1), injects(0, framed(t, api.Msg{K: api.MTold, L: told})))
	docs(t, w, "<>", "<x>", "<>")
	onWay(t, w, api.Msg{K: api.MAsk, Who: 1})
	if w.Client(0).Version() != 1 || w.Client(1).Version() != 0 {
		t.Errorf("versions %d, %d", w.Client(0).Version(), w.Client(1).Version())
	}
}

// TestP21_2NoMessage: what is not just one frame of a message, or is not for whom it comes to, does nothing.
func TestP21_2NoMessage(t *testing.T) {
	w := fresh(t, "<>", 2)
	does(t, w, inserts(0, 1, 'x'), inserts(1, 1, 'y'))
	own := w.Client(0).Pending()
	submit := framed(t, api.Msg{K: api.MSubmit, L: own})
	ask := framed(t, api.Msg{K: api.MAsk})
	told := framed(t, api.Msg{K: api.MTold, L: own})
	var wrong [][]byte
	for _, b := range [][]byte{submit, ask, told} {
		for n := range len(b) {
			wrong = append(wrong, b[:n])
			bad := slices.Clone(b)
			bad[n] ^= 1
			wrong = append(wrong, bad)
		}
		wrong = append(wrong, append(slices.Clone(b), 0), append([]byte{0}, b...), slices.Concat(b, b), slices.Concat(b, ask))
		inner, _, e := codec.Open(b, 0)
		done(t, e)
		wrong = append(wrong, inner)
		for _, other := range [][]byte{append(slices.Clone(inner), 0), inner[:len(inner)-1], nil, {3, 0, 0, 0}, {0, 4, 0, 0}, {9, 0, 0, 0}} {
			f, e := codec.Wrap(other)
			done(t, e)
			wrong = append(wrong, f)
		}
		twice, e := codec.Wrap(b)
		done(t, e)
		wrong = append(wrong, twice)
	}
	wrong = append(wrong, nil, []byte{}, []byte("junk"))
	for _, b := range wrong {
		changesNothing(t, w, injects(-1, b), injects(0, b), injects(1, b))
	}
	changesNothing(t, w, injects(-1, told), injects(0, submit), injects(0, ask), injects(1, submit), injects(1, ask), injects(1, told))
	for _, who := range []int{2, 3} {
		changesNothing(t, w,
			injects(-1, framed(t, api.Msg{K: api.MSubmit, Who: who, L: []api.Entry{put(who, 0, 1, "z")}})),
			injects(-1, framed(t, api.Msg{K: api.MAsk, Who: who})),
			injects(0, framed(t, api.Msg{K: api.MTold, Who: who, L: []api.Entry{put(1, 0, 1, "z")}})))
	}
	changesNothing(t, w, injects(0, framed(t, api.Msg{K: api.MTold, Who: 1, L: []api.Entry{put(1, 0, 1, "z")}})))
	does(t, w, injects(-1, submit))
	logs(t, w, 0, own...)
	does(t, w, injects(0, told))
	docs(t, w, "<x>", "<x>", "<y>")
	does(t, w, injects(-1, framed(t, api.Msg{K: api.MAsk, Who: 1})))
	onWay(t, w, api.Msg{K: api.MTold, Who: 1})
}

func TestP21_2Submit(t *testing.T) {
	w := fresh(t, "<>", 3)
	l := []api.Entry{put(1, 4, 1, "a"), put(1, 7, 2, "b")}
	does(t, w, injects(-1, framed(t, api.Msg{K: api.MSubmit, Who: 1, L: l})))
	logs(t, w, 0, l...)
	onWay(t, w)
	// What the keeper refuses does nothing more.
	for _, m := range []api.Msg{
		{K: api.MSubmit, Who: 0, Version: 0, L: []api.Entry{put(0, 0, 1, "c")}},
		{K: api.MSubmit, Who: 0, Version: 3, L: []api.Entry{put(0, 0, 1, "c")}},
		{K: api.MSubmit, Who: 0, Version: 2},
		{K: api.MSubmit, Who: 0, Version: 2, L: []api.Entry{put(1, 9, 1, "c")}},
		{K: api.MSubmit, Who: 1, Version: 2, L: []api.Entry{put(1, 7, 1, "c")}},
		{K: api.MSubmit, Who: 1, Version: 2, L: []api.Entry{put(1, 8, 1, "c"), put(1, 9, 0, "c")}},
		{K: api.MSubmit, Who: 0, Version: 2, L: slices.Repeat([]api.Entry{put(0, 0, 1, "c")}, 9)},
	} {
		changesNothing(t, w, injects(-1, framed(t, m)))
	}
	does(t, w, injects(-1, framed(t, api.Msg{K: api.MSubmit, Who: 0, Version: 2, L: []api.Entry{put(0, 0, 1, "c")}})))
	logs(t, w, 0, append(l, put(0, 0, 1, "c"))...)
}

func TestP21_2Ask(t *testing.T) {
	w := fresh(t, "<>", 3)
	l := []api.Entry{put(1, 0, 1, "a"), put(1, 1, 2, "b"), put(1, 2, 3, "c")}
	done(t, w.Keeper().Submit(1, 0, l[:2]))
	does(t, w, syncs())
	done(t, w.Keeper().Submit(1, 2, l[2:]))
	// Only what is sure is told; behind that nothing is.
	var want []api.Msg
	for version := range 3 {
		for who := range 3 {
			does(t, w, injects(-1, framed(t, api.Msg{K: api.MAsk, Who: who, Version: version})))
			want = append(want, api.Msg{K: api.MTold, Who: who, Version: version, L: l[version:2]})
			onWay(t, w, want...)
		}
	}
	for _, version := range []int{3, 4, api.MaxLog} {
		changesNothing(t, w, injects(-1, framed(t, api.Msg{K: api.MAsk, Version: version})))
	}
	// The entries of a message that asks count for nothing.
	does(t, w, injects(-1, framed(t, api.Msg{K: api.MAsk, Version: 1, L: l})))
	onWay(t, w, append(want, api.Msg{K: api.MTold, Version: 1, L: l[1:2]})...)
	logs(t, w, 2, l...)
}

func TestP21_2AskUpTo64(t *testing.T) {
	for _, n := range []int{1, 63, 64, 65, 130} {
		w := fresh(t, "<>", 2)
		filled(t, w, n)
		for _, version := range []int{0, 1, n - 1, n} {
			does(t, w, injects(-1, framed(t, api.Msg{K: api.MAsk, Version: version})))
			onWay(t, w, api.Msg{K: api.MTold, Version: version, L: w.Keeper().Log()[version:min(n, version+64)]})
			does(t, w, drops(0))
		}
		for v := 0; v < n; v += 64 {
			does(t, w, asks(0), delivers(0), delivers(0))
			if w.Client(0).Version() != min(n, v+64) {
				t.Errorf("the client is at %d of %d", w.Client(0).Version(), n)
			}
		}
	}
}

// TestP21_2AskForMoreThanAFrame: of entries that one frame has no room for as many are told as it has room for.
func TestP21_2AskForMoreThanAFrame(t *testing.T) {
	for _, size := range []int{1200, 1999, api.MaxDoc - 2} {
		w := fresh(t, "<>", 2)
		n := 200000 / (3 * size)
		heavy(t, w, n, size)
		log := w.Keeper().Log()
		for v := 0; v < n; v = w.Client(0).Version() {
			does(t, w, asks(0), delivers(0))
			m := api.Msg{K: api.MTold, Version: v}
			for more := m; v+len(m.L) < n; m = more {
				more.L = log[v : v+len(m.L)+1]
				b, e := codec.PutMsg(more)
				done(t, e)
				if len(b) > api.MaxFrame {
					break
				}
			}
			onWay(t, w, m)
			does(t, w, delivers(0))
			if len(m.L) == 0 || w.Client(0).Version() != v+len(m.L) {
				t.Fatalf("the client goes from %d to %d, want %d more", v, w.Client(0).Version(), len(m.L))
			}
		}
		// Client 1 is told four times, twice a round.
		if n := w.Calm(9); n != 2 || !w.Settled() {
			t.Errorf("Calm: %d", n)
		}
	}
}

func TestP21_2Told(t *testing.T) {
	w := fresh(t, "<>", 2)
	does(t, w, inserts(0, 1, 'x'))
	l := []api.Entry{put(1, 0, 1, "a"), put(1, 1, 2, "b")}
	// What the client refuses does nothing more.
	for _, m := range []api.Msg{
		{K: api.MTold, Version: 1, L: l},
		{K: api.MTold, L: []api.Entry{put(1, 0, 0, "a")}},
		{K: api.MTold, L: []api.Entry{put(0, 0, 1, "y")}},
		{K: api.MTold, L: []api.Entry{put(0, 1, 1, "x")}},
		{K: api.MTold, L: append(slices.Clone(l), put(0, 0, 1, "x"))},
		{K: api.MTold},
	} {
		changesNothing(t, w, injects(0, framed(t, m)))
	}
	does(t, w, injects(0, framed(t, api.Msg{K: api.MTold, L: l})))
	docs(t, w, "<>", "<abx>", "<>")
	changesNothing(t, w, injects(0, framed(t, api.Msg{K: api.MTold, L: l})))
	does(t, w, injects(0, framed(t, api.Msg{K: api.MTold, Version: 2, L: w.Client(0).Pending()})))
	docs(t, w, "<>", "<abx>", "<>")
	if c := w.Client(0); c.Version() != 3 || c.Pending() != nil || c.Lost() != 0 {
		t.Errorf("the client is at %d", c.Version())
	}
	onWay(t, w)
}

func TestP21_3CalmOfOne(t *testing.T) {
	for n, want := range map[int]int{0: 1, 1: 1, 8: 1, 9: 2, 16: 2, 17: 3, 33: 5} {
		for ahead := range want {
			w := fresh(t, "<>", 1)
			for i := range n {
				does(t, w, inserts(0, 1+i, 'x'))
			}
			if got := w.Calm(ahead); got != ahead || ahead > 0 && w.Settled() {
				t.Errorf("Calm(%d) of %d: %d", ahead, n, got)
			}
			if got := w.Calm(50); got != want-ahead || !w.Settled() {
				t.Errorf("Calm of %d behind %d rounds: %d, want %d", n, ahead, got, want-ahead)
			}
			text := "<" + strings.Repeat("x", n) + ">"
			docs(t, w, text, text)
			if got := w.Calm(50); got != 1 || !w.Settled() {
				t.Errorf("Calm of what is settled: %d", got)
			}
		}
	}
}

func TestP21_3CalmOfNone(t *testing.T) {
	w := fresh(t, "<>", 2)
	does(t, w, inserts(0, 1, 'x'), asks(1), submits(0))
	before := shot(w)
	for _, rounds := range []int{0, -1, -100, math.MinInt} {
		if n := w.Calm(rounds); n != 0 || shot(w) != before {
			t.Errorf("Calm(%d): %d", rounds, n)
		}
	}
}

// TestP21_3CalmUpTo100: what can't settle goes on as long as may be.
func TestP21_3CalmUpTo100(t *testing.T) {
	w := on(t, "<>", 2, 0)
	does(t, w, inserts(0, 1, 'x'))
	for _, x := range []struct{ rounds, want int }{{1, 1}, {2, 2}, {99, 99}, {100, 100}, {101, 100}, {5000, 100}, {math.MaxInt, 100}} {
		if n := w.Calm(x.rounds); n != x.want || w.Settled() || w.Moving() != 0 {
			t.Errorf("Calm(%d): %d", x.rounds, n)
		}
	}
	docs(t, w, "<>", "<x>", "<>")
}

// TestP21_3CalmInOrder: one client after the other, each with what those ahead have brought about.
func TestP21_3CalmInOrder(t *testing.T) {
	w := fresh(t, "<>", 4)
	for who, n := range "wxyz" {
		does(t, w, inserts(who, 1, n))
	}
	if n := w.Calm(1); n != 1 || w.Settled() {
		t.Errorf("Calm: %d", n)
	}
	docs(t, w, "<wxyz>", "<w>", "<wx>", "<wxy>", "<wxyz>")
	for who := range 4 {
		if w.Keeper().Log()[who].Who != who {
			t.Errorf("the log is %v", w.Keeper().Log())
		}
	}
	if n := w.Calm(9); n != 1 || !w.Settled() {
		t.Errorf("Calm: %d", n)
	}
	docs(t, w, "<wxyz>", "<wxyz>", "<wxyz>", "<wxyz>", "<wxyz>")
}

// TestP21_3CalmDeliversTheFirstFirst: what is on its way comes in its order, ahead of what is sent then.
func TestP21_3CalmDeliversTheFirstFirst(t *testing.T) {
	w := fresh(t, "<>", 2)
	does(t, w, inserts(0, 1, 'x'), inserts(1, 1, 'y'), submits(1), submits(0), twice(0), asks(1))
	if n := w.Calm(9); n != 2 || !w.Settled() || w.Moving() != 0 {
		t.Errorf("Calm: %d", n)
	}
	logs(t, w, 2, put(1, 0, 1, "y"), put(0, 0, 2, "x"))
	docs(t, w, "<yx>", "<yx>", "<yx>")
}

// TestP21_3CalmOfAFullNet: what a client asks is lost, but what was on its way is delivered.
func TestP21_3CalmOfAFullNet(t *testing.T) {
	w := fresh(t, "<>", 2)
	does(t, w, inserts(1, 1, 'y'), submits(1))
	for range api.MaxNet + 9 {
		does(t, w, asks(0))
	}
	if n := w.Calm(9); n != 1 || !w.Settled() || w.Moving() != 0 {
		t.Errorf("Calm: %d", n)
	}
	docs(t, w, "<y>", "<y>", "<y>")
}

// TestP21_3CalmSyncs: what is in the log, but not sure, is told ahead of a round's end.
func TestP21_3CalmSyncs(t *testing.T) {
	w := fresh(t, "<>", 2)
	done(t, w.Keeper().Submit(stranger, 0, []api.Entry{put(stranger, 0, 1, "a")}))
	if n := w.Calm(1); n != 1 || !w.Settled() {
		t.Errorf("Calm: %d", n)
	}
	logs(t, w, 1, put(stranger, 0, 1, "a"))
	docs(t, w, "<a>", "<a>", "<a>")
}

// TestP21_3CalmCatchesUp: each round two messages of 64 come.
func TestP21_3CalmCatchesUp(t *testing.T) {
	for n, want := range map[int]int{1: 1, 128: 1, 129: 2, 256: 2, 257: 3, api.MaxLog: 8} {
		w := fresh(t, "<>", 1)
		filled(t, w, n)
		if got := w.Calm(50); got != want || w.Client(0).Version() != n || !w.Settled() {
			t.Errorf("Calm of %d: %d, want %d", n, got, want)
		}
	}
}

func TestP21_3Settled(t *testing.T) {
	is := func(w *World, want bool) {
		t.Helper()
		before := shot(w)
		if w.Settled() != want || shot(w) != before {
			t.Errorf("Settled: %v", !want)
		}
	}
	for who := range 3 {
		w := fresh(t, "<b>", 3)
		is(w, true)
		does(t, w, asks(0), asks(who))
		is(w, true) // whatever is on its way
		does(t, w, api.Act{K: api.AEdit, A: who, B: api.CDelete})
		is(w, false) // something is pending, though the documents are the same
		l := w.Client(who).Pending()
		done(t, w.Keeper().Submit(who, 0, l))
		for i := range 3 {
			done(t, w.Client(i).Take(0, l))
		}
		is(w, false) // nothing is sure
		does(t, w, syncs())
		is(w, true)
		done(t, w.Keeper().Submit(0, 1, []api.Entry{put(0, 7, 0, "")}))
		does(t, w, syncs())
		is(w, false) // all are behind
		for i := range 3 {
			if i != who {
				done(t, w.Client(i).Reset(2, w.Keeper().Doc()))
			}
		}
		is(w, false) // one is
		done(t, w.Client(who).Reset(2, w.Keeper().Doc()))
		is(w, true)
		for _, other := range []string{"<B>", "<a>", "<>", "<bb>", "#b'", "`b'", "<b>_"} {
			done(t, w.Client(who).Reset(2, sample.Tokens(other)))
			is(w, false) // one has another document
		}
		done(t, w.Client(who).Reset(2, w.Keeper().Doc()))
		is(w, true)
		done(t, w.Client(who).Reset(3, w.Keeper().Doc()))
		is(w, false) // one is ahead
	}
}

func TestP21_4NilAndUnmade(t *testing.T) {
	var none *World
	for _, w := range []*World{nil, none, {}, new(World)} {
		for range 2 {
			for k := -1; k <= 12; k++ {
				for _, a := range []int{-1, 0, 9} {
					if e := w.Do(api.Act{K: k, A: a, B: k, Bytes: []byte("x")}); e != api.ErrZero {
						t.Errorf("Do(%d): %d", k, e)
					}
				}
			}
			if w.Keeper() != nil || w.Moving() != 0 || w.Settled() {
				t.Errorf("%v, %d, %v", w.Keeper(), w.Moving(), w.Settled())
			}
			for _, n := range []int{math.MinInt, -1, 0, 1, math.MaxInt} {
				if w.Client(n) != nil || w.Calm(n) != 0 {
					t.Errorf("%v, %d", w.Client(n), w.Calm(n))
				}
			}
		}
	}
}

// TestTheVeryOnes: what a world answers goes on with it.
func TestTheVeryOnes(t *testing.T) {
	w := fresh(t, "<>", 2)
	k, c := w.Keeper(), w.Client(1)
	does(t, w, inserts(1, 1, 'x'), submits(1), delivers(0))
	if k.Version() != 1 || len(c.Pending()) != 1 || k != w.Keeper() || c != w.Client(1) {
		t.Errorf("version %d, pending %v", k.Version(), c.Pending())
	}
	does(t, w, crashes(0))
	if k.Version() != 0 || k != w.Keeper() {
		t.Errorf("version %d", k.Version())
	}
	done(t, c.Local(sample.Replace(1, 1, "y")))
	if w.Calm(9); !w.Settled() || k.Version() != 2 {
		t.Errorf("version %d", k.Version())
	}
	docs(t, w, "<yx>", "<yx>", "<yx>")
}

func TestListsAreNotShared(t *testing.T) {
	first := sample.Tokens("<ab>z")
	w, e := New(first[:4], 2, api.MaxDisk)
	done(t, e)
	if first[4].N != 'z' {
		t.Errorf("what was handed in has changed: %v", first)
	}
	first[1].N = 'q'
	docs(t, w, "<ab>", "<ab>", "<ab>")
	does(t, w, crashes(0))
	docs(t, w, "<ab>", "<ab>", "<ab>")
	b := framed(t, api.Msg{K: api.MSubmit, L: []api.Entry{put(0, 0, 1, "x")}})
	was := slices.Clone(b)
	does(t, w, injects(-1, b[:len(b):len(b)]))
	if !slices.Equal(b, was) {
		t.Errorf("what was handed in has changed: %x", b)
	}
	told := framed(t, api.Msg{K: api.MTold, Who: 1, L: []api.Entry{put(0, 0, 1, "x")}})
	does(t, w, injects(1, told))
	for i := range b {
		b[i] = 'q'
	}
	for i := range told {
		told[i] = 'q'
	}
	logs(t, w, 0, put(0, 0, 1, "x"))
	docs(t, w, "<xab>", "<ab>", "<xab>")
	// Messages on their way are as they were sent.
	does(t, w, inserts(1, 1, 'y'), submits(1), twice(0))
	msg := api.Msg{K: api.MSubmit, Who: 1, Version: 1, L: []api.Entry{put(1, 0, 1, "y")}}
	w.Client(1).Pending()[0].S.Slice[0].N = 'q'
	w.Client(1).Doc()[1].N = 'q'
	does(t, w, inserts(1, 1, 'z'))
	onWay(t, w, msg, msg)
	does(t, w, drops(0))
	onWay(t, w, msg)
}

func TestWorldsGoTheirOwnWays(t *testing.T) {
	v, w := fresh(t, "<>", 2), fresh(t, "<>", 2)
	does(t, v, inserts(0, 1, 'v'), submits(0), delivers(0), asks(1))
	docs(t, w, "<>", "<>", "<>")
	onWay(t, w)
	does(t, w, inserts(0, 1, 'w'))
	v.Calm(9)
	w.Calm(9)
	docs(t, v, "<v>", "<v>", "<v>")
	docs(t, w, "<w>", "<w>", "<w>")
}
