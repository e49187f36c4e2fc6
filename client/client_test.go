package client

import (
	"fmt"
	"math"
	"slices"
	"strings"
	"testing"

	"emender/api"
	"emender/sample"
	"emender/schema"
	"emender/step"
)

// rule puts a rule in the place of the first tokens, up to to.
func rule(who int, seq int, to int) api.Entry {
	return api.Entry{Who: who, Seq: seq, S: sample.Replace(0, to, "_")}
}

// put answers the entry that puts text in at a place.
func put(who int, seq int, at int, text string) api.Entry {
	return api.Entry{Who: who, Seq: seq, S: sample.Replace(at, at, text)}
}

// cut answers the entry that takes out what is between two places.
func cut(who int, seq int, from int, to int) api.Entry {
	return api.Entry{Who: who, Seq: seq, S: sample.Replace(from, to, "")}
}

// bold answers the entry that marks, or unmarks, what is between two places.
func bold(who int, seq int, k int, from int, to int) api.Entry {
	return api.Entry{Who: who, Seq: seq, S: api.Step{K: k, From: from, To: to, Mark: api.Strong}}
}

// many answers n entries of who that put in nothing.
func many(who int, n int) []api.Entry {
	l := make([]api.Entry, n)
	for i := range l {
		l[i] = put(who, i, 0, "")
	}
	return l
}

// state is what a client tells.
type state struct {
	version, seq, lost int
	confirmed          string
	pending            []api.Entry
	doc                string
}

// fresh answers a new client.
func fresh(t *testing.T, who int, first string) *Client {
	t.Helper()
	c, e := New(who, sample.Tokens(first))
	if c == nil || e != api.OK {
		t.Fatalf("New(%d, %s): %v, %d", who, first, c, e)
	}
	return c
}

// pending answers a new client of an empty para, with these entries of its own pending.
func pending(t *testing.T, who int, l ...api.Entry) *Client {
	t.Helper()
	c := fresh(t, who, "<>")
	local(t, c, l...)
	return c
}

func local(t *testing.T, c *Client, l ...api.Entry) {
	t.Helper()
	for _, one := range l {
		done(t, c.Local(one.S))
	}
}

// short tells what may be long.
func short(v any) string {
	return fmt.Sprintf("%.300s", fmt.Sprint(v))
}

func done(t *testing.T, e api.Errno) {
	t.Helper()
	refused(t, e, api.OK)
}

func refused(t *testing.T, e api.Errno, want api.Errno) {
	t.Helper()
	if e != want {
		t.Errorf("the answer is %d, want %d", e, want)
	}
}

// is holds all that a client tells against want, and want's document against its confirmed one with what is pending done.
func is(t *testing.T, c *Client, want state) {
	t.Helper()
	if c.Version() != want.version || c.Seq() != want.seq || c.Lost() != want.lost {
		t.Errorf("version %d, seq %d, lost %d; want %d, %d, %d", c.Version(), c.Seq(), c.Lost(), want.version, want.seq, want.lost)
	}
	if confirmed := sample.Tokens(want.confirmed); !slices.Equal(c.Confirmed(), confirmed) {
		t.Errorf("confirmed is %s, want %s", short(c.Confirmed()), short(confirmed))
	}
	if doc := sample.Tokens(want.doc); !slices.Equal(c.Doc(), doc) {
		t.Errorf("the document is %s, want %s", short(c.Doc()), short(doc))
	}
	if !slices.Equal(folded(t, c.Confirmed(), c.Pending()), c.Doc()) {
		t.Errorf("the document is %s, not %s with %s done", short(c.Doc()), short(c.Confirmed()), short(c.Pending()))
	}
	if !same(c.Pending(), want.pending) {
		t.Errorf("pending are %s, want %s", short(c.Pending()), short(want.pending))
	}
	if v, l := c.Batch(); v != want.version || !same(l, want.pending[:min(8, len(want.pending))]) {
		t.Errorf("Batch: %d, %s; want %d and the first of %s", v, short(l), want.version, short(want.pending))
	}
}

// folded answers doc with the steps of l done; each may be done, and each document is valid.
func folded(t *testing.T, doc []api.Token, l []api.Entry) []api.Token {
	t.Helper()
	for i := -1; i < len(l); i++ {
		if i >= 0 {
			then, e := step.Apply(doc, l[i].S)
			done(t, e)
			doc = then
		}
		if at, e := schema.House().Check(doc); e != api.OK {
			t.Errorf("the document behind %d is not valid at %d: %d", i, at, e)
		}
	}
	return doc
}

func same(a []api.Entry, b []api.Entry) bool {
	return slices.EqualFunc(a, b, func(x, y api.Entry) bool {
		return x.Who == y.Who && x.Seq == y.Seq && step.Same(x.S, y.S)
	})
}

func TestP20_1New(t *testing.T) {
	for who := range 4 {
		for _, first := range []string{"<>", "<ab>", "(<B>)_", "[{<x>}{#'}]`a\n'", strings.Repeat("<>", api.MaxDoc/2)} {
			c := fresh(t, who, first)
			is(t, c, state{confirmed: first, doc: first})
			done(t, c.Take(0, []api.Entry{rule(3-who, 0, len(sample.Tokens(first)))}))
			is(t, c, state{version: 1, confirmed: "_", doc: "_"})
		}
	}
}

func TestP20_1NewRefuses(t *testing.T) {
	for _, x := range []struct {
		first []api.Token
		want  api.Errno
	}{
		{nil, api.ErrValid},
		{[]api.Token{}, api.ErrValid},
		{sample.Tokens("a"), api.ErrValid},
		{sample.Tokens("<<>>"), api.ErrValid},
		{sample.Tokens("[]"), api.ErrValid},
		{sample.Tokens("<a!>"), api.ErrForm},
		{sample.Tokens("<>>"), api.ErrForm},
		{sample.Tokens("<a"), api.ErrShort},
		{slices.Repeat(sample.Tokens("<>"), api.MaxDoc/2+1), api.ErrLong},
		{slices.Repeat(sample.Tokens("("), api.MaxDeep+1), api.ErrDeep},
		{sample.Tokens("<>"), api.OK},
	} {
		for _, who := range []int{math.MinInt, -1, 4, 5, math.MaxInt} {
			if c, e := New(who, x.first); c != nil || e != api.ErrArg {
				t.Errorf("New(%d, %s): %v, %d", who, short(x.first), c, e)
			}
		}
		for who := range 4 {
			if c, e := New(who, x.first); (c != nil) != (x.want == api.OK) || e != x.want {
				t.Errorf("New(%d, %s): %v, %d; want %d", who, short(x.first), c, e, x.want)
			}
		}
	}
}

func TestP20_1Local(t *testing.T) {
	c := fresh(t, 2, "<>")
	l := []api.Entry{
		put(2, 0, 1, "abc"),
		{Who: 2, Seq: 1, S: sample.Around(0, 0, 5, 5, "(", ")")},
		bold(2, 2, api.SMark, 3, 4),
		put(2, 3, 7, "_"),
		{Who: 2, Seq: 4, S: sample.Replace(2, 3, "E")},
		bold(2, 5, api.SUnmark, 2, 4),
		put(2, 6, 3, "><"),
		put(2, 7, 0, ""),
		cut(2, 8, 1, 4),
	}
	docs := []string{"<abc>", "(<abc>)", "(<aBc>)", "(<aBc>)_", "(<EBc>)_", "(<Ebc>)_", "(<E><bc>)_", "(<E><bc>)_", "(<bc>)_"}
	for i, one := range l {
		done(t, c.Local(one.S))
		is(t, c, state{seq: i + 1, confirmed: "<>", pending: l[:i+1], doc: docs[i]})
	}
}

func TestP20_1LocalRefuses(t *testing.T) {
	l := []api.Entry{put(1, 0, 1, "a"), put(1, 1, 3, "(<>)")}
	for _, x := range []struct {
		s    api.Step
		want api.Errno
	}{
		{api.Step{K: 4}, api.ErrArg},
		{api.Step{K: -1}, api.ErrArg},
		{sample.Replace(-1, 0, ""), api.ErrArg},
		{sample.Replace(2, 1, ""), api.ErrArg},
		{sample.Replace(8, 8, ""), api.ErrArg},
		{sample.Replace(1, math.MaxInt, ""), api.ErrArg},
		{sample.Replace(1, 1, "!"), api.ErrArg},
		{api.Step{Mark: 1}, api.ErrArg},
		{api.Step{K: api.SMark, From: 1, To: 1, Mark: 1}, api.ErrArg},
		{api.Step{K: api.SMark, From: 1, To: 2, Mark: 3}, api.ErrArg},
		{api.Step{From: 9, To: 9, Slice: slices.Repeat(sample.Tokens("_"), api.MaxDoc+1)}, api.ErrLong},
		{api.Step{Slice: slices.Repeat(sample.Tokens("_"), api.MaxDoc-6)}, api.ErrLong},
		{sample.Replace(1, 1, "<"), api.ErrForm},
		{sample.Replace(0, 0, ">"), api.ErrForm},
		{sample.Replace(0, 1, ""), api.ErrForm},
		{sample.Replace(0, 0, strings.Repeat("(", 33)+strings.Repeat(")", 33)), api.ErrDeep},
		{sample.Replace(0, 0, "x"), api.ErrValid},
		{sample.Replace(1, 1, "<>"), api.ErrValid},
		{sample.Replace(4, 6, ""), api.ErrValid},
		{sample.Replace(0, 7, ""), api.ErrValid},
		{sample.Replace(1, 1, "\n"), api.ErrValid},
		{sample.Around(0, 0, 7, 7, "[", "]"), api.ErrValid},
	} {
		c := pending(t, 1, l...)
		if e := c.Local(x.s); e != x.want {
			t.Errorf("Local(%s): %d, want %d", short(x.s), e, x.want)
		}
		is(t, c, state{seq: 2, confirmed: "<>", pending: l, doc: "<a>(<>)"})
		done(t, c.Local(sample.Replace(2, 2, "b")))
		is(t, c, state{seq: 3, confirmed: "<>", pending: append(l[:2:2], put(1, 2, 2, "b")), doc: "<ab>(<>)"})
	}
}

func TestP20_1LocalUpTo500(t *testing.T) {
	l := many(3, 500)
	c := pending(t, 3, l[:499]...)
	is(t, c, state{seq: 499, confirmed: "<>", pending: l[:499], doc: "<>"})
	done(t, c.Local(l[499].S))
	for _, s := range []api.Step{l[0].S, sample.Replace(1, 1, "x"), sample.Replace(0, 0, "x"), {K: 9}, sample.Replace(0, 0, ">")} {
		refused(t, c.Local(s), api.ErrFull)
		is(t, c, state{seq: 500, confirmed: "<>", pending: l, doc: "<>"})
	}
	done(t, c.Take(0, l[:1]))
	done(t, c.Local(sample.Replace(1, 1, "x")))
	refused(t, c.Local(sample.Replace(1, 1, "x")), api.ErrFull)
	is(t, c, state{version: 1, seq: 501, confirmed: "<>", pending: append(l[1:500:500], put(3, 500, 1, "x")), doc: "<x>"})
	done(t, c.Take(1, []api.Entry{rule(0, 0, 2)}))
	done(t, c.Local(sample.Replace(0, 0, "_")))
	if c.Lost() != 1 || len(c.Pending()) != 500 {
		t.Errorf("%d lost, %d pending", c.Lost(), len(c.Pending()))
	}
	refused(t, c.Local(sample.Replace(0, 0, "_")), api.ErrFull)
	done(t, c.Reset(2, sample.Tokens("<>")))
	is(t, c, state{version: 2, seq: 502, lost: 501, confirmed: "<>", doc: "<>"})
	done(t, c.Local(sample.Replace(1, 1, "x")))
}

func TestP20_1LocalUpToTheGreatestSeq(t *testing.T) {
	c := fresh(t, 0, "<>")
	c.seq = 1<<31 - 2 // no test has the time to do as many
	l := []api.Entry{put(0, 1<<31-2, 1, "a")}
	local(t, c, l...)
	for _, s := range []api.Step{sample.Replace(1, 1, "b"), sample.Replace(0, 0, "b"), {K: 9}} {
		refused(t, c.Local(s), api.ErrFull)
		is(t, c, state{seq: 1<<31 - 1, confirmed: "<>", pending: l, doc: "<a>"})
	}
	done(t, c.Take(0, l))
	refused(t, c.Local(sample.Replace(1, 1, "b")), api.ErrFull)
	is(t, c, state{version: 1, seq: 1<<31 - 1, confirmed: "<a>", doc: "<a>"})
}

func TestP20_1Batch(t *testing.T) {
	for n := range 20 {
		c := pending(t, 1, many(1, n)...)
		for range 2 {
			v, l := c.Batch()
			if v != 0 || !same(l, many(1, min(n, 8))) {
				t.Errorf("Batch of %d: %d, %v", n, v, l)
			}
		}
		done(t, c.Take(0, many(1, min(n, 3))))
		if v, l := c.Batch(); v != min(n, 3) || !same(l, many(1, n)[min(n, 3):min(n, 11)]) {
			t.Errorf("Batch of %d behind 3: %d, %v", n, v, l)
		}
	}
}

func TestP20_2TakeOfOthers(t *testing.T) {
	for _, x := range []struct {
		own, l []api.Entry
		want   state
	}{
		{nil, []api.Entry{put(1, 0, 1, "y")}, state{version: 1, confirmed: "<y>", doc: "<y>"}},
		{
			[]api.Entry{put(0, 0, 1, "x")}, []api.Entry{put(1, 0, 1, "y")},
			state{version: 1, seq: 1, confirmed: "<y>", pending: []api.Entry{put(0, 0, 2, "x")}, doc: "<yx>"},
		},
		{
			[]api.Entry{put(0, 0, 1, "x")}, []api.Entry{put(3, 77, 1, "y"), put(1, -5, 2, "z"), put(3, 2, 0, "_")},
			state{version: 3, seq: 1, confirmed: "_<yz>", pending: []api.Entry{put(0, 0, 4, "x")}, doc: "_<yzx>"},
		},
		// What was put into what is pending finds its place in it again.
		{
			[]api.Entry{put(0, 0, 1, "xy"), put(0, 1, 2, "z")}, []api.Entry{put(1, 0, 1, "q")},
			state{version: 1, seq: 2, confirmed: "<q>", pending: []api.Entry{put(0, 0, 2, "xy"), put(0, 1, 3, "z")}, doc: "<qxzy>"},
		},
		{
			[]api.Entry{put(0, 0, 1, "ab"), bold(0, 1, api.SMark, 2, 3), put(0, 2, 4, "_"), {Who: 0, Seq: 3, S: sample.Around(0, 0, 4, 4, "(", ")")}},
			[]api.Entry{put(2, 0, 1, "x"), put(2, 1, 2, "yz")},
			state{version: 2, seq: 4, confirmed: "<xyz>", pending: []api.Entry{
				put(0, 0, 4, "ab"), bold(0, 1, api.SMark, 5, 6), put(0, 2, 7, "_"), {Who: 0, Seq: 3, S: sample.Around(0, 0, 7, 7, "(", ")")},
			}, doc: "(<xyzaB>)_"},
		},
		{[]api.Entry{put(0, 0, 1, "x")}, []api.Entry{put(1, 0, 1, "")}, state{version: 1, seq: 1, confirmed: "<>", pending: []api.Entry{put(0, 0, 1, "x")}, doc: "<x>"}},
	} {
		c := pending(t, 0, x.own...)
		done(t, c.Take(0, x.l))
		is(t, c, x.want)
	}
}

func TestP20_2TakeOfOwn(t *testing.T) {
	l := []api.Entry{
		put(2, 0, 1, "ab"), bold(2, 1, api.SMark, 2, 3), put(2, 2, 0, "_"), cut(2, 3, 2, 3), bold(2, 4, api.SUnmark, 2, 3),
		{Who: 2, Seq: 5, S: sample.Around(1, 1, 4, 4, "(", ")")},
	}
	docs := []string{"<>", "<ab>", "<aB>", "_<aB>", "_<B>", "_<b>", "_(<b>)"}
	for n := range len(l) + 1 {
		for m := range n + 1 {
			c := pending(t, 2, l...)
			done(t, c.Take(0, l[:m]))
			is(t, c, state{version: m, seq: 6, confirmed: docs[m], pending: l[m:], doc: docs[6]})
			done(t, c.Take(m, l[m:n]))
			is(t, c, state{version: n, seq: 6, confirmed: docs[n], pending: l[n:], doc: docs[6]})
			done(t, c.Local(sample.Replace(0, 1, "")))
			is(t, c, state{version: n, seq: 7, confirmed: docs[n], pending: append(l[n:6:6], cut(2, 6, 0, 1)), doc: "(<b>)"})
		}
	}
}

// TestP20_2TakeOfOwnAsTheyAre: without others no step is sent anywhere, also none that remap would not keep.
func TestP20_2TakeOfOwnAsTheyAre(t *testing.T) {
	l := []api.Entry{
		put(0, 0, 1, "ab"), {Who: 0, Seq: 1, S: sample.Around(0, 1, 3, 4, "#", "'")}, cut(0, 2, 1, 3), put(0, 3, 1, ""),
		{Who: 0, Seq: 4, S: sample.Around(0, 1, 1, 2, "<", ">")},
	}
	c := pending(t, 0, l[:4]...)
	refused(t, c.Local(l[4].S), api.ErrArg)
	for i, doc := range []string{"<ab>", "#ab'", "#'", "#'"} {
		done(t, c.Take(i, l[i:i+1]))
		is(t, c, state{version: i + 1, seq: 4, confirmed: doc, pending: l[i+1 : 4], doc: "#'"})
	}
}

func TestP20_2TakeOfOwnAndOthers(t *testing.T) {
	own := []api.Entry{put(0, 0, 1, "ab"), put(0, 1, 2, "x"), put(0, 2, 0, "_")}
	others := []api.Entry{put(1, 0, 1, "o"), put(2, 0, 0, "_")}
	for _, x := range []struct {
		n, m int
		want state
	}{
		{0, 1, state{confirmed: "<o>", pending: []api.Entry{put(0, 0, 2, "ab"), put(0, 1, 3, "x"), put(0, 2, 0, "_")}, doc: "_<oaxb>"}},
		{0, 2, state{confirmed: "_<o>", pending: []api.Entry{put(0, 0, 3, "ab"), put(0, 1, 4, "x"), put(0, 2, 1, "_")}, doc: "__<oaxb>"}},
		{1, 1, state{confirmed: "<oab>", pending: []api.Entry{put(0, 1, 3, "x"), put(0, 2, 0, "_")}, doc: "_<oaxb>"}},
		{1, 2, state{confirmed: "_<oab>", pending: []api.Entry{put(0, 1, 4, "x"), put(0, 2, 1, "_")}, doc: "__<oaxb>"}},
		{2, 1, state{confirmed: "<oaxb>", pending: []api.Entry{put(0, 2, 0, "_")}, doc: "_<oaxb>"}},
		{2, 2, state{confirmed: "_<oaxb>", pending: []api.Entry{put(0, 2, 1, "_")}, doc: "__<oaxb>"}},
	} {
		c := pending(t, 0, own...)
		done(t, c.Take(0, slices.Concat(own[:x.n], others[:x.m])))
		x.want.version, x.want.seq = x.n+x.m, 3
		is(t, c, x.want)
	}
	c := pending(t, 0, own...)
	done(t, c.Take(0, slices.Concat(own, []api.Entry{put(1, 0, 2, "o"), rule(3, 0, 1)})))
	is(t, c, state{version: 5, seq: 3, confirmed: "_<oaxb>", doc: "_<oaxb>"})
}

func TestP20_2TakeLoses(t *testing.T) {
	c := fresh(t, 1, "<b><c>")
	l := []api.Entry{put(1, 0, 1, "x"), put(1, 1, 5, "y"), bold(1, 2, api.SMark, 2, 3), put(1, 3, 0, "_")}
	local(t, c, l...)
	is(t, c, state{seq: 4, confirmed: "<b><c>", pending: l, doc: "_<xB><yc>"})
	done(t, c.Take(0, []api.Entry{cut(0, 0, 0, 3)}))
	kept := []api.Entry{put(1, 1, 1, "y"), put(1, 3, 0, "_")}
	is(t, c, state{version: 1, seq: 4, lost: 2, confirmed: "<c>", pending: kept, doc: "_<yc>"})
	// The log has them as they are now, or not at all.
	refused(t, c.Take(1, []api.Entry{put(1, 1, 5, "y")}), api.ErrValid)
	refused(t, c.Take(1, []api.Entry{put(1, 0, 1, "x")}), api.ErrForm)
	done(t, c.Take(1, kept[:1]))
	is(t, c, state{version: 2, seq: 4, lost: 2, confirmed: "<yc>", pending: kept[1:], doc: "_<yc>"})
	local(t, c, put(1, 4, 2, "z"))
	is(t, c, state{version: 2, seq: 5, lost: 2, confirmed: "<yc>", pending: append(kept[1:2:2], put(1, 4, 2, "z")), doc: "_<zyc>"})
	done(t, c.Take(2, []api.Entry{{Who: 2, S: sample.Replace(0, 4, "`'")}}))
	is(t, c, state{version: 3, seq: 5, lost: 3, confirmed: "`'", pending: kept[1:], doc: "_`'"})
}

// TestP20_2TakeLosesWhatMayNotBe: what would be done at a document that is not valid, or too long, is lost too.
func TestP20_2TakeLosesWhatMayNotBe(t *testing.T) {
	long := strings.Repeat("_", api.MaxDoc-3)
	for _, x := range []struct {
		first   string
		own     api.Entry
		l       []api.Entry
		lost    int
		becomes string
	}{
		{"<a>", bold(1, 0, api.SMark, 1, 2), []api.Entry{{S: sample.Around(0, 1, 2, 3, "`", "'")}}, 1, "`a'"},
		{"<a>", put(1, 0, 1, "b"), []api.Entry{{S: sample.Around(0, 1, 2, 3, "`", "'")}}, 0, "`ba'"},
		{"<a>", put(1, 0, 1, "B"), []api.Entry{{S: sample.Around(0, 1, 2, 3, "`", "'")}}, 1, "`a'"},
		{"<>_", cut(1, 0, 0, 2), []api.Entry{cut(0, 0, 2, 3)}, 1, "<>"},
		{"<>" + long, put(1, 0, 0, "_"), []api.Entry{put(0, 0, 0, "_")}, 1, "_<>" + long},
		{"<>" + long, put(1, 0, 1, "x"), []api.Entry{cut(0, 0, 2, 3), put(0, 0, 0, "_")}, 0, "_<x>" + long[1:]},
	} {
		c := fresh(t, 1, x.first)
		local(t, c, x.own)
		done(t, c.Take(0, x.l))
		if c.Lost() != x.lost || len(c.Pending()) != 1-x.lost || !slices.Equal(c.Doc(), sample.Tokens(x.becomes)) {
			t.Errorf("behind %v at %.50s: %d lost, %v pending, %s", x.l, x.first, c.Lost(), c.Pending(), short(c.Doc()))
		}
	}
}

func TestP20_2TakeOfNothing(t *testing.T) {
	own := []api.Entry{put(0, 0, 1, "x"), put(0, 1, 0, "_")}
	for _, l := range [][]api.Entry{nil, {}} {
		c := pending(t, 0, own...)
		done(t, c.Take(0, l))
		is(t, c, state{seq: 2, confirmed: "<>", pending: own, doc: "_<x>"})
		done(t, c.Take(0, own[:1]))
		done(t, c.Take(1, l))
		is(t, c, state{version: 1, seq: 2, confirmed: "<x>", pending: own[1:], doc: "_<x>"})
	}
}

func TestP20_2TakeRefuses(t *testing.T) {
	x, y := put(1, 1, 2, "x"), put(1, 2, 3, "y")
	right, wrong := put(0, 0, 1, "o"), put(0, 0, 0, "o")
	for _, one := range []struct {
		version int
		l       []api.Entry
		want    api.Errno
	}{
		{0, nil, api.ErrStale},
		{2, nil, api.ErrStale},
		{-1, []api.Entry{right}, api.ErrStale},
		{0, []api.Entry{right}, api.ErrStale},
		{2, []api.Entry{right}, api.ErrStale},
		{math.MinInt, []api.Entry{right}, api.ErrStale},
		{math.MaxInt, []api.Entry{right}, api.ErrStale},
		{0, []api.Entry{wrong}, api.ErrStale},
		{0, []api.Entry{put(1, 9, 1, "z")}, api.ErrStale},
		{0, many(0, api.MaxLog+1), api.ErrStale},
		{2, many(0, api.MaxLog), api.ErrStale},
		{1, many(0, api.MaxLog), api.ErrFull},
		{1, many(0, api.MaxLog+500), api.ErrFull},
		{1, many(4, api.MaxLog), api.ErrFull},
		{1, many(1, api.MaxLog), api.ErrFull},
		{1, slices.Repeat([]api.Entry{wrong}, api.MaxLog), api.ErrFull},
		{1, []api.Entry{wrong}, api.ErrValid},
		{1, []api.Entry{right, wrong}, api.ErrValid},
		{1, []api.Entry{x, wrong}, api.ErrValid},
		{1, []api.Entry{put(0, 0, 4, "o")}, api.ErrValid},
		{1, []api.Entry{put(0, 0, -1, "o")}, api.ErrValid},
		{1, []api.Entry{put(0, 0, 1, ">")}, api.ErrValid},
		{1, []api.Entry{put(0, 0, 1, "!")}, api.ErrValid},
		{1, []api.Entry{put(0, 0, 1, "<>")}, api.ErrValid},
		{1, []api.Entry{cut(0, 0, 0, 3)}, api.ErrValid},
		{1, []api.Entry{cut(0, 0, 2, 1)}, api.ErrValid},
		{1, []api.Entry{{S: api.Step{K: 4}}}, api.ErrValid},
		{1, []api.Entry{{S: api.Step{Slice: slices.Repeat(sample.Tokens("_"), api.MaxDoc+1)}}}, api.ErrValid},
		{1, []api.Entry{{S: api.Step{Slice: slices.Repeat(sample.Tokens("_"), api.MaxDoc-2)}}}, api.ErrValid},
		{1, []api.Entry{put(0, 0, 0, strings.Repeat("(", 33)+strings.Repeat(")", 33))}, api.ErrValid},
		{1, []api.Entry{put(-1, 0, 1, "o")}, api.ErrValid},
		{1, []api.Entry{put(4, 0, 1, "o")}, api.ErrValid},
		{1, []api.Entry{put(math.MinInt, 0, 1, "o")}, api.ErrValid},
		{1, []api.Entry{put(math.MaxInt, 0, 1, "o")}, api.ErrValid},
		{1, []api.Entry{x, right, put(4, 0, 1, "o")}, api.ErrValid},
		{1, []api.Entry{put(1, 1, 0, "x")}, api.ErrValid},
		{1, []api.Entry{y}, api.ErrValid},
		{1, []api.Entry{y, x}, api.ErrValid},
		{1, []api.Entry{right, put(1, 1, 0, "x")}, api.ErrValid},
		{1, []api.Entry{put(1, 9, 1, "z"), wrong}, api.ErrValid},
		{1, []api.Entry{right, x, wrong}, api.ErrValid},
		{1, []api.Entry{put(1, 9, 1, "z"), put(4, 0, 1, "o")}, api.ErrValid},
		{1, []api.Entry{put(1, 2, 2, "x")}, api.ErrForm},
		{1, []api.Entry{put(1, 0, 2, "x")}, api.ErrForm},
		{1, []api.Entry{put(1, -1, 2, "x")}, api.ErrForm},
		{1, []api.Entry{put(1, 1, 1, "x")}, api.ErrForm},
		{1, []api.Entry{put(1, 1, 2, "z")}, api.ErrForm},
		{1, []api.Entry{put(1, 1, 2, "xx")}, api.ErrForm},
		{1, []api.Entry{put(1, 1, 2, "")}, api.ErrForm},
		{1, []api.Entry{cut(1, 1, 1, 2)}, api.ErrForm},
		{1, []api.Entry{{Who: 1, Seq: 1, S: sample.Replace(1, 2, "x")}}, api.ErrForm},
		{1, []api.Entry{bold(1, 1, api.SMark, 1, 2)}, api.ErrForm},
		{1, []api.Entry{put(1, 0, 1, "a")}, api.ErrForm},
		{1, []api.Entry{x, x}, api.ErrForm},
		{1, []api.Entry{x, put(1, 3, 3, "y")}, api.ErrForm},
		{1, []api.Entry{x, put(1, 2, 3, "z")}, api.ErrForm},
		{1, []api.Entry{put(1, 2, 2, "y"), x}, api.ErrForm},
		{1, []api.Entry{x, y, put(1, 3, 1, "z")}, api.ErrForm},
		{1, []api.Entry{x, y, right, put(1, 3, 1, "z")}, api.ErrForm},
		{1, []api.Entry{right, x}, api.ErrForm},
		{1, []api.Entry{x, right, y}, api.ErrForm},
		{1, []api.Entry{x, y, right, x}, api.ErrForm},
		{1, []api.Entry{right, put(1, 9, 1, "z")}, api.ErrForm},
		{1, append([]api.Entry{put(1, 9, 1, "z")}, many(0, 1001)...), api.ErrForm},
		{1, append([]api.Entry{x}, many(0, 1001)...), api.ErrLong},
		{1, many(0, 1001), api.ErrLong},
	} {
		c := pending(t, 1, put(1, 0, 1, "a"))
		done(t, c.Take(0, c.Pending()))
		local(t, c, x, y)
		if e := c.Take(one.version, one.l); e != one.want {
			t.Errorf("Take(%d, %s): %d, want %d", one.version, short(one.l), e, one.want)
		}
		is(t, c, state{version: 1, seq: 3, confirmed: "<a>", pending: []api.Entry{x, y}, doc: "<axy>"})
		done(t, c.Take(1, []api.Entry{x, right}))
		is(t, c, state{version: 3, seq: 3, confirmed: "<oax>", pending: []api.Entry{put(1, 2, 4, "y")}, doc: "<oaxy>"})
	}
}

// TestP20_2TakeOfOwnKinds: an own step must be the same in all fields, also where it does the same.
func TestP20_2TakeOfOwnKinds(t *testing.T) {
	for _, x := range []struct{ own, other api.Step }{
		{api.Step{K: api.SMark, From: 1, To: 2, Mark: 1}, api.Step{K: api.SMark, From: 1, To: 3, Mark: 1}},
		{api.Step{K: api.SMark, From: 1, To: 2, Mark: 1}, api.Step{K: api.SMark, From: 1, To: 2, Mark: 2}},
		{api.Step{K: api.SUnmark, From: 3, To: 4, Mark: 1}, api.Step{K: api.SMark, From: 3, To: 4, Mark: 1}},
		{sample.Replace(1, 2, "a"), sample.Replace(1, 1, "")},
		{sample.Around(0, 0, 3, 3, "(", ")"), sample.Replace(0, 3, "(<a>)")},
		{sample.Around(0, 0, 3, 3, "(", ")"), sample.Around(0, 0, 1, 3, "(", "a>)")},
		{sample.Around(0, 0, 3, 3, "_", ""), sample.Around(0, 0, 2, 3, "_", ">")},
	} {
		for range 2 {
			c := fresh(t, 0, "<a>_")
			done(t, c.Local(x.own))
			refused(t, c.Take(0, []api.Entry{{S: x.other}}), api.ErrForm)
			done(t, c.Take(0, []api.Entry{{S: x.own}}))
			if c.Version() != 1 || c.Pending() != nil || !slices.Equal(c.Confirmed(), c.Doc()) {
				t.Errorf("%v: %d, %v", x.own, c.Version(), c.Pending())
			}
			x.own, x.other = x.other, x.own
		}
	}
}

func TestP20_2TakeUpToMaxLog(t *testing.T) {
	for _, x := range []struct {
		own, others int
		want        api.Errno
	}{
		{0, 1000, api.OK},
		{0, 1001, api.ErrLong},
		{0, 1024, api.ErrLong},
		{0, 1025, api.ErrFull},
		{24, 1000, api.OK},
		{23, 1001, api.ErrLong},
		{25, 1000, api.ErrFull},
		{24, 1001, api.ErrFull},
		{500, 524, api.OK},
		{500, 525, api.ErrFull},
	} {
		l := many(1, 500)
		c := pending(t, 1, l...)
		refused(t, c.Take(0, slices.Concat(l[:x.own], many(2, x.others))), x.want)
		want := state{seq: 500, confirmed: "<>", pending: l, doc: "<>"}
		if x.want == api.OK {
			want.version, want.pending = x.own+x.others, l[x.own:]
		}
		is(t, c, want)
	}
}

// TestP20_2TakeOfManyWithoutPending: so many others are too long also where nothing is sent behind them.
func TestP20_2TakeOfManyWithoutPending(t *testing.T) {
	c := fresh(t, 1, "<>")
	refused(t, c.Take(0, many(2, 1001)), api.ErrLong)
	is(t, c, state{confirmed: "<>", doc: "<>"})
	done(t, c.Take(0, many(2, 1000)))
	done(t, c.Take(1000, many(2, 23)))
	done(t, c.Take(1023, []api.Entry{put(0, 0, 1, "x")}))
	is(t, c, state{version: 1024, confirmed: "<x>", doc: "<x>"})
	refused(t, c.Take(1024, []api.Entry{put(0, 0, 1, "x")}), api.ErrFull)
	refused(t, c.Take(1025, nil), api.ErrStale)
	done(t, c.Take(1024, nil))
	local(t, c, put(1, 0, 1, "y"))
	refused(t, c.Take(1024, c.Pending()), api.ErrFull)
	is(t, c, state{version: 1024, seq: 1, confirmed: "<x>", pending: []api.Entry{put(1, 0, 1, "y")}, doc: "<yx>"})
}

func TestP20_3Reset(t *testing.T) {
	own := []api.Entry{put(1, 0, 1, "a"), put(1, 1, 2, "b"), put(1, 2, 0, "_")}
	for _, version := range []int{1, 2, 500, api.MaxLog} {
		for _, doc := range []string{"<>", "<ab>", "(<B>)_", "[{<x>}{#'}]`a\n'", strings.Repeat("<>", api.MaxDoc/2)} {
			c := pending(t, 1, own...)
			done(t, c.Take(0, own[:1]))
			done(t, c.Reset(version, sample.Tokens(doc)))
			is(t, c, state{version: version, seq: 3, lost: 2, confirmed: doc, doc: doc})
			done(t, c.Reset(version, sample.Tokens("_<>")))
			is(t, c, state{version: version, seq: 3, lost: 2, confirmed: "_<>", doc: "_<>"})
			local(t, c, put(1, 3, 2, "z"))
			is(t, c, state{version: version, seq: 4, lost: 2, confirmed: "_<>", pending: []api.Entry{put(1, 3, 2, "z")}, doc: "_<z>"})
			if version < api.MaxLog {
				done(t, c.Take(version, []api.Entry{put(2, 0, 2, "y")}))
				is(t, c, state{version: version + 1, seq: 4, lost: 2, confirmed: "_<y>", pending: []api.Entry{put(1, 3, 3, "z")}, doc: "_<yz>"})
			}
		}
	}
}

func TestP20_3ResetOfTheBeginning(t *testing.T) {
	c := fresh(t, 0, "<>")
	done(t, c.Reset(0, sample.Tokens("<x>")))
	is(t, c, state{confirmed: "<x>", doc: "<x>"})
	local(t, c, put(0, 0, 1, "a"))
	done(t, c.Reset(0, sample.Tokens("<>")))
	is(t, c, state{seq: 1, lost: 1, confirmed: "<>", doc: "<>"})
}

// TestP20_3ResetForgets: what was pending is not known any more.
func TestP20_3ResetForgets(t *testing.T) {
	c := pending(t, 0, put(0, 0, 1, "a"))
	done(t, c.Reset(0, sample.Tokens("<>")))
	refused(t, c.Take(0, []api.Entry{put(0, 0, 1, "a")}), api.ErrForm)
	local(t, c, put(0, 1, 1, "a"))
	refused(t, c.Take(0, []api.Entry{put(0, 0, 1, "a")}), api.ErrForm)
	done(t, c.Take(0, []api.Entry{put(0, 1, 1, "a")}))
	is(t, c, state{version: 1, seq: 2, lost: 1, confirmed: "<a>", doc: "<a>"})
}

func TestP20_3ResetRefuses(t *testing.T) {
	own := []api.Entry{put(1, 0, 1, "a"), put(1, 1, 2, "b"), put(1, 2, 0, "_")}
	for _, x := range []struct {
		version int
		doc     []api.Token
		want    api.Errno
	}{
		{-1, sample.Tokens("<>"), api.ErrArg},
		{math.MinInt, sample.Tokens("<>"), api.ErrArg},
		{api.MaxLog + 1, sample.Tokens("<>"), api.ErrArg},
		{math.MaxInt, sample.Tokens("<>"), api.ErrArg},
		{-1, nil, api.ErrArg},
		{api.MaxLog + 1, sample.Tokens("<a"), api.ErrArg},
		{0, sample.Tokens("<>"), api.ErrStale},
		{1, sample.Tokens("<>"), api.ErrStale},
		{0, nil, api.ErrStale},
		{1, sample.Tokens("<a!>"), api.ErrStale},
		{2, nil, api.ErrValid},
		{2, []api.Token{}, api.ErrValid},
		{3, sample.Tokens("a"), api.ErrValid},
		{2, sample.Tokens("<<>>"), api.ErrValid},
		{api.MaxLog, sample.Tokens("[]"), api.ErrValid},
		{2, sample.Tokens("<a!>"), api.ErrForm},
		{2, sample.Tokens("<>>"), api.ErrForm},
		{9, sample.Tokens("<a"), api.ErrShort},
		{2, slices.Repeat(sample.Tokens("<>"), api.MaxDoc/2+1), api.ErrLong},
		{2, slices.Repeat(sample.Tokens("("), api.MaxDeep+1), api.ErrDeep},
	} {
		c := pending(t, 1, own...)
		done(t, c.Take(0, own[:2]))
		if e := c.Reset(x.version, x.doc); e != x.want {
			t.Errorf("Reset(%d, %s): %d, want %d", x.version, short(x.doc), e, x.want)
		}
		is(t, c, state{version: 2, seq: 3, confirmed: "<ab>", pending: own[2:], doc: "_<ab>"})
	}
}

func TestP20_4NilAndUnmade(t *testing.T) {
	var none *Client
	for _, c := range []*Client{nil, none, {}, new(Client)} {
		for range 2 {
			for _, e := range []api.Errno{
				c.Local(sample.Replace(0, 0, "")), c.Local(api.Step{K: 9}), c.Local(sample.Replace(0, 0, "<>")),
				c.Take(0, nil), c.Take(-1, nil), c.Take(0, []api.Entry{put(0, 0, 0, "<>")}), c.Take(0, many(4, api.MaxLog+1)),
				c.Reset(0, sample.Tokens("<>")), c.Reset(-1, nil), c.Reset(0, nil),
			} {
				refused(t, e, api.ErrZero)
			}
			if v, l := c.Batch(); v != 0 || l != nil {
				t.Errorf("Batch: %d, %v", v, l)
			}
			if c.Doc() != nil || c.Confirmed() != nil || c.Pending() != nil {
				t.Errorf("%v, %v, %v", c.Doc(), c.Confirmed(), c.Pending())
			}
			if c.Version() != 0 || c.Lost() != 0 || c.Seq() != 0 {
				t.Errorf("%d, %d, %d", c.Version(), c.Lost(), c.Seq())
			}
		}
	}
}

func TestListsAreNotShared(t *testing.T) {
	first, text, other, doc := sample.Tokens("<yz>"), sample.Tokens("abc"), sample.Tokens("opq"), sample.Tokens("<k>_")
	c, e := New(1, first[:4])
	done(t, e)
	done(t, c.Local(api.Step{From: 1, To: 1, Slice: text[:2]}))
	l := []api.Entry{{Who: 0, S: api.Step{From: 1, To: 1, Slice: other[:2]}}, put(2, 2, 2, "x")}
	if !slices.Equal(first, sample.Tokens("<yz>")) || !slices.Equal(text, sample.Tokens("abc")) {
		t.Errorf("what was handed in has changed: %v, %v", first, text)
	}
	first[1].N, text[0].N = 'q', 'q'
	answersAreNew(t, c, state{seq: 1, confirmed: "<yz>", pending: []api.Entry{put(1, 0, 1, "ab")}, doc: "<abyz>"})
	done(t, c.Take(0, l[:1]))
	if !slices.Equal(other, sample.Tokens("opq")) || l[0].Seq != 0 || l[1].Who != 2 {
		t.Errorf("what was handed in has changed: %v, %v", other, l)
	}
	other[0].N, l[0].Seq = 'q', 9
	local(t, c, put(1, 1, 0, "_"))
	answersAreNew(t, c, state{
		version: 1, seq: 2, confirmed: "<opyz>", pending: []api.Entry{put(1, 0, 3, "ab"), put(1, 1, 0, "_")}, doc: "_<opabyz>",
	})
	done(t, c.Reset(1, doc[:3]))
	if !slices.Equal(doc, sample.Tokens("<k>_")) {
		t.Errorf("what was handed in has changed: %v", doc)
	}
	doc[1].N = 'q'
	answersAreNew(t, c, state{version: 1, seq: 2, lost: 2, confirmed: "<k>", doc: "<k>"})
}

// answersAreNew writes into all that a client answers; it must tell want before and behind.
func answersAreNew(t *testing.T, c *Client, want state) {
	t.Helper()
	is(t, c, want)
	_, batch := c.Batch()
	for _, out := range [][]api.Entry{batch, c.Pending()} {
		for i := range out {
			out[i].Seq, out[i].S.Slice[0].N = 9, 'q'
			_ = append(out[i].S.Slice, sample.Tokens("rst")...)
		}
		_ = append(out, put(3, 3, 3, "q"))
	}
	for _, out := range [][]api.Token{c.Doc(), c.Confirmed()} {
		out[1].N = 'q'
		_ = append(out[:2], sample.Tokens("rst")...)
	}
	is(t, c, want)
}

// TestTakeLeavesTheListAlone: what comes is cut without room, so that nothing is written behind it.
func TestTakeLeavesTheListAlone(t *testing.T) {
	c := pending(t, 1, put(1, 0, 1, "a"), put(1, 1, 2, "b"))
	l := []api.Entry{put(1, 0, 1, "a"), put(0, 0, 1, "o"), put(3, 7, 7, "far")}
	done(t, c.Take(0, l[:2]))
	local(t, c, put(1, 2, 1, "c"), put(1, 3, 1, "d"))
	done(t, c.Take(2, nil))
	if !same(l, []api.Entry{put(1, 0, 1, "a"), put(0, 0, 1, "o"), put(3, 7, 7, "far")}) {
		t.Errorf("what was handed in has changed: %v", l)
	}
}

func TestClientsGoTheirOwnWays(t *testing.T) {
	a, b := pending(t, 0, put(0, 0, 1, "a")), pending(t, 0, put(0, 0, 1, "a"))
	local(t, a, put(0, 1, 2, "x"))
	local(t, b, put(0, 1, 2, "y"))
	done(t, a.Take(0, []api.Entry{put(0, 0, 1, "a")}))
	is(t, a, state{version: 1, seq: 2, confirmed: "<a>", pending: []api.Entry{put(0, 1, 2, "x")}, doc: "<ax>"})
	is(t, b, state{seq: 2, confirmed: "<>", pending: []api.Entry{put(0, 0, 1, "a"), put(0, 1, 2, "y")}, doc: "<ay>"})
}
