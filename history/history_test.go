package history

import (
	"fmt"
	"math"
	"slices"
	"strings"
	"testing"

	"emender/api"
	"emender/flat"
	"emender/pos"
	"emender/remap"
	"emender/sample"
	"emender/schema"
	"emender/step"
)

// put answers the step that puts text in at a place.
func put(at int, text string) api.Step {
	return sample.Replace(at, at, text)
}

// cut answers the step that takes out what is between two places.
func cut(from int, to int) api.Step {
	return sample.Replace(from, to, "")
}

func marking(from int, to int, m int) api.Step {
	return api.Step{K: api.SMark, From: from, To: to, Mark: m}
}

func unmarking(from int, to int, m int) api.Step {
	return api.Step{K: api.SUnmark, From: from, To: to, Mark: m}
}

// quoting answers the step that puts a quote around what is between two places.
func quoting(from int, to int) api.Step {
	return sample.Around(from, from, to, to, "(", ")")
}

// lifting answers the step that takes out the first and the last token between two places.
func lifting(from int, to int) api.Step {
	return sample.Around(from, from+1, to-1, to, "", "")
}

// short tells what may be long.
func short(v any) string {
	return fmt.Sprintf("%.200s", fmt.Sprint(v))
}

// fresh answers a new history.
func fresh(t *testing.T, first string) *History {
	t.Helper()
	h, e := New(sample.Tokens(first))
	if h == nil || e != api.OK {
		t.Fatalf("New(%s): %v, %d", short(first), h, e)
	}
	return h
}

// local answers a new history with these own steps done.
func local(t *testing.T, first string, l ...api.Step) *History {
	t.Helper()
	h := fresh(t, first)
	for _, s := range l {
		answers(t, h.Local(s), api.OK)
	}
	return h
}

func answers(t *testing.T, e api.Errno, want api.Errno) {
	t.Helper()
	if e != want {
		t.Errorf("the answer is %d, want %d", e, want)
	}
}

// tells holds what Undo or Redo answers against a step that it tells.
func tells(t *testing.T, call func() (api.Step, api.Errno), want api.Step) {
	t.Helper()
	if s, e := call(); !step.Same(s, want) || e != api.OK {
		t.Errorf("told is %s, %d; want %s", short(s), e, short(want))
	}
}

// refuses holds what Undo or Redo answers against an error.
func refuses(t *testing.T, call func() (api.Step, api.Errno), want api.Errno) {
	t.Helper()
	if s, e := call(); !step.Same(s, api.Step{}) || e != want {
		t.Errorf("told is %s, %d; want %d", short(s), e, want)
	}
}

// is holds all that a history tells against what is wanted.
func is(t *testing.T, h *History, doc string, undos int, redos int, lost int) {
	t.Helper()
	if want := sample.Tokens(doc); !slices.Equal(h.Doc(), want) {
		t.Errorf("the document is %s, want %s", short(h.Doc()), short(want))
	}
	if h.Undos() != undos || h.Redos() != redos || h.Lost() != lost {
		t.Errorf("%d undos, %d redos, %d lost; want %d, %d, %d", h.Undos(), h.Redos(), h.Lost(), undos, redos, lost)
	}
}

func TestP24_1New(t *testing.T) {
	for _, first := range []string{"<>", "<ab>", "_", "(<B>)_", "[{<x>}{#'}]`a\n'", strings.Repeat("<>", api.MaxDoc/2)} {
		h := fresh(t, first)
		is(t, h, first, 0, 0, 0)
		refuses(t, h.Undo, api.ErrNone)
		refuses(t, h.Redo, api.ErrNone)
		is(t, h, first, 0, 0, 0)
	}
}

func TestP24_1NewRefuses(t *testing.T) {
	for _, x := range []struct {
		first []api.Token
		want  api.Errno
	}{
		{nil, api.ErrValid},
		{[]api.Token{}, api.ErrValid},
		{sample.Tokens("a"), api.ErrValid},
		{sample.Tokens("<<>>"), api.ErrValid},
		{sample.Tokens("[]"), api.ErrValid},
		{sample.Tokens("<a!>"), api.ErrForm},
		{sample.Tokens("<>>"), api.ErrForm},
		{[]api.Token{{K: math.MinInt, T: math.MaxInt}}, api.ErrForm},
		{sample.Tokens("<a"), api.ErrShort},
		{slices.Repeat(sample.Tokens("<>"), api.MaxDoc/2+1), api.ErrLong},
		{slices.Repeat(sample.Tokens("("), api.MaxDeep+1), api.ErrDeep},
	} {
		if h, e := New(x.first); h != nil || e != x.want {
			t.Errorf("New(%s): %v, %d; want %d", short(x.first), h, e, x.want)
		}
	}
}

// TestP24_1Local: each own step is done, and what undoes it is on top.
func TestP24_1Local(t *testing.T) {
	h := fresh(t, "<>")
	backs := []api.Step{}
	for i, x := range []struct {
		s    api.Step
		doc  string
		back api.Step
	}{
		{put(1, "abc"), "<abc>", cut(1, 4)},
		{quoting(0, 5), "(<abc>)", lifting(0, 7)},
		{marking(3, 4, api.Strong), "(<aBc>)", unmarking(3, 4, api.Strong)},
		{put(7, "_"), "(<aBc>)_", cut(7, 8)},
		{sample.Replace(2, 3, "E"), "(<EBc>)_", sample.Replace(2, 3, "a")},
		{unmarking(2, 4, api.Strong), "(<Ebc>)_", sample.Replace(2, 4, "EB")},
		{put(3, "><"), "(<E><bc>)_", cut(3, 5)},
		{put(0, ""), "(<E><bc>)_", put(0, "")},
		{cut(1, 4), "(<bc>)_", put(1, "<E>")},
		{lifting(0, 6), "<bc>_", quoting(0, 4)},
	} {
		answers(t, h.Local(x.s), api.OK)
		is(t, h, x.doc, i+1, 0, 0)
		backs = append(backs, x.back)
	}
	for _, back := range slices.Backward(backs) {
		tells(t, h.Undo, back)
	}
	is(t, h, "<>", 0, 10, 0)
}

// wrongSteps are steps that can't be done at a document, and why not.
func wrongSteps() []struct {
	s    api.Step
	want api.Errno
} {
	return []struct {
		s    api.Step
		want api.Errno
	}{
		{api.Step{K: 4}, api.ErrArg},
		{api.Step{K: math.MinInt}, api.ErrArg},
		{sample.Replace(-1, 0, ""), api.ErrArg},
		{sample.Replace(2, 1, ""), api.ErrArg},
		{sample.Replace(8, 8, ""), api.ErrArg},
		{sample.Replace(math.MinInt, math.MaxInt, ""), api.ErrArg},
		{put(1, "!"), api.ErrArg},
		{api.Step{Mark: 1}, api.ErrArg},
		{marking(1, 1, 1), api.ErrArg},
		{marking(1, 2, 3), api.ErrArg},
		{api.Step{From: 9, To: 9, Slice: slices.Repeat(sample.Tokens("_"), api.MaxDoc+1)}, api.ErrLong},
		{api.Step{Slice: slices.Repeat(sample.Tokens("_"), api.MaxDoc-6)}, api.ErrLong},
		{put(1, "<"), api.ErrForm},
		{put(0, ">"), api.ErrForm},
		{cut(0, 1), api.ErrForm},
		{put(0, strings.Repeat("(", 33)+strings.Repeat(")", 33)), api.ErrDeep},
		{put(0, "x"), api.ErrValid},
		{put(1, "<>"), api.ErrValid},
		{cut(4, 6), api.ErrValid},
		{cut(0, 7), api.ErrValid},
		{put(1, "\n"), api.ErrValid},
		{sample.Around(0, 0, 7, 7, "[", "]"), api.ErrValid},
	}
}

// TestP24_1And2Refuse: what can't be done changes nothing, the redos too.
func TestP24_1And2Refuse(t *testing.T) {
	h := local(t, "<>", put(1, "a"), put(3, "(<>)"), put(2, "b"))
	tells(t, h.Undo, cut(2, 3))
	answers(t, h.Local(cut(7, 7)), api.OK)
	tells(t, h.Undo, put(7, ""))
	for _, x := range wrongSteps() {
		for _, call := range []func(api.Step) api.Errno{h.Local, h.Remote} {
			if e := call(x.s); e != x.want {
				t.Errorf("of %s: %d, want %d", short(x.s), e, x.want)
			}
			is(t, h, "<a>(<>)", 2, 1, 0)
		}
	}
	tells(t, h.Undo, cut(3, 7))
	tells(t, h.Undo, cut(1, 2))
	tells(t, h.Redo, put(1, "a"))
	is(t, h, "<a>", 1, 2, 0)
}

// TestP24_1LocalEndsRedos: an own step leaves nothing to be done again, and what could be is not lost.
func TestP24_1LocalEndsRedos(t *testing.T) {
	h := local(t, "<>", put(1, "a"), put(2, "b"), put(3, "c"))
	tells(t, h.Undo, cut(3, 4))
	tells(t, h.Undo, cut(2, 3))
	is(t, h, "<a>", 1, 2, 0)
	answers(t, h.Local(put(1, "x")), api.OK)
	is(t, h, "<xa>", 2, 0, 0)
	refuses(t, h.Redo, api.ErrNone)
	tells(t, h.Undo, cut(1, 2))
	tells(t, h.Undo, cut(1, 2))
	is(t, h, "<>", 0, 2, 0)
	tells(t, h.Redo, put(1, "a"))
	tells(t, h.Redo, put(1, "x"))
	is(t, h, "<xa>", 2, 0, 0)
}

// TestP24_1LocalUpTo100: of more undos the lowest go, and are not lost.
func TestP24_1LocalUpTo100(t *testing.T) {
	h := fresh(t, "<>")
	docs := []string{"<>"}
	for i := range 250 {
		text := string(rune('a' + i%26))
		answers(t, h.Local(put(1+i, text)), api.OK)
		docs = append(docs, strings.TrimSuffix(docs[i], ">")+text+">")
		is(t, h, docs[i+1], min(i+1, 100), 0, 0)
	}
	for range 2 {
		for i := range 100 {
			tells(t, h.Undo, cut(250-i, 251-i))
			is(t, h, docs[249-i], 99-i, i+1, 0)
		}
		refuses(t, h.Undo, api.ErrNone)
		is(t, h, docs[150], 0, 100, 0)
		for i := range 100 {
			tells(t, h.Redo, put(151+i, docs[250][151+i:152+i]))
			is(t, h, docs[151+i], i+1, 99-i, 0)
		}
		refuses(t, h.Redo, api.ErrNone)
		is(t, h, docs[250], 100, 0, 0)
	}
}

// TestP24_2Example is the chapter's one.
func TestP24_2Example(t *testing.T) {
	h := local(t, "<>", put(1, "x"))
	answers(t, h.Remote(put(1, "y")), api.OK)
	is(t, h, "<yx>", 1, 0, 0)
	tells(t, h.Undo, cut(2, 3))
	is(t, h, "<y>", 0, 1, 0)
	tells(t, h.Redo, put(2, "x"))
	is(t, h, "<yx>", 1, 0, 0)
}

// TestP24_2Remote: each of the undos is sent, with the other's step as it is there.
func TestP24_2Remote(t *testing.T) {
	for _, x := range []struct {
		first string
		own   []api.Step
		s     api.Step
		doc   string
		undos []api.Step // the top one first
		then  string
	}{
		{"<a>", nil, put(1, "x"), "<xa>", nil, "<xa>"},
		{"<>", []api.Step{put(1, "a"), put(2, "b")}, put(1, "y"), "<yab>", []api.Step{cut(3, 4), cut(2, 3)}, "<y>"},
		{"<>", []api.Step{put(1, "a"), put(2, "b")}, put(2, "y"), "<ayb>", []api.Step{cut(3, 4), cut(1, 2)}, "<y>"},
		{"<>", []api.Step{put(1, "a"), put(2, "b")}, put(3, "y"), "<aby>", []api.Step{cut(2, 3), cut(1, 2)}, "<y>"},
		// The one below stands ahead of what the top one brings back, and the other's step with it.
		{"<abcd>", []api.Step{cut(4, 5), cut(1, 3)}, put(2, "y"), "<cy>", []api.Step{put(1, "ab"), put(5, "d")}, "<abcyd>"},
		{"<abcd>", []api.Step{put(5, "q"), cut(1, 3)}, cut(1, 3), "<q>", []api.Step{put(1, "ab"), cut(3, 4)}, "<ab>"},
		{"<>", []api.Step{put(1, "abc"), marking(2, 3, api.Strong)}, put(2, "x"), "<axBc>", []api.Step{unmarking(3, 4, api.Strong), cut(1, 5)}, "<>"},
		{"<a>", []api.Step{put(1, "q")}, quoting(0, 4), "(<qa>)", []api.Step{cut(2, 3)}, "(<a>)"},
		{"(<a>)", []api.Step{put(2, "q"), lifting(0, 6)}, put(2, "x"), "<qxa>", []api.Step{quoting(0, 5), cut(2, 3)}, "(<xa>)"},
	} {
		h := local(t, x.first, x.own...)
		answers(t, h.Remote(x.s), api.OK)
		is(t, h, x.doc, len(x.undos), 0, 0)
		for _, s := range x.undos {
			tells(t, h.Undo, s)
		}
		is(t, h, x.then, 0, len(x.undos), 0)
	}
}

// TestP24_2RemoteLoses: what can't be sent is lost, and the other's step goes on to those below as it is.
func TestP24_2RemoteLoses(t *testing.T) {
	for _, x := range []struct {
		first string
		own   []api.Step
		s     api.Step
		doc   string
		lost  int
		undos []api.Step // the top one first
		then  string
	}{
		{"<>", []api.Step{put(1, "a")}, sample.Replace(0, 3, "_"), "_", 1, nil, "_"},
		{"<>", []api.Step{put(1, "a"), put(2, "b"), put(3, "c")}, sample.Replace(0, 5, "_"), "_", 3, nil, "_"},
		{"<ab>", []api.Step{put(1, "q"), put(3, "xyz")}, cut(2, 7), "<q>", 1, []api.Step{cut(1, 2)}, "<>"},
		{"<ab>_", []api.Step{put(5, "_"), put(2, "xyz")}, cut(1, 6), "<>__", 1, []api.Step{cut(1, 1)}, "<>__"},
		// Had it gone through what is lost, the one below would be kept.
		{"<a><b>", []api.Step{put(4, "q"), put(2, "xyz")}, cut(0, 6), "<qb>", 2, nil, "<qb>"},
		// Two quotes around one thing: neither can go through the other.
		{"(<a>)", []api.Step{put(2, "q"), lifting(0, 6)}, quoting(0, 4), "(<qa>)", 1, []api.Step{cut(3, 4)}, "(<q>)"},
		// The end of the gap is touched.
		{"(<a>)", []api.Step{put(2, "q"), lifting(0, 6)}, put(4, "_"), "<qa>_", 1, []api.Step{cut(2, 3)}, "<q>_"},
		// Marks that have no text any more.
		{"<ab>", []api.Step{put(2, "x"), marking(2, 3, api.Em)}, cut(1, 3), "<b>", 1, []api.Step{cut(1, 1)}, "<b>"},
		{"<ab>", []api.Step{put(2, "x"), marking(2, 3, api.Em)}, cut(1, 4), "<>", 2, nil, "<>"},
	} {
		h := local(t, x.first, x.own...)
		answers(t, h.Remote(x.s), api.OK)
		is(t, h, x.doc, len(x.undos), 0, x.lost)
		for _, s := range x.undos {
			tells(t, h.Undo, s)
		}
		refuses(t, h.Undo, api.ErrNone)
		is(t, h, x.then, 0, len(x.undos), x.lost)
	}
}

// TestP24_2RemoteEnds: where the other's step can't be sent, those below stay as they are, and are not lost.
func TestP24_2RemoteEnds(t *testing.T) {
	for _, x := range []struct {
		first string
		own   []api.Step
		s     api.Step
		doc   string
		undos []api.Step // the top one first
		then  string
	}{
		// What others put into own text goes with it.
		{"<>", []api.Step{put(1, "a"), put(2, "bc")}, put(3, "y"), "<abyc>", []api.Step{cut(2, 5), cut(1, 2)}, "<>"},
		{"<ab>", []api.Step{put(3, "c"), put(2, "xyz")}, put(3, "y"), "<axyyzbc>", []api.Step{cut(2, 6), cut(3, 4)}, "<ab>"},
		// Marked text goes, and the marks with it.
		{"<>", []api.Step{put(1, "a"), put(2, "bc")}, marking(2, 3, api.Strong), "<aBc>", []api.Step{cut(2, 4), cut(1, 2)}, "<>"},
	} {
		h := local(t, x.first, x.own...)
		answers(t, h.Remote(x.s), api.OK)
		is(t, h, x.doc, len(x.undos), 0, 0)
		for _, s := range x.undos {
			tells(t, h.Undo, s)
		}
		is(t, h, x.then, 0, len(x.undos), 0)
	}
}

// TestP24_2RemoteOfRedos: they are sent as the undos are, with the other's step as it was at first.
func TestP24_2RemoteOfRedos(t *testing.T) {
	h := local(t, "<>", put(1, "ab"), put(3, "c"), put(4, "d"))
	tells(t, h.Undo, cut(4, 5))
	tells(t, h.Undo, cut(3, 4))
	answers(t, h.Remote(put(2, "y")), api.OK) // it goes no further than into the undo of a and b
	is(t, h, "<ayb>", 1, 2, 0)
	tells(t, h.Redo, put(4, "c"))
	tells(t, h.Redo, put(5, "d"))
	is(t, h, "<aybcd>", 3, 0, 0)
	for _, s := range []api.Step{cut(5, 6), cut(4, 5), cut(1, 4)} {
		tells(t, h.Undo, s)
	}
	is(t, h, "<>", 0, 3, 0)
}

// TestP24_2RemoteLosesRedos: both stacks count.
func TestP24_2RemoteLosesRedos(t *testing.T) {
	h := local(t, "<a><b>", put(1, "x"), put(2, "y"), put(2, "z"), put(0, "_"))
	for _, s := range []api.Step{cut(0, 1), cut(2, 3), cut(2, 3)} {
		tells(t, h.Undo, s)
	}
	is(t, h, "<xa><b>", 1, 3, 0)
	answers(t, h.Remote(cut(0, 4)), api.OK)
	is(t, h, "<b>", 0, 1, 3)
	refuses(t, h.Undo, api.ErrNone)
	tells(t, h.Redo, put(0, "_"))
	refuses(t, h.Redo, api.ErrNone)
	is(t, h, "_<b>", 1, 0, 3)
	answers(t, h.Remote(sample.Replace(0, 4, "_")), api.OK)
	is(t, h, "_", 1, 0, 3)
}

// undoable answers a history whose top undo may be done, and the one below it not.
func undoable(t *testing.T) *History {
	t.Helper()
	h := local(t, "<a><b>", put(2, "z"), put(1, "q"), cut(5, 8))
	answers(t, h.Remote(quoting(0, 5)), api.OK) // it can't be sent through what comes at its end
	is(t, h, "(<qaz>)", 3, 0, 0)
	return h
}

func TestP24_3Undo(t *testing.T) {
	h := undoable(t)
	tells(t, h.Undo, put(7, "<b>"))
	is(t, h, "(<qaz>)<b>", 2, 1, 0)
	refuses(t, h.Undo, api.ErrValid) // it takes out the < at 1
	is(t, h, "(<qaz>)<b>", 1, 1, 1)
	tells(t, h.Undo, cut(2, 3)) // it was to take out the z, at 2 then
	is(t, h, "(<az>)<b>", 0, 2, 1)
	refuses(t, h.Undo, api.ErrNone)
	is(t, h, "(<az>)<b>", 0, 2, 1)
	tells(t, h.Redo, put(2, "q"))
	tells(t, h.Redo, cut(7, 10))
	is(t, h, "(<qaz>)", 2, 0, 1)
}

func TestP24_3Redo(t *testing.T) {
	h := local(t, "<a>", put(3, "<b>"), put(0, ""), put(1, "q"), put(3, "z"))
	for _, s := range []api.Step{cut(3, 4), cut(1, 2), put(0, ""), cut(3, 6)} {
		tells(t, h.Undo, s)
	}
	answers(t, h.Remote(quoting(0, 3)), api.OK) // it can't be sent through what comes at its end
	is(t, h, "(<a>)", 0, 4, 0)
	tells(t, h.Redo, put(5, "<b>"))
	tells(t, h.Redo, put(0, ""))
	refuses(t, h.Redo, api.ErrValid) // it puts the q at 1, into the quote
	is(t, h, "(<a>)<b>", 2, 1, 1)
	tells(t, h.Redo, put(3, "z"))
	is(t, h, "(<az>)<b>", 3, 0, 1)
	refuses(t, h.Redo, api.ErrNone)
	for _, s := range []api.Step{cut(3, 4), put(0, ""), cut(5, 8)} {
		tells(t, h.Undo, s)
	}
	refuses(t, h.Undo, api.ErrNone)
	is(t, h, "(<a>)", 0, 3, 1)
}

// TestP24_3OfApply: also what step.Apply refuses is told as ErrValid.
func TestP24_3OfApply(t *testing.T) {
	h := local(t, "<>", put(1, strings.Repeat("x", 2000)), cut(1, 2001))
	answers(t, h.Remote(put(1, strings.Repeat("y", 1000))), api.OK)
	refuses(t, h.Undo, api.ErrValid) // it would be too long
	is(t, h, "<"+strings.Repeat("y", 1000)+">", 1, 0, 1)
	refuses(t, h.Undo, api.ErrValid) // it would reach beyond the end
	is(t, h, "<"+strings.Repeat("y", 1000)+">", 0, 0, 2)
	refuses(t, h.Undo, api.ErrNone)
	answers(t, h.Local(put(1, "x")), api.OK)
	tells(t, h.Undo, cut(1, 2))
	is(t, h, "<"+strings.Repeat("y", 1000)+">", 0, 1, 2)
}

func TestP24_4(t *testing.T) {
	for _, h := range []*History{nil, new(History), {}} {
		for range 2 {
			for _, s := range []api.Step{{}, put(1, "x"), put(1, "!"), {K: 9}, put(math.MinInt, "")} {
				answers(t, h.Local(s), api.ErrZero)
				answers(t, h.Remote(s), api.ErrZero)
			}
			refuses(t, h.Undo, api.ErrZero)
			refuses(t, h.Redo, api.ErrZero)
			is(t, h, "", 0, 0, 0)
		}
	}
}

// candidates answers steps of all kinds at a document of so many tokens, some of which may not be done.
func candidates(length int) []api.Step {
	var l []api.Step
	for from := range length + 1 {
		for to := from; to <= min(length, from+3); to++ {
			for _, slice := range []string{"", "x", "yz", "><", "_", "<q>"} {
				l = append(l, sample.Replace(from, to, slice))
			}
		}
		for to := from + 1; to <= length; to++ {
			l = append(l, marking(from, to, api.Em), marking(from, to, api.Code), unmarking(from, to, api.Strong), quoting(from, to))
			if to-from > 2 {
				l = append(l, lifting(from, to), sample.Around(from, from+1, to-1, to, "#", "'"))
			}
		}
	}
	return l
}

// undone undoes all that h has done, and does all again; docs are the documents from the first one on.
func undone(t *testing.T, h *History, docs [][]api.Token) {
	t.Helper()
	n := len(docs) - 1
	for range 2 {
		for i := n - 1; i >= 0; i-- {
			if s, e := h.Undo(); e != api.OK || !flat.Same(h.Doc(), docs[i]) {
				t.Fatalf("Undo tells %v, %d: %v, not %v", s, e, h.Doc(), docs[i])
			}
		}
		for i := range n {
			if s, e := h.Redo(); e != api.OK || !flat.Same(h.Doc(), docs[i+1]) {
				t.Fatalf("Redo tells %v, %d: %v, not %v", s, e, h.Doc(), docs[i+1])
			}
		}
	}
	if h.Undos() != n || h.Redos() != 0 || h.Lost() != 0 {
		t.Fatalf("%d undos, %d redos, %d lost; want %d", h.Undos(), h.Redos(), h.Lost(), n)
	}
}

// TestP24_5Undone: what was done is undone to what was, what is undone is done again.
func TestP24_5Undone(t *testing.T) {
	for _, first := range []string{"<>", "<aBC>", "(<a>_)", "<a><E>"} {
		base := sample.Tokens(first)
		for _, s := range candidates(len(base)) {
			h := fresh(t, first)
			if h.Local(s) == api.OK {
				undone(t, h, [][]api.Token{base, h.Doc()})
			}
		}
	}
	for seed := range uint32(12) {
		h := fresh(t, "<ab>(<C>_)")
		docs := [][]api.Token{h.Doc()}
		for _, n := range sample.Mixed(seed, 150, 1<<20) {
			l := candidates(len(h.Doc()))
			if h.Local(l[n%len(l)]) == api.OK {
				docs = append(docs, h.Doc())
			}
		}
		if len(docs) < 20 {
			t.Errorf("of the row %d only %d are done", seed, len(docs)-1)
		}
		undone(t, h, docs)
	}
}

// plain is a history in the chapter's words; the top of a stack is its last one.
type plain struct {
	doc   []api.Token
	undos []api.Step
	redos []api.Step
	lost  int
	saw   map[string]int // what came to pass, of all rows
}

// do does s, and answers what undoes it.
func (p *plain) do(s api.Step) (api.Step, api.Errno) {
	then, e := step.Apply(p.doc, s)
	if e != api.OK {
		return api.Step{}, e
	}
	if _, e := schema.House().Check(then); e != api.OK {
		return api.Step{}, e
	}
	back, _ := step.Invert(p.doc, s)
	p.doc = then
	return back, api.OK
}

func (p *plain) local(s api.Step) api.Errno {
	back, e := p.do(s)
	if e != api.OK {
		return e
	}
	p.undos = append(slices.Clone(p.undos), back)
	if len(p.undos) > 100 {
		p.undos = p.undos[1:]
		p.saw["the lowest goes"]++
	}
	p.redos = nil
	return api.OK
}

func (p *plain) remote(s api.Step) api.Errno {
	if _, e := p.do(s); e != api.OK {
		return e
	}
	p.undos = p.sent(p.undos, s)
	p.redos = p.sent(p.redos, s)
	return api.OK
}

// sent answers a stack as it is behind x.
func (p *plain) sent(l []api.Step, x api.Step) []api.Step {
	then := slices.Clone(l)
	for i := len(l) - 1; i >= 0; i-- {
		item, itemOK := throughMap(l[i], x)
		next, nextOK := throughMap(x, l[i])
		switch {
		case !itemOK && !nextOK:
			p.saw["neither is sent"]++
		case !itemOK:
			p.saw["an item is lost"]++
		case !nextOK && i > 0:
			p.saw["those below stay"]++
		}
		if !itemOK {
			then = slices.Delete(then, i, i+1)
			p.lost++
			continue
		}
		then[i] = item
		if !nextOK {
			break
		}
		x = next
	}
	return then
}

// throughMap sends s through the map of another one.
func throughMap(s, other api.Step) (api.Step, bool) {
	m := pos.New()
	ranges, _ := step.Map(other)
	m.Add(ranges)
	return remap.Step(s, m, 0)
}

func (p *plain) undo() (api.Step, api.Errno) {
	if len(p.undos) == 0 {
		return api.Step{}, api.ErrNone
	}
	top := p.undos[len(p.undos)-1]
	p.undos = slices.Clone(p.undos[:len(p.undos)-1])
	back, e := p.do(top)
	if e != api.OK {
		p.lost++
		p.saw["a top is refused"]++
		return api.Step{}, api.ErrValid
	}
	p.redos = append(slices.Clone(p.redos), back)
	return top, api.OK
}

func (p *plain) redo() (api.Step, api.Errno) {
	p.undos, p.redos = p.redos, p.undos
	s, e := p.undo()
	p.undos, p.redos = p.redos, p.undos
	return s, e
}

// isPlain holds all of h against p.
func isPlain(t *testing.T, h *History, p *plain) {
	t.Helper()
	if !flat.Same(h.Doc(), p.doc) || h.Undos() != len(p.undos) || h.Redos() != len(p.redos) || h.Lost() != p.lost {
		t.Fatalf("%v, %d undos, %d redos, %d lost; want %v, %d, %d, %d", h.Doc(), h.Undos(), h.Redos(), h.Lost(), p.doc, len(p.undos), len(p.redos), p.lost)
	}
	if !slices.EqualFunc(h.undos, p.undos, step.Same) || !slices.EqualFunc(h.redos, p.redos, step.Same) {
		t.Fatalf("the stacks are %v, %v; want %v, %v", h.undos, h.redos, p.undos, p.redos)
	}
	if at, e := schema.House().Check(h.Doc()); e != api.OK {
		t.Fatalf("the document %v is not valid at %d: %d", h.Doc(), at, e)
	}
}

// act is a call: 0 Local, 1 Remote, 2 Undo, 3 Redo.
type act struct {
	call int
	s    api.Step
}

// acted does a at h and at p, and holds what they answer against each other.
func acted(t *testing.T, h *History, p *plain, a act) {
	t.Helper()
	var got, want api.Step
	var e, of api.Errno
	switch a.call {
	case 0:
		e, of = h.Local(a.s), p.local(a.s)
	case 1:
		e, of = h.Remote(a.s), p.remote(a.s)
	case 2:
		got, e = h.Undo()
		want, of = p.undo()
	default:
		got, e = h.Redo()
		want, of = p.redo()
	}
	if !step.Same(got, want) || e != of {
		t.Fatalf("of %v: %v, %d; want %v, %d", a, got, e, want, of)
	}
}

// TestAllShortRows holds a history against the chapter's words at all rows of three acts, behind each of two beginnings.
func TestAllShortRows(t *testing.T) {
	acts := []act{{call: 2}, {call: 3}}
	for _, s := range []api.Step{put(1, "x"), put(3, "yz"), cut(1, 3), put(2, "><"), quoting(0, 4), marking(1, 3, api.Strong), cut(0, 2)} {
		acts = append(acts, act{0, s}, act{1, s})
	}
	saw := map[string]int{}
	for _, first := range []string{"<ab>", "(<a>)<b>"} {
		for _, row := range sample.Rows(acts, 3) {
			h := fresh(t, first)
			p := &plain{doc: sample.Tokens(first), saw: saw}
			for _, a := range row {
				acted(t, h, p, a)
			}
			isPlain(t, h, p)
		}
	}
	for _, what := range []string{"an item is lost", "those below stay"} {
		if saw[what] == 0 {
			t.Errorf("no row has seen that %s", what)
		}
	}
}

// TestLongRows holds a history against the chapter's words at long rows of acts.
func TestLongRows(t *testing.T) {
	saw := map[string]int{}
	shares := [][]int{{0, 0, 0, 0, 1}, {0, 0, 0, 1, 2}, {0, 0, 0, 1, 1, 2, 2, 3}, {0, 0, 1, 1, 1, 2, 3}} // which calls a row has, and how often
	for seed := range uint32(60) {
		share := shares[seed%4]
		h := fresh(t, "<ab>(<C>_)")
		p := &plain{doc: sample.Tokens("<ab>(<C>_)"), saw: saw}
		l := sample.Mixed(seed, 2*200, 1<<20)
		for i := 0; i < len(l); i += 2 {
			steps := candidates(min(len(p.doc), 30))
			acted(t, h, p, act{share[l[i]%len(share)], steps[l[i+1]%len(steps)]})
			isPlain(t, h, p)
		}
	}
	for _, what := range []string{"the lowest goes", "neither is sent", "an item is lost", "those below stay", "a top is refused"} {
		if saw[what] == 0 {
			t.Errorf("no row has seen that %s", what)
		}
	}
}

// TestWhatIsHandedInStays hands in lists with room behind them, writes over them and over all that is answered, and finds the history as it was.
func TestWhatIsHandedInStays(t *testing.T) {
	room := sample.Tokens("<ab><c>xyz")
	first, slice := room[:4], room[7:9]
	h, e := New(first)
	answers(t, e, api.OK)
	answers(t, h.Local(api.Step{From: 1, To: 1, Slice: slice}), api.OK)
	answers(t, h.Local(api.Step{From: 3, To: 5}), api.OK)
	answers(t, h.Remote(api.Step{From: 3, To: 3, Slice: slice[:1]}), api.OK)
	if !slices.Equal(room, sample.Tokens("<ab><c>xyz")) {
		t.Errorf("what was handed in is changed: %v", room)
	}
	clear(room)
	is(t, h, "<xyx>", 2, 0, 0)
	overwrite := func(l []api.Token) {
		clear(l[:cap(l)])
	}
	overwrite(h.Doc())
	is(t, h, "<xyx>", 2, 0, 0)
	for range 3 {
		for _, x := range []struct {
			call func() (api.Step, api.Errno)
			want api.Step
			doc  string
		}{
			{h.Undo, put(4, "ab"), "<xyxab>"}, {h.Undo, cut(1, 3), "<xab>"},
			{h.Redo, put(1, "xy"), "<xyxab>"}, {h.Redo, cut(4, 6), "<xyx>"},
		} {
			s, e := x.call()
			if !step.Same(s, x.want) || e != api.OK || !slices.Equal(h.Doc(), sample.Tokens(x.doc)) {
				t.Errorf("told is %v, %d, the document %v; want %v, %s", s, e, h.Doc(), x.want, x.doc)
			}
			overwrite(s.Slice)
			if !slices.Equal(h.Doc(), sample.Tokens(x.doc)) {
				t.Errorf("the document has become %v, want %s", h.Doc(), x.doc)
			}
		}
	}
}

// TestNewKeepsItsOwn: what is handed in may become what it will.
func TestNewKeepsItsOwn(t *testing.T) {
	room := sample.Tokens("<ab>xyz")
	h, e := New(room[:4])
	answers(t, e, api.OK)
	clear(room)
	is(t, h, "<ab>", 0, 0, 0)
	answers(t, h.Local(put(3, "c")), api.OK)
	is(t, h, "<abc>", 1, 0, 0)
}

// TestStacksStay: nothing is written over the top of a stack that is cut or sent.
func TestStacksStay(t *testing.T) {
	for _, x := range []struct {
		s    api.Step
		then stack
		lost int
	}{
		{put(1, "x"), stack{cut(2, 3), cut(4, 5), cut(3, 6)}, 0},
		{put(4, "x"), stack{cut(1, 2), cut(3, 4), cut(2, 6)}, 0}, // it goes no further than the top
		{cut(1, 6), stack{cut(1, 1)}, 2},
		{cut(0, 8), nil, 3},
	} {
		l := stack{cut(1, 2), cut(3, 4), cut(2, 5)}
		if then, lost := l.behind(x.s); !slices.EqualFunc(then, x.then, step.Same) || lost != x.lost {
			t.Errorf("behind %v: %v, %d lost; want %v, %d", x.s, then, lost, x.then, x.lost)
		}
		top, below := l.cut()
		_ = append(below, x.s)
		if !step.Same(top, cut(2, 5)) || !slices.EqualFunc(l, stack{cut(1, 2), cut(3, 4), cut(2, 5)}, step.Same) {
			t.Errorf("the stack has become %v", l)
		}
	}
}

// TestEmptyIsNil: a slice without tokens is none.
func TestEmptyIsNil(t *testing.T) {
	h := local(t, "<a>", api.Step{From: 1, To: 2, Slice: []api.Token{}}, api.Step{K: api.SAround, To: 2, GapTo: 2, Slice: []api.Token{}})
	answers(t, h.Remote(api.Step{From: 1, To: 1, Slice: []api.Token{}}), api.OK)
	is(t, h, "<>", 2, 0, 0)
	tells(t, h.Undo, sample.Around(0, 0, 2, 2, "", ""))
	tells(t, h.Undo, put(1, "a"))
	is(t, h, "<a>", 0, 2, 0)
}
