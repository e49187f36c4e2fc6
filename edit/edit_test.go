package edit

import (
	"math"
	"reflect"
	"slices"
	"strings"
	"testing"

	"emender/api"
	"emender/flat"
	"emender/mark"
	"emender/sample"
	"emender/schema"
	"emender/step"
)

// put answers the SReplace with the tokens of a text.
func put(from int, to int, s string) api.Step {
	return api.Step{K: api.SReplace, From: from, To: to, Slice: sample.Tokens(s)}
}

// gap answers the SAround with the tokens of two texts.
func gap(from int, to int, gapFrom int, gapTo int, ahead string, behind string) api.Step {
	return api.Step{K: api.SAround, From: from, To: to, GapFrom: gapFrom, GapTo: gapTo, Slice: sample.Tokens(ahead + behind), Insert: len(sample.Tokens(ahead))}
}

// told fails unless a command has told the step want, which makes the document then of s.
func told(t *testing.T, s string, then string, want api.Step, got api.Step, e api.Errno) {
	t.Helper()
	if !step.Same(got, want) || e != api.OK {
		t.Errorf("%s: %v, %d; want %v", s, got, e, want)
		return
	}
	if l, e := step.Apply(sample.Tokens(s), got); !flat.Same(l, sample.Tokens(then)) || e != api.OK {
		t.Errorf("%s: makes %v, %d; want %s", s, l, e, then)
	}
}

// refused fails unless a command has answered the error want, and nothing beside it.
func refused(t *testing.T, what string, want api.Errno, got api.Step, e api.Errno) {
	t.Helper()
	if e != want || !reflect.DeepEqual(got, api.Step{}) {
		t.Errorf("%s: %v, %d; want %d", what, got, e, want)
	}
}

func TestInsert(t *testing.T) {
	c := schema.House()
	for _, x := range []struct {
		s    string
		at   int
		text string
		then string
	}{
		{"<>", 1, "x", "<x>"},
		{"<ab>", 2, "x", "<axb>"},
		{"<ab>", 1, "xyz", "<xyzab>"},
		{"<ab>", 3, "BEC", "<abBEC>"},
		{"<ab>", 2, "", "<ab>"},
		{"_", 0, "", "_"},
		{"_", 1, "", "_"},
		{"`a'", 2, "\n", "`a\n'"},
		{"[{#>}]", 3, "x", "[{#x>}]"},
	} {
		s, e := Insert(c, sample.Tokens(x.s), x.at, sample.Tokens(x.text))
		told(t, x.s, x.then, put(x.at, x.at, x.text), s, e)
	}
	for _, x := range []struct {
		s    string
		at   int
		text string
		want api.Errno
	}{
		{"<a>", 0, "x", api.ErrValid},
		{"<a>", 3, "x", api.ErrValid},
		{"(<a>)", 1, "x", api.ErrValid},
		{"<a>", 1, "\n", api.ErrValid},
		{"`a'", 1, "B", api.ErrValid},
		{"<a>", 1, "<", api.ErrArg},
		{"<a>", 1, ">", api.ErrArg},
		{"<a>", 1, "_", api.ErrArg},
		{"<a>", 1, "xy<>", api.ErrArg},
		{"<a>", 0, "<>", api.ErrArg},
		{"<a>", 0, "_", api.ErrArg},
		{"<a>", 1, "!", api.ErrArg},
		{"<a>", 1, strings.Repeat("x", api.MaxDoc+1), api.ErrLong},
		{"<a>", 1, strings.Repeat("x", api.MaxDoc), api.ErrLong},
		{"<a>", 1, strings.Repeat("x", api.MaxDoc+1) + "<", api.ErrArg},
	} {
		s, e := Insert(c, sample.Tokens(x.s), x.at, sample.Tokens(x.text))
		refused(t, x.s+" with "+x.text, x.want, s, e)
	}
	for _, kind := range []int{math.MinInt, -1, 4, math.MaxInt} {
		s, e := Insert(c, sample.Tokens("<a>"), 1, []api.Token{{K: kind}})
		refused(t, "Insert of a kind that is none", api.ErrArg, s, e)
	}
	for _, wrong := range []api.Token{{N: 0xD800}, {N: 0x110000}, {N: 'x', T: 1}, {N: 'x', M: 5}, {N: 'x', M: -1}} {
		s, e := Insert(c, sample.Tokens("<a>"), 1, []api.Token{wrong})
		refused(t, "Insert of a wrong TRune", api.ErrArg, s, e)
	}
}

func TestDelete(t *testing.T) {
	c := schema.House()
	for _, x := range []struct {
		s        string
		from, to int
		then     string
	}{
		{"<ab>", 1, 2, "<b>"},
		{"<ab>", 1, 3, "<>"},
		{"<ab>", 2, 2, "<ab>"},
		{"<ab>", 0, 0, "<ab>"},
		{"<ab>", 4, 4, "<ab>"},
		{"<ab><c>", 2, 5, "<ac>"},
		{"<ab><c>", 0, 4, "<c>"},
		{"_<c>", 1, 4, "_"},
	} {
		s, e := Delete(c, sample.Tokens(x.s), x.from, x.to)
		told(t, x.s, x.then, put(x.from, x.to, ""), s, e)
	}
	for _, x := range []struct {
		s        string
		from, to int
		want     api.Errno
	}{
		{"<a>", 0, 3, api.ErrValid},
		{"(<a>)", 1, 4, api.ErrValid},
		{"(<a>)<b>", 0, 1, api.ErrForm},
		{"(<a>)", 1, 2, api.ErrForm},
		{"<a>", 0, 2, api.ErrForm},
		{"<a>", 1, 3, api.ErrForm}, // what is left open is told as ErrForm
		{"<a>", 2, 1, api.ErrArg},
		{"<a>", 0, 4, api.ErrArg},
		{"<a>", -1, 2, api.ErrArg},
		{"<a>", 3, 2, api.ErrArg},
		{"<a>", -1, -1, api.ErrArg},
		{"<a>", 4, 4, api.ErrArg},
		{"<a>", math.MinInt, math.MaxInt, api.ErrArg},
		{"<a>", math.MaxInt, math.MinInt, api.ErrArg},
	} {
		s, e := Delete(c, sample.Tokens(x.s), x.from, x.to)
		refused(t, x.s, x.want, s, e)
	}
}

func TestSplit(t *testing.T) {
	c := schema.House()
	for _, x := range []struct {
		s        string
		at       int
		between  string
		then     string
		expected api.Errno
	}{
		{"<ab>", 2, "><", "<a><b>", api.OK},
		{"<ab>", 1, "><", "<><ab>", api.OK},
		{"<ab>", 3, "><", "<ab><>", api.OK},
		{"<>", 1, "><", "<><>", api.OK},
		{"#ab>", 2, ">#", "#a>#b>", api.OK},
		{"(<a><b>)", 4, ")(", "(<a>)(<b>)", api.OK},
		{"[{<a>}{<b>}]", 6, "][", "[{<a>}][{<b>}]", api.OK},
		{"[{<a>_}]", 5, "}{", "[{<a>}{_}]", api.OK},
		{"<a>", 0, "", "", api.ErrNone},
		{"<a>", 3, "", "", api.ErrNone},
		{"<a>_", 3, "", "", api.ErrNone},
		{"_", 0, "", "", api.ErrNone},
		{"(<a>)", 1, "", "", api.ErrValid},
		{"(<a>)", 4, "", "", api.ErrValid},
		{"<a>", -1, "", "", api.ErrArg},
		{"<a>", 4, "", "", api.ErrArg},
	} {
		s, e := Split(c, sample.Tokens(x.s), x.at)
		if x.expected != api.OK {
			refused(t, x.s, x.expected, s, e)
			continue
		}
		told(t, x.s, x.then, put(x.at, x.at, x.between), s, e)
	}
	// The new one has the N of the old one.
	l := []api.Token{sample.Open(api.Head, 4), {N: 'a'}, {K: api.TClose}}
	s, e := Split(c, l, 1)
	if want := []api.Token{{K: api.TClose}, sample.Open(api.Head, 4)}; !flat.Same(s.Slice, want) || e != api.OK {
		t.Errorf("Split: %v, %d", s, e)
	}
}

func TestJoin(t *testing.T) {
	c := schema.House()
	for _, x := range []struct {
		s    string
		at   int
		then string
		want api.Errno
	}{
		{"<a><b>", 3, "<ab>", api.OK},
		{"<><>", 2, "<>", api.OK},
		{"<a>#b>", 3, "<ab>", api.OK},
		{"#a><b>", 3, "#ab>", api.OK},
		{"(<a>)(<b>)", 5, "(<a><b>)", api.OK},
		{"[{<a>}][{<b>}]", 7, "[{<a>}{<b>}]", api.OK},
		{"[{<a>}{<b>}]", 6, "[{<a><b>}]", api.OK},
		{"<a>`b'", 3, "<ab>", api.OK},
		{"<a>(<b>)", 3, "", api.ErrValid},
		{"(<a>)<b>", 5, "", api.ErrValid},
		{"<a>`\n'", 3, "", api.ErrValid},
		{"`a'<B>", 3, "", api.ErrValid},
		{"<a><b>", 0, "", api.ErrNone},
		{"<a><b>", 1, "", api.ErrNone},
		{"<a><b>", 2, "", api.ErrNone},
		{"<a><b>", 4, "", api.ErrNone},
		{"<a><b>", 6, "", api.ErrNone},
		{"<a>_", 3, "", api.ErrNone},
		{"_<a>", 1, "", api.ErrNone},
		{"(<a>)", 4, "", api.ErrNone},
		{"(<a>)", 1, "", api.ErrNone},
		{"<>", 1, "", api.ErrNone},
		{"<a><b>", -1, "", api.ErrArg},
		{"<a><b>", 7, "", api.ErrArg},
	} {
		s, e := Join(c, sample.Tokens(x.s), x.at)
		if x.want != api.OK {
			refused(t, x.s, x.want, s, e)
			continue
		}
		told(t, x.s, x.then, put(x.at-1, x.at+1, ""), s, e)
	}
}

func TestRetype(t *testing.T) {
	c := schema.House()
	for _, x := range []struct {
		s           string
		at, kind, n int
		from        int
		want        api.Errno
	}{
		{"<a>", 1, api.Head, 2, 0, api.OK},
		{"<a>", 2, api.Head, 6, 0, api.OK},
		{"<a>", 2, api.Para, 0, 0, api.OK},
		{"#a>", 1, api.Para, 0, 0, api.OK},
		{"#a>", 1, api.Head, 3, 0, api.OK},
		{"<a>", 1, api.Block, 0, 0, api.OK},
		{"[{<a>}]", 1, api.List, 1, 0, api.OK},
		{"(<a>#b>)", 6, api.Para, 0, 4, api.OK},
		{"<a>", 1, api.Head, 0, 0, api.ErrValid},
		{"<a>", 1, api.Head, 7, 0, api.ErrValid},
		{"<a>", 1, api.Para, 1, 0, api.ErrValid},
		{"<a>", 1, api.Quote, 0, 0, api.ErrValid},
		{"<>", 1, api.Quote, 0, 0, api.ErrValid},
		{"<>", 1, api.Rule, 0, 0, api.ErrValid},
		{"<>", 1, api.Item, 0, 0, api.ErrValid},
		{"<>", 1, 8, 0, 0, api.ErrValid},
		{"<>", 1, api.MaxTypes - 1, 15, 0, api.ErrValid},
		{"<B>", 1, api.Block, 0, 0, api.ErrValid},
		{"[{<a>}]", 1, api.List, 2, 0, api.ErrValid},
		{"<a>", 1, 0, 0, 0, api.ErrArg},
		{"<a>", 1, api.MaxTypes, 0, 0, api.ErrArg},
		{"<a>", 1, -1, 0, 0, api.ErrArg},
		{"<a>", 1, math.MinInt, 0, 0, api.ErrArg},
		{"<a>", 1, math.MaxInt, 0, 0, api.ErrArg},
		{"<a>", 1, api.Head, -1, 0, api.ErrArg},
		{"<a>", 1, api.Head, 16, 0, api.ErrArg},
		{"<a>", 1, api.Head, math.MinInt, 0, api.ErrArg},
		{"<a>", 1, api.Head, math.MaxInt, 0, api.ErrArg},
		{"<a>", 0, api.Head, 2, 0, api.ErrNone},
		{"<a>", 3, api.Head, 2, 0, api.ErrNone},
		// That there is none is told ahead of what it can't become, and a wrong place ahead of both.
		{"<a>", 0, 0, 0, 0, api.ErrNone},
		{"<a>", 0, api.Head, 16, 0, api.ErrNone},
		{"<a>", 3, -1, -1, 0, api.ErrNone},
		{"<a>", -1, api.Head, 2, 0, api.ErrArg},
		{"<a>", 4, api.Head, 2, 0, api.ErrArg},
	} {
		s, e := Retype(c, sample.Tokens(x.s), x.at, x.kind, x.n)
		if x.want != api.OK {
			refused(t, x.s, x.want, s, e)
			continue
		}
		want := api.Step{K: api.SReplace, From: x.from, To: x.from + 1, Slice: []api.Token{sample.Open(x.kind, x.n)}}
		if !step.Same(s, want) || e != api.OK {
			t.Errorf("Retype(%s, %d, %d, %d): %v, %d; want %v", x.s, x.at, x.kind, x.n, s, e, want)
		}
	}
}

func TestToggle(t *testing.T) {
	c := schema.House()
	for _, x := range []struct {
		s        string
		from, to int
		m        int
		kind     int
		want     api.Errno
	}{
		{"<ab>", 0, 4, api.Em, api.SMark, api.OK},
		{"<ab>", 1, 2, api.Strong, api.SMark, api.OK},
		{"<ab>", 1, 3, api.Code, api.SMark, api.OK},
		{"<BB>", 1, 3, api.Strong, api.SUnmark, api.OK},
		{"<BB>", 1, 3, api.Em, api.SMark, api.OK},
		{"<BB>", 1, 3, api.Code, api.SMark, api.OK},
		{"<CC>", 0, 4, api.Code, api.SUnmark, api.OK},
		{"<EC>", 0, 4, api.Em, api.SMark, api.OK},
		// One without the mark is enough, wherever it stands, but only between the two.
		{"<Ba>", 1, 3, api.Strong, api.SMark, api.OK},
		{"<aB>", 1, 3, api.Strong, api.SMark, api.OK},
		{"<BaB>", 1, 4, api.Strong, api.SMark, api.OK},
		{"<aBa>", 2, 3, api.Strong, api.SUnmark, api.OK},
		// What is no text does not count.
		{"<B>_(<B>)", 0, 9, api.Strong, api.SUnmark, api.OK},
		{"<B>_(<b>)", 0, 9, api.Strong, api.SMark, api.OK},
		{"`a'", 0, 3, api.Em, 0, api.ErrValid},
		{"<a>`b'", 0, 6, api.Em, 0, api.ErrValid},
		{"<a>", 1, 1, api.Em, 0, api.ErrNone},
		{"<a>", 0, 1, api.Em, 0, api.ErrNone},
		{"<>", 0, 2, api.Strong, 0, api.ErrNone},
		{"<a>_<b>", 2, 5, api.Strong, 0, api.ErrNone},
		{"_", 0, 1, api.Strong, 0, api.ErrNone},
		{"<a>", 1, 2, 0, 0, api.ErrArg},
		{"<a>", 1, 2, 3, 0, api.ErrArg},
		{"<a>", 1, 2, 5, 0, api.ErrArg},
		{"<a>", 1, 2, 8, 0, api.ErrArg},
		{"<a>", 1, 2, -1, 0, api.ErrArg},
		{"<a>", 1, 2, math.MinInt, 0, api.ErrArg},
		{"<a>", 1, 2, math.MaxInt, 0, api.ErrArg},
		{"<>", 0, 2, 3, 0, api.ErrArg},
		{"<a>", 2, 1, api.Em, 0, api.ErrArg},
		{"<a>", -1, 1, api.Em, 0, api.ErrArg},
		{"<a>", 1, 4, api.Em, 0, api.ErrArg},
	} {
		s, e := Toggle(c, sample.Tokens(x.s), x.from, x.to, x.m)
		if x.want != api.OK {
			refused(t, x.s, x.want, s, e)
			continue
		}
		want := api.Step{K: x.kind, From: x.from, To: x.to, Mark: x.m}
		if !step.Same(s, want) || e != api.OK {
			t.Errorf("Toggle(%s, %d, %d, %d): %v, %d; want %v", x.s, x.from, x.to, x.m, s, e, want)
		}
	}
}

func TestWrap(t *testing.T) {
	c := schema.House()
	for _, x := range []struct {
		s        string
		from, to int
		around   string
		ends     string
		then     string
	}{
		{"<a><b>", 0, 3, "(", ")", "(<a>)<b>"},
		{"<a><b>", 3, 6, "(", ")", "<a>(<b>)"},
		{"<a><b>", 0, 6, "(", ")", "(<a><b>)"},
		{"<a>", 0, 3, "[{", "}]", "[{<a>}]"},
		{"<a>", 0, 3, "(([{", "}]))", "(([{<a>}]))"},
		{"_", 0, 1, "(", ")", "(_)"},
		{"(_<a>)", 2, 5, "(", ")", "(_(<a>))"},
		{"[{<a>}]", 2, 5, "[{", "}]", "[{[{<a>}]}]"},
		// A TClose ends what is innermost, whichever it was written for.
		{"<a>", 0, 2, "(", ")", "(<a>)"},
	} {
		s, e := Wrap(c, sample.Tokens(x.s), x.from, x.to, sample.Tokens(x.around)...)
		told(t, x.s, x.then, gap(x.from, x.to, x.from, x.to, x.around, x.ends), s, e)
	}
	for _, x := range []struct {
		s        string
		from, to int
		around   string
		want     api.Errno
	}{
		{"<a>", 0, 3, "<", api.ErrValid},
		{"<a>", 0, 3, "[", api.ErrValid},
		{"<a>", 0, 3, "{", api.ErrValid},
		{"<a>", 0, 3, "{[", api.ErrValid},
		{"<a>", 1, 2, "(", api.ErrValid},
		{"<a>", 1, 2, "<", api.ErrValid},
		{"<a><b>", 2, 4, "(", api.ErrValid},
		{"<a>", 0, 3, "", api.ErrArg},
		{"<a>", 0, 3, ")", api.ErrArg},
		{"<a>", 0, 3, "x", api.ErrArg},
		{"<a>", 0, 3, "_", api.ErrArg},
		{"<a>", 0, 3, "(x", api.ErrArg},
		{"<a>", 0, 3, "([_", api.ErrArg},
		{"<a>", 0, 0, "(", api.ErrNone},
		{"<a>", 3, 3, "(", api.ErrNone},
		{"<a>", 2, 2, "<", api.ErrNone},
		{"<a>", 3, 3, "", api.ErrArg},
		{"<a>", 3, 3, "_", api.ErrArg},
		{"<a>", 2, 1, "(", api.ErrArg},
		{"<a>", -1, 3, "(", api.ErrArg},
		{"<a>", 0, 4, "(", api.ErrArg},
		{"<a>", 0, 3, strings.Repeat("(", api.MaxDeep-1), api.OK},
		{"<a>", 0, 3, strings.Repeat("(", api.MaxDeep), api.ErrDeep},
		{"<a>", 0, 3, strings.Repeat("(", api.MaxDoc/2-2), api.ErrDeep},
		{"<a>", 0, 3, strings.Repeat("(", api.MaxDoc/2), api.ErrLong},
		{"<a>", 0, 3, strings.Repeat("(", api.MaxDoc/2+1), api.ErrLong},
		{"<a>", 0, 3, strings.Repeat("(", api.MaxDoc+1), api.ErrLong},
		{"<a>", 0, 0, strings.Repeat("(", api.MaxDoc+1), api.ErrNone},
	} {
		s, e := Wrap(c, sample.Tokens(x.s), x.from, x.to, sample.Tokens(x.around)...)
		if x.want == api.OK {
			if e != api.OK {
				t.Errorf("Wrap(%s) in %d: %d", x.s, len(x.around), e)
			}
			continue
		}
		refused(t, x.s+" in "+x.around, x.want, s, e)
	}
	// A TOpen that is not right has the right kind: the step is refused, behind what the command refuses.
	for _, wrong := range []api.Token{sample.Open(0, 0), sample.Open(16, 0), sample.Open(3, 16), sample.Open(3, -1), {K: api.TOpen, T: 3, M: 1}} {
		s, e := Wrap(c, sample.Tokens("<a>"), 0, 3, wrong)
		refused(t, "Wrap in a wrong TOpen", api.ErrArg, s, e)
		s, e = Wrap(c, sample.Tokens("<a>"), 0, 0, wrong)
		refused(t, "Wrap of nothing in a wrong TOpen", api.ErrNone, s, e)
	}
	s, e := Wrap(c, sample.Tokens("<a>"), 0, 3, sample.Open(api.List, 1), sample.Open(api.Item, 0))
	if want := []api.Token{sample.Open(api.List, 1), sample.Open(api.Item, 0), {K: api.TClose}, {K: api.TClose}}; !flat.Same(s.Slice, want) || e != api.OK {
		t.Errorf("Wrap in a list with numbers: %v, %d", s, e)
	}
}

func TestLift(t *testing.T) {
	c := schema.House()
	for _, x := range []struct {
		s    string
		at   int
		then string
		want api.Step
	}{
		// Of an only child.
		{"(<a>)", 2, "<a>", gap(0, 5, 1, 4, "", "")},
		{"(<a>)", 3, "<a>", gap(0, 5, 1, 4, "", "")},
		{"(<>)", 2, "<>", gap(0, 4, 1, 3, "", "")},
		{"_(<a>)_", 3, "_<a>_", gap(1, 6, 2, 5, "", "")},
		{"((<a>))", 3, "(<a>)", gap(1, 6, 2, 5, "", "")},
		{"((<a>))", 2, "(<a>)", gap(0, 7, 1, 6, "", "")},
		{"((<a>))", 5, "(<a>)", gap(0, 7, 1, 6, "", "")},
		{"((_<a>))", 2, "(_<a>)", gap(0, 8, 1, 7, "", "")},
		// Of the first.
		{"(<a><b>)", 2, "<a>(<b>)", gap(0, 4, 1, 4, "", "(")},
		{"(<a>_)", 3, "<a>(_)", gap(0, 4, 1, 4, "", "(")},
		{"(<a><b>_)", 2, "<a>(<b>_)", gap(0, 4, 1, 4, "", "(")},
		// Of the last.
		{"(<a><b>)", 5, "(<a>)<b>", gap(4, 8, 4, 7, ")", "")},
		{"(_<b>)", 3, "(_)<b>", gap(2, 6, 2, 5, ")", "")},
		{"(_(<a><b>))", 3, "(_)(<a><b>)", gap(2, 11, 2, 10, ")", "")},
		// Of one between.
		{"(<a><b><c>)", 5, "(<a>)<b>(<c>)", gap(4, 7, 4, 7, ")", "(")},
		{"(_<b>_)", 3, "(_)<b>(_)", gap(2, 5, 2, 5, ")", "(")},
	} {
		s, e := Lift(c, sample.Tokens(x.s), x.at)
		told(t, x.s, x.then, x.want, s, e)
	}
	for _, x := range []struct {
		s    string
		at   int
		want api.Errno
	}{
		{"<a>", 1, api.ErrNone},
		{"<a>", 0, api.ErrNone},
		{"<a>", 3, api.ErrNone},
		{"(<a>)", 0, api.ErrNone},
		{"(<a>)", 1, api.ErrNone},
		{"(<a>)", 4, api.ErrNone},
		{"(<a>)", 5, api.ErrNone},
		{"(<a>)<b>", 6, api.ErrNone},
		{"_", 1, api.ErrNone},
		{"(_)", 1, api.ErrNone},
		{"[{<a>}]", 2, api.ErrValid},
		{"[{<a>}]", 3, api.ErrValid},
		{"[{_<b>_}]_", 4, api.ErrValid},
		{"(<a>)", -1, api.ErrArg},
		{"(<a>)", 6, api.ErrArg},
		{"(<a>)", math.MinInt, api.ErrArg},
		{"(<a>)", math.MaxInt, api.ErrArg},
	} {
		s, e := Lift(c, sample.Tokens(x.s), x.at)
		refused(t, x.s, x.want, s, e)
	}
	// What is opened anew has the N of p.
	c, e := schema.New("part*", []api.Spec{{Name: "part", Expr: "part*|text*", Most: 9}}, nil)
	if e != api.OK {
		t.Fatal(e)
	}
	l := []api.Token{sample.Open(1, 7), sample.Open(1, 1), {K: api.TClose}, sample.Open(1, 2), {K: api.TClose}, sample.Open(1, 3), {K: api.TClose}, {K: api.TClose}}
	for at, want := range map[int][]api.Token{2: {sample.Open(1, 7)}, 4: {{K: api.TClose}, sample.Open(1, 7)}, 6: {{K: api.TClose}}} {
		if s, e := Lift(c, l, at); !flat.Same(s.Slice, want) || e != api.OK {
			t.Errorf("Lift at %d: %v, %d", at, s, e)
		}
	}
}

// calls answers all commands at a place, and at two; the text and the type are such that they may be refused themselves.
func calls(c *schema.Schema, l []api.Token, from int, to int) map[string]func() (api.Step, api.Errno) {
	return map[string]func() (api.Step, api.Errno){
		"Insert":       func() (api.Step, api.Errno) { return Insert(c, l, from, sample.Tokens("x")) },
		"Insert wrong": func() (api.Step, api.Errno) { return Insert(c, l, from, sample.Tokens("<")) },
		"Delete":       func() (api.Step, api.Errno) { return Delete(c, l, from, to) },
		"Split":        func() (api.Step, api.Errno) { return Split(c, l, from) },
		"Join":         func() (api.Step, api.Errno) { return Join(c, l, from) },
		"Retype":       func() (api.Step, api.Errno) { return Retype(c, l, from, api.Head, 1) },
		"Retype wrong": func() (api.Step, api.Errno) { return Retype(c, l, from, 0, -1) },
		"Toggle":       func() (api.Step, api.Errno) { return Toggle(c, l, from, to, api.Em) },
		"Toggle wrong": func() (api.Step, api.Errno) { return Toggle(c, l, from, to, 3) },
		"Wrap":         func() (api.Step, api.Errno) { return Wrap(c, l, from, to, sample.Open(api.Quote, 0)) },
		"Wrap wrong":   func() (api.Step, api.Errno) { return Wrap(c, l, from, to) },
		"Lift":         func() (api.Step, api.Errno) { return Lift(c, l, from) },
	}
}

func acts(c *schema.Schema, l []api.Token, from int, to int) map[int]func() (api.Step, api.Errno) {
	all := map[int]func() (api.Step, api.Errno){}
	for _, b := range []int{math.MinInt, -1, 0, 1, 2, 3, 4, 5, 6, 7, 8, math.MaxInt} {
		all[b] = func() (api.Step, api.Errno) {
			return Do(c, l, api.Act{B: b, C: from, D: to, N: 2})
		}
	}
	return all
}

func TestRefusalsOfAll(t *testing.T) {
	c := schema.House()
	long := "<" + strings.Repeat("a", api.MaxDoc-1) + ">"
	deep := strings.Repeat("(", api.MaxDeep) + "<>" + strings.Repeat(")", api.MaxDeep)
	for _, x := range []struct {
		c        *schema.Schema
		s        string
		from, to int
		want     api.Errno
	}{
		{nil, "<a>", 1, 2, api.ErrZero},
		{new(schema.Schema), "<a>", 1, 2, api.ErrZero},
		{c, "", 0, 0, api.ErrValid},
		{c, "a", 0, 1, api.ErrValid},
		{c, "<_>", 1, 2, api.ErrValid},
		{c, "`B'", 1, 2, api.ErrValid},
		{c, "!", 0, 1, api.ErrForm},
		{c, ">", 0, 1, api.ErrForm},
		{c, "<a", 1, 2, api.ErrShort},
		{c, long, 1, 2, api.ErrLong},
		{c, deep, 1, 2, api.ErrDeep},
		// What comes first is told.
		{nil, "!", -1, 9, api.ErrZero},
		{new(schema.Schema), "", 1, 0, api.ErrZero},
		{c, "!", -1, 9, api.ErrForm},
		{c, "a", 9, 2, api.ErrValid},
		{c, "", -1, -1, api.ErrValid},
		{c, "<a", 9, 9, api.ErrShort},
		{c, long, -1, 0, api.ErrLong},
		// A place that can't be: of all, as one place is the first of two.
		{c, "<a>", -1, 2, api.ErrArg},
		{c, "<a>", 4, 4, api.ErrArg},
		{c, "<a>", math.MinInt, 3, api.ErrArg},
		{c, "<a>", math.MaxInt, math.MaxInt, api.ErrArg},
	} {
		for name, call := range calls(x.c, sample.Tokens(x.s), x.from, x.to) {
			s, e := call()
			refused(t, name+" of "+x.s, x.want, s, e)
		}
		for _, call := range acts(x.c, sample.Tokens(x.s), x.from, x.to) {
			s, e := call()
			refused(t, "Do of "+x.s, x.want, s, e)
		}
	}
	for _, l := range [][]api.Token{nil, {}} {
		for name, call := range calls(c, l, 0, 0) {
			s, e := call()
			refused(t, name+" of nothing", api.ErrValid, s, e)
		}
	}
}

func TestEmptyDocument(t *testing.T) {
	c, e := schema.New("text*", nil, nil)
	if e != api.OK {
		t.Fatal(e)
	}
	for _, l := range [][]api.Token{nil, {}} {
		s, e := Insert(c, l, 0, sample.Tokens("x"))
		told(t, "", "x", put(0, 0, "x"), s, e)
		for _, none := range [][]api.Token{nil, {}} {
			s, e = Insert(c, l, 0, none)
			told(t, "", "", put(0, 0, ""), s, e)
		}
		s, e = Delete(c, l, 0, 0)
		told(t, "", "", put(0, 0, ""), s, e)
		for name, want := range map[string]api.Errno{
			"Split": api.ErrNone, "Join": api.ErrNone, "Retype": api.ErrNone, "Toggle": api.ErrNone, "Wrap": api.ErrNone, "Lift": api.ErrNone,
			"Insert wrong": api.ErrArg, "Retype wrong": api.ErrNone, "Toggle wrong": api.ErrArg, "Wrap wrong": api.ErrArg,
		} {
			s, e := calls(c, l, 0, 0)[name]()
			refused(t, name, want, s, e)
		}
	}
}

func TestAtTheLimits(t *testing.T) {
	c := schema.House()
	full := "<" + strings.Repeat("a", api.MaxDoc-2) + ">"
	room := "<" + strings.Repeat("a", api.MaxDoc-4) + ">"
	for _, x := range []struct {
		s    string
		text string
		want api.Errno
	}{{room, "xy", api.OK}, {room, "xyz", api.ErrLong}, {full, "", api.OK}, {full, "x", api.ErrLong}} {
		if _, e := Insert(c, sample.Tokens(x.s), 1, sample.Tokens(x.text)); e != x.want {
			t.Errorf("Insert of %d in %d: %d", len(x.text), len(x.s), e)
		}
	}
	for s, want := range map[string]api.Errno{room: api.OK, full: api.ErrLong, "<a" + room[1:]: api.ErrLong} {
		if _, e := Split(c, sample.Tokens(s), 5); e != want {
			t.Errorf("Split of %d: %d", len(s), e)
		}
		if _, e := Wrap(c, sample.Tokens(s), 0, len(s), sample.Open(api.Quote, 0)); e != want {
			t.Errorf("Wrap of %d: %d", len(s), e)
		}
	}
	if _, e := Toggle(c, sample.Tokens(full), 0, api.MaxDoc, api.Strong); e != api.OK {
		t.Errorf("Toggle of all: %d", e)
	}
	if _, e := Delete(c, sample.Tokens(full), 1, api.MaxDoc-1); e != api.OK {
		t.Errorf("Delete of all: %d", e)
	}
	deepest := strings.Repeat("(", api.MaxDeep-1) + "<" + strings.Repeat(")", api.MaxDeep)
	s, e := Wrap(c, sample.Tokens(deepest), api.MaxDeep-1, api.MaxDeep+1, sample.Open(api.Quote, 0))
	refused(t, "Wrap of the deepest", api.ErrDeep, s, e)
	if s, e := Lift(c, sample.Tokens(deepest), api.MaxDeep); s.From != api.MaxDeep-2 || e != api.OK {
		t.Errorf("Lift of the deepest: %v, %d", s, e)
	}
	if s, e := Split(c, sample.Tokens(deepest), api.MaxDeep); s.From != api.MaxDeep || e != api.OK {
		t.Errorf("Split of the deepest: %v, %d", s, e)
	}
}

func TestDo(t *testing.T) {
	c := schema.House()
	quotes := "(<a><b>)"
	for _, x := range []struct {
		s    string
		a    api.Act
		then string
		want api.Step
	}{
		{"<ab>", api.Act{B: api.CInsert, C: 2, N: 'x'}, "<axb>", put(2, 2, "x")},
		{"`ab'", api.Act{B: api.CInsert, C: 2, N: 10}, "`a\nb'", put(2, 2, "\n")},
		{"<ab>", api.Act{B: api.CInsert, C: 2, N: 0x10FFFF}, "<a\U0010FFFFb>", put(2, 2, "\U0010FFFF")},
		{"<ab><c>", api.Act{B: api.CDelete, C: 2, D: 5}, "<ac>", put(2, 5, "")},
		{"<ab>", api.Act{B: api.CSplit, C: 2}, "<a><b>", put(2, 2, "><")},
		{"<a><b>", api.Act{B: api.CJoin, C: 3}, "<ab>", put(2, 4, "")},
		{"<a>", api.Act{B: api.CBlock, C: 1, D: api.Head, N: 1}, "#a>", put(0, 1, "#")},
		{"#a>", api.Act{B: api.CBlock, C: 1, D: api.Para}, "<a>", put(0, 1, "<")},
		{"<b>", api.Act{B: api.CMark, C: 1, D: 2, N: api.Strong}, "<B>", api.Step{K: api.SMark, From: 1, To: 2, Mark: api.Strong}},
		{"<B>", api.Act{B: api.CMark, C: 0, D: 3, N: api.Strong}, "<b>", api.Step{K: api.SUnmark, From: 0, To: 3, Mark: api.Strong}},
		{"<a><b>", api.Act{B: api.CWrap, C: 3, D: 6, N: api.Quote}, "<a>(<b>)", gap(3, 6, 3, 6, "(", ")")},
		{"<a><b>", api.Act{B: api.CWrap, C: 0, D: 3, N: api.Item}, "[{<a>}]<b>", gap(0, 3, 0, 3, "[{", "}]")},
		{quotes, api.Act{B: api.CLift, C: 2}, "<a>(<b>)", gap(0, 4, 1, 4, "", "(")},
	} {
		s, e := Do(c, sample.Tokens(x.s), x.a)
		told(t, x.s, x.then, x.want, s, e)
		// Neither the kind of the act, nor whose it is, nor its bytes count.
		x.a.K, x.a.A, x.a.Bytes = 99, -7, []byte{1, 2}
		s, e = Do(c, sample.Tokens(x.s), x.a)
		told(t, x.s, x.then, x.want, s, e)
		// Nor does D, of a command with one place.
		if x.a.B == api.CInsert || x.a.B == api.CSplit || x.a.B == api.CJoin || x.a.B == api.CLift {
			for _, d := range []int{math.MinInt, -1, 1, math.MaxInt} {
				x.a.D = d
				s, e = Do(c, sample.Tokens(x.s), x.a)
				told(t, x.s, x.then, x.want, s, e)
			}
		}
	}
	for _, x := range []struct {
		a    api.Act
		want api.Errno
	}{
		{api.Act{B: 8}, api.ErrArg},
		{api.Act{B: -1}, api.ErrArg},
		{api.Act{B: math.MaxInt, C: 1}, api.ErrArg},
		{api.Act{B: math.MinInt, C: 1}, api.ErrArg},
		{api.Act{B: api.CInsert, C: 2, N: -1}, api.ErrArg},
		{api.Act{B: api.CInsert, C: 2, N: 0xD800}, api.ErrArg},
		{api.Act{B: api.CInsert, C: 2, N: 0x110000}, api.ErrArg},
		{api.Act{B: api.CInsert, C: 2, N: 10}, api.ErrValid},
		{api.Act{B: api.CInsert, C: 0, N: 'x'}, api.ErrValid},
		{api.Act{B: api.CInsert, C: 99, N: 'x'}, api.ErrArg},
		{api.Act{B: api.CDelete, C: 3, D: 2}, api.ErrArg},
		{api.Act{B: api.CDelete, C: 0, D: 8}, api.ErrValid},
		{api.Act{B: api.CSplit, C: 0}, api.ErrNone},
		{api.Act{B: api.CJoin, C: 3}, api.ErrNone},
		{api.Act{B: api.CBlock, C: 0, D: api.Head, N: 1}, api.ErrNone},
		{api.Act{B: api.CBlock, C: 2, D: api.MaxTypes, N: 1}, api.ErrArg},
		{api.Act{B: api.CBlock, C: 2, D: api.Head, N: 16}, api.ErrArg},
		{api.Act{B: api.CBlock, C: 2, D: api.Head}, api.ErrValid},
		{api.Act{B: api.CMark, C: 2, D: 3, N: 3}, api.ErrArg},
		{api.Act{B: api.CMark, C: 2, D: 2, N: 1}, api.ErrNone},
		{api.Act{B: api.CWrap, C: 0, D: 8}, api.ErrArg},
		{api.Act{B: api.CWrap, C: 0, D: 8, N: -1}, api.ErrArg},
		{api.Act{B: api.CWrap, C: 0, D: 8, N: api.MaxTypes}, api.ErrArg},
		{api.Act{B: api.CWrap, C: 0, D: 8, N: math.MaxInt}, api.ErrArg},
		{api.Act{B: api.CWrap, C: 0, D: 0, N: math.MaxInt}, api.ErrNone},
		{api.Act{B: api.CWrap, C: 0, D: 8, N: api.Rule}, api.ErrValid},
		{api.Act{B: api.CWrap, C: 0, D: 8, N: api.List}, api.ErrValid},
		{api.Act{B: api.CWrap, C: 0, D: 8, N: api.Head}, api.ErrValid}, // its N is 0, which a head may not have
		{api.Act{B: api.CLift, C: 1}, api.ErrNone},
	} {
		s, e := Do(c, sample.Tokens(quotes), x.a)
		refused(t, "Do", x.want, s, e)
	}
}

// TestDoOfAnItemOfOthers: an item brings a list with it whatever the schema calls the two.
func TestDoOfAnItemOfOthers(t *testing.T) {
	c, e := schema.New("(five|seven)*", []api.Spec{{Name: "one"}, {Name: "two"}, {Name: "three"}, {Name: "four"}, {Name: "five", Expr: "six*"}, {Name: "six", Expr: "seven*"}, {Name: "seven", Leaf: true}}, nil)
	if e != api.OK {
		t.Fatal(e)
	}
	s, e := Do(c, sample.Tokens("__"), api.Act{B: api.CWrap, C: 1, D: 2, N: api.Item})
	told(t, "__", "_[{_}]", gap(1, 2, 1, 2, "[{", "}]"), s, e)
}

// innermost says in plain words which TOpens are open at at, the outermost first.
func innermost(l []api.Token, at int) []int {
	var stack []int
	for i := range at {
		switch l[i].K {
		case api.TOpen:
			stack = append(stack, i)
		case api.TClose:
			stack = stack[:len(stack)-1]
		}
	}
	return stack
}

// behind answers the place behind the TClose of the TOpen at i.
func behind(l []api.Token, i int) int {
	open := 0
	for ; ; i++ {
		switch l[i].K {
		case api.TOpen:
			open++
		case api.TClose:
			open--
		}
		if open == 0 {
			return i + 1
		}
	}
}

// checked says what follows a step in P12.1.
func checked(c *schema.Schema, l []api.Token, s api.Step) (api.Step, api.Errno) {
	then, e := step.Apply(l, s)
	if e == api.OK {
		_, e = c.Check(then)
	}
	if e != api.OK {
		return api.Step{}, e
	}
	return s, api.OK
}

// plain says in the chapter's words what the act a does at the valid l.
func plain(c *schema.Schema, l []api.Token, a api.Act) (api.Step, api.Errno) {
	two := a.B == api.CDelete || a.B == api.CMark || a.B == api.CWrap
	if a.C < 0 || a.C > len(l) || two && (a.D < a.C || a.D > len(l)) {
		return api.Step{}, api.ErrArg
	}
	in := innermost(l, a.C)
	end := api.Token{K: api.TClose}
	switch a.B {
	case api.CInsert:
		return checked(c, l, api.Step{From: a.C, To: a.C, Slice: []api.Token{{N: a.N}}})
	case api.CDelete:
		return checked(c, l, api.Step{From: a.C, To: a.D})
	case api.CSplit:
		if len(in) == 0 {
			return api.Step{}, api.ErrNone
		}
		return checked(c, l, api.Step{From: a.C, To: a.C, Slice: []api.Token{end, l[in[len(in)-1]]}})
	case api.CJoin:
		if a.C == 0 || a.C == len(l) || l[a.C-1] != end || l[a.C].K != api.TOpen {
			return api.Step{}, api.ErrNone
		}
		return checked(c, l, api.Step{From: a.C - 1, To: a.C + 1})
	case api.CBlock:
		if len(in) == 0 {
			return api.Step{}, api.ErrNone
		}
		if a.D < 1 || a.D > api.MaxTypes-1 || a.N < 0 || a.N > 15 {
			return api.Step{}, api.ErrArg
		}
		i := in[len(in)-1]
		return checked(c, l, api.Step{From: i, To: i + 1, Slice: []api.Token{sample.Open(a.D, a.N)}})
	case api.CMark:
		return plainMark(c, l, a)
	case api.CWrap:
		if a.C == a.D {
			return api.Step{}, api.ErrNone
		}
		slice := []api.Token{sample.Open(a.N, 0), end}
		if a.N == api.Item {
			slice = []api.Token{sample.Open(api.List, 0), sample.Open(a.N, 0), end, end}
		}
		return checked(c, l, api.Step{K: api.SAround, From: a.C, To: a.D, GapFrom: a.C, GapTo: a.D, Slice: slice, Insert: len(slice) / 2})
	case api.CLift:
		if len(in) < 2 {
			return api.Step{}, api.ErrNone
		}
		return checked(c, l, plainLift(l, in[len(in)-2], in[len(in)-1]))
	}
	return api.Step{}, api.ErrArg
}

func plainMark(c *schema.Schema, l []api.Token, a api.Act) (api.Step, api.Errno) {
	if a.N != api.Strong && a.N != api.Em && a.N != api.Code {
		return api.Step{}, api.ErrArg
	}
	texts, with := 0, 0
	for _, one := range l[a.C:a.D] {
		if one.K == api.TRune {
			texts++
			if one.M&a.N != 0 {
				with++
			}
		}
	}
	kind := api.SMark
	if texts == 0 {
		return api.Step{}, api.ErrNone
	}
	if texts == with {
		kind = api.SUnmark
	}
	return checked(c, l, api.Step{K: kind, From: a.C, To: a.D, Mark: a.N})
}

func plainLift(l []api.Token, p int, block int) api.Step {
	end, last := behind(l, block), behind(l, p)
	shut := api.Token{K: api.TClose}
	s := api.Step{K: api.SAround, GapFrom: block, GapTo: end}
	kids := flat.Kids(l, p)
	switch {
	case len(kids) == 1:
		s.From, s.To = p, last
	case kids[0] == block:
		s.From, s.To, s.Slice = p, end, []api.Token{l[p]}
	case kids[len(kids)-1] == block:
		s.From, s.To, s.Slice, s.Insert = block, last, []api.Token{shut}, 1
	default:
		s.From, s.To, s.Slice, s.Insert = block, end, []api.Token{shut, l[p]}, 1
	}
	return s
}

// direct answers what the command of the act a tells when it is called itself.
func direct(c *schema.Schema, l []api.Token, a api.Act) (api.Step, api.Errno) {
	switch a.B {
	case api.CInsert:
		return Insert(c, l, a.C, []api.Token{{N: a.N}})
	case api.CDelete:
		return Delete(c, l, a.C, a.D)
	case api.CSplit:
		return Split(c, l, a.C)
	case api.CJoin:
		return Join(c, l, a.C)
	case api.CBlock:
		return Retype(c, l, a.C, a.D, a.N)
	case api.CMark:
		return Toggle(c, l, a.C, a.D, a.N)
	case api.CWrap:
		if a.N == api.Item {
			return Wrap(c, l, a.C, a.D, sample.Open(api.List, 0), sample.Open(a.N, 0))
		}
		return Wrap(c, l, a.C, a.D, sample.Open(a.N, 0))
	case api.CLift:
		return Lift(c, l, a.C)
	}
	return api.Step{}, api.ErrArg
}

// holds fails where a command answers of the valid l other than what the chapter's words say; it answers how many were told.
func holds(t *testing.T, c *schema.Schema, l []api.Token) (done [api.CLift + 1]int) {
	t.Helper()
	for b := -1; b <= api.CLift+1; b++ {
		for at := -1; at <= len(l)+1; at++ {
			for d := -1; d <= max(len(l)+1, api.Rule); d++ {
				for _, n := range []int{0, 1, 2, 3, 4, 5, 6, 7, 10, -1, 16} {
					a := api.Act{B: b, C: at, D: d, N: n}
					want, e := plain(c, l, a)
					got, f := Do(c, l, a)
					if !step.Same(got, want) || f != e {
						t.Fatalf("Do(%v, %v): %v, %d; want %v, %d", l, a, got, f, want, e)
					}
					if got, f := direct(c, l, a); !step.Same(got, want) || f != e {
						t.Fatalf("%v of %v: %v, %d; want %v, %d", a, l, got, f, want, e)
					}
					if f != api.OK {
						continue
					}
					done[b]++
					may(t, c, l, got)
					if b == api.CSplit || b == api.CJoin || b == api.CLift {
						break // N does not count
					}
				}
				if b == api.CInsert || b == api.CSplit || b == api.CJoin || b == api.CLift {
					break // nor does D
				}
			}
		}
	}
	return done
}

// may fails unless s may be done at l, and leaves it valid (P12.4).
func may(t *testing.T, c *schema.Schema, l []api.Token, s api.Step) {
	t.Helper()
	then, e := step.Apply(l, s)
	if e != api.OK {
		t.Fatalf("%v at %v: %d", s, l, e)
	}
	if at, e := c.Check(then); at != len(then) || e != api.OK {
		t.Fatalf("%v at %v makes %v: %d, %d", s, l, then, at, e)
	}
}

func holdsAll(t *testing.T, c *schema.Schema, rows [][]api.Token) {
	t.Helper()
	var done [api.CLift + 1]int
	for _, l := range rows {
		if _, e := c.Check(l); e != api.OK {
			continue
		}
		for b, n := range holds(t, c, l) {
			done[b] += n
		}
	}
	for b, n := range done {
		if n == 0 {
			t.Errorf("the command %d was never told", b)
		}
	}
}

func TestAllShortDocumentsOfTheHouse(t *testing.T) {
	c := schema.House()
	all := sample.Rows(sample.Tokens("a<(_>"), 5)
	for _, s := range []string{"<ab>(<c>)", "[{<a>}{_<>}]", "(_#a>_)", "`\n'<B>", "(((_)))", "<E>(<C>)"} {
		all = append(all, sample.Tokens(s))
	}
	holdsAll(t, c, all)
}

func TestAllShortDocumentsOfOthers(t *testing.T) {
	alphabet := []api.Token{{N: 'a'}, {N: 'b', M: api.Em}, sample.Open(1, 0), sample.Open(2, 3), {K: api.TClose}}
	// What may be done hangs on what stands beside it, not on the type alone.
	for _, x := range [][3]string{
		{"(a|b|text)*", "(a|b|text)*", "(a|b|text)*"},
		{"text* a* b*", "b? a* text*", "text* a? b*"},
	} {
		c, e := schema.New(x[0], []api.Spec{
			{Name: "a", Expr: x[1], Marks: 7, Most: 2},
			{Name: "b", Expr: x[2], Marks: 2, Most: 4},
		}, nil)
		if e != api.OK {
			t.Fatal(e)
		}
		holdsAll(t, c, sample.Rows(alphabet, 4))
	}
}

// TestToggleTwice: what is marked all over is unmarked next, unless Code keeps the mark out.
func TestToggleTwice(t *testing.T) {
	c := schema.House()
	for _, s := range []string{"<ab>", "<aB>", "<BE>", "<aC>", "<CC>"} {
		for _, m := range []int{api.Strong, api.Em, api.Code} {
			l := sample.Tokens(s)
			first, e := Toggle(c, l, 0, len(l), m)
			then, f := step.Apply(l, first)
			if e != api.OK || f != api.OK {
				t.Fatalf("Toggle(%s, %d): %d, %d", s, m, e, f)
			}
			all := true
			for _, one := range then[1 : len(then)-1] {
				all = all && mark.Has(one.M, m)
			}
			want := api.SMark
			if all {
				want = api.SUnmark
			}
			if next, e := Toggle(c, then, 0, len(then), m); next.K != want || e != api.OK {
				t.Errorf("Toggle(%s, %d) again: %v, %d", s, m, next, e)
			}
		}
	}
}

func TestNothingKeptNorChanged(t *testing.T) {
	c := schema.House()
	const s = "(<ab>_)<c>"
	l := append(make([]api.Token, 0, 32), sample.Tokens(s)...)
	text := append(make([]api.Token, 0, 8), sample.Tokens("xy")...)
	around := append(make([]api.Token, 0, 8), sample.Tokens("[{")...)
	var steps, copies []api.Step
	keep := func(s api.Step, e api.Errno) {
		if e != api.OK {
			t.Fatalf("%v: %d", s, e)
		}
		steps = append(steps, s)
		s.Slice = slices.Clone(s.Slice)
		copies = append(copies, s)
	}
	for range 2 {
		keep(Insert(c, l, 2, text))
		keep(Delete(c, l, 2, 3))
		keep(Split(c, l, 3))
		keep(Join(c, sample.Tokens("<a><b>"), 3))
		keep(Retype(c, l, 2, api.Head, 1))
		keep(Toggle(c, l, 0, 5, api.Em))
		keep(Wrap(c, l, 1, 5, around...))
		keep(Lift(c, l, 2))
		keep(Do(c, l, api.Act{B: api.CWrap, C: 1, D: 5, N: api.Item, Bytes: []byte{1}}))
	}
	for _, x := range []struct {
		now  []api.Token
		then string
	}{{l, s}, {text, "xy"}, {around, "[{"}} {
		wide := slices.Clone(x.now[:cap(x.now)])
		if want := append(sample.Tokens(x.then), make([]api.Token, cap(x.now)-len(x.now))...); !flat.Same(wide, want) {
			t.Errorf("what was handed in is changed: %v", wide)
		}
	}
	// What is written over what was handed in, or into one answer, is not seen in the others.
	for _, given := range [][]api.Token{l, text, around} {
		for i := range given {
			given[i] = api.Token{K: 9}
		}
	}
	for i := range steps {
		if !step.Same(steps[i], copies[i]) {
			t.Errorf("%v has become %v", copies[i], steps[i])
		}
		for j := range steps[i].Slice {
			steps[i].Slice[j] = api.Token{K: 8}
		}
	}
}
