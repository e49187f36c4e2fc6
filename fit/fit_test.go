package fit

import (
	"math"
	"reflect"
	"slices"
	"strings"
	"testing"

	"emender/api"
	"emender/flat"
	"emender/sample"
	"emender/schema"
	"emender/step"
)

// wrong answers tokens of all kinds, and of none, that are not right.
func wrong() []api.Token {
	return []api.Token{
		{N: -1}, {N: 0xD800}, {N: 0xDFFF}, {N: 0x110000}, {N: math.MaxInt}, {N: math.MinInt}, {N: 'x', T: 1}, {N: 'x', M: 5}, {N: 'x', M: -1}, {N: 'x', M: 8},
		{K: api.TOpen}, {K: api.TOpen, T: api.MaxTypes}, {K: api.TOpen, T: 1, N: 16}, {K: api.TOpen, T: 1, M: 1},
		{K: api.TClose, T: 1}, {K: api.TClose, N: 1}, {K: api.TClose, M: 1},
		{K: api.TLeaf}, {K: api.TLeaf, T: 1, N: -1}, {K: api.TLeaf, T: 1, M: 1},
		{K: 4}, {K: -1}, {K: math.MaxInt}, {K: math.MinInt},
	}
}

func TestClosed(t *testing.T) {
	for s, want := range map[string]string{
		"":            "",
		"ab":          "ab",
		"<ab>":        "<ab>",
		">":           "",
		">>>":         "",
		"<":           "<>",
		"(((":         "((()))",
		"><":          "<>",
		"a><b<c":      "a<b<c>>",
		"a>b":         "ab",
		"<a>>b":       "<a>b",
		"<a>)<b":      "<a><b>",
		"(<a>":        "(<a>)",
		")(_":         "(_)",
		"_\nB!":       "_\nB!",
		"x>(<a>{b>)>": "x(<a>{b>)",
	} {
		if got := Closed(sample.Tokens(s)); !flat.Same(got, sample.Tokens(want)) {
			t.Errorf("Closed(%s): %v; want %s", s, got, want)
		}
	}
	for _, l := range [][]api.Token{nil, {}} {
		if got := Closed(l); len(got) != 0 {
			t.Errorf("Closed of nothing: %v", got)
		}
	}
}

// TestClosedOfAnyTokens: tokens that are not right count as what their kind says, as in layer 4, and stay.
func TestClosedOfAnyTokens(t *testing.T) {
	shut := api.Token{K: api.TClose}
	for _, one := range wrong() {
		want := []api.Token{one}
		switch one.K {
		case api.TOpen:
			want = []api.Token{one, shut}
		case api.TClose:
			want = nil
		}
		if got := Closed([]api.Token{one}); !flat.Same(got, want) {
			t.Errorf("Closed(%v): %v; want %v", one, got, want)
		}
		want = []api.Token{sample.Open(api.Quote, 0), one, shut}
		switch one.K {
		case api.TOpen:
			want = append(want, shut)
		case api.TClose:
			want = want[:2]
		}
		if got := Closed([]api.Token{sample.Open(api.Quote, 0), one}); !flat.Same(got, want) {
			t.Errorf("Closed(%v) in a quote: %v; want %v", one, got, want)
		}
	}
}

// plainClosed says in the chapter's words what Closed answers.
func plainClosed(slice []api.Token) []api.Token {
	var l, ends []api.Token
	for i, one := range slice {
		lone := flat.Partner(slice, i) < 0
		if one.K == api.TOpen && lone {
			ends = append(ends, api.Token{K: api.TClose})
		}
		if one.K != api.TClose || !lone {
			l = append(l, one)
		}
	}
	return append(l, ends...)
}

// TestClosedIsADocument (P13.3), and what is a document stays as it is.
func TestClosedIsADocument(t *testing.T) {
	for _, l := range sample.Rows(sample.Tokens("a<(>_"), 6) {
		got := Closed(l)
		if want := plainClosed(l); !flat.Same(got, want) {
			t.Fatalf("Closed(%v): %v; want %v", l, got, want)
		}
		if n, e := flat.Check(got); n != len(got) || e != api.OK {
			t.Fatalf("Closed(%v): %v is no document: %d, %d", l, got, n, e)
		}
		if _, e := flat.Check(l); e == api.OK && !flat.Same(got, l) {
			t.Fatalf("Closed(%v): %v", l, got)
		}
	}
}

func TestClosedAtTheLimits(t *testing.T) {
	for _, x := range []struct {
		s    string
		want api.Errno
	}{
		{strings.Repeat("(", api.MaxDeep), api.OK},
		{strings.Repeat("(", api.MaxDeep+1), api.ErrDeep},
		{"<" + strings.Repeat("a", api.MaxDoc-2), api.OK},
		{"<" + strings.Repeat("a", api.MaxDoc-1), api.ErrLong},
		{strings.Repeat(">", api.MaxDoc) + "<", api.OK},
	} {
		got := Closed(sample.Tokens(x.s))
		if _, e := flat.Check(got); e != x.want {
			t.Errorf("Closed of %d: %d tokens, %d; want %d", len(x.s), len(got), e, x.want)
		}
	}
	const many = 1 << 18
	got := Closed(slices.Repeat([]api.Token{sample.Open(api.Quote, 0)}, many))
	if len(got) != 2*many || got[many-1].K != api.TOpen || got[many].K != api.TClose {
		t.Errorf("Closed of %d TOpens: %d tokens", many, len(got))
	}
}

func TestPlain(t *testing.T) {
	for _, x := range []struct {
		s    string
		spec api.Spec
		want string
	}{
		{"", api.Spec{Marks: 7}, ""},
		{"ab", api.Spec{}, "ab"},
		{"<a>_(b", api.Spec{}, "ab"},
		{"><[{]", api.Spec{Marks: 7, Lines: true}, ""},
		{"aBEDC", api.Spec{Marks: 7}, "aBEDC"},
		{"aBEDC", api.Spec{Marks: 0}, "abedc"},
		{"BEC", api.Spec{Marks: api.Strong}, "Bec"},
		{"BEC", api.Spec{Marks: api.Em}, "bEc"},
		{"BEDC", api.Spec{Marks: api.Code}, "bedC"},
		{"BEDC", api.Spec{Marks: api.Strong + api.Em}, "BEDc"},
		{"BEDC", api.Spec{Marks: -1}, "BEDC"},
		{"BEDC", api.Spec{Marks: 8}, "bedc"},
		{"BEDC", api.Spec{Marks: math.MaxInt}, "BEDC"},
		{"BEDC", api.Spec{Marks: math.MinInt}, "bedc"},
		{"a\nb\n", api.Spec{}, "ab"},
		{"a\nb\n", api.Spec{Lines: true}, "a\nb\n"},
		{"a\rb\t\x00", api.Spec{}, "a\rb\t\x00"},
		{"a!b", api.Spec{Marks: 7, Lines: true}, "ab"},
		// Nothing else of the spec counts.
		{"aB\n_", api.Spec{Name: "x", Expr: "(", Leaf: true, Marks: 1, Least: 9, Most: -3, Lines: true}, "aB\n"},
	} {
		if got := Plain(sample.Tokens(x.s), x.spec); !flat.Same(got, sample.Tokens(x.want)) {
			t.Errorf("Plain(%q, %v): %v; want %q", x.s, x.spec, got, x.want)
		}
	}
	only := api.Token{N: 'd', M: api.Strong + api.Em}
	if got := Plain([]api.Token{only}, api.Spec{Marks: api.Em}); len(got) != 1 || got[0] != (api.Token{N: 'd', M: api.Em}) {
		t.Errorf("Plain of two marks, of which one may be: %v", got)
	}
	line := api.Token{N: 10, M: api.Em}
	if got := Plain([]api.Token{line}, api.Spec{Marks: 7}); len(got) != 0 {
		t.Errorf("Plain of a line's end with a mark: %v", got)
	}
	if got := Plain([]api.Token{line}, api.Spec{Lines: true}); len(got) != 1 || got[0] != (api.Token{N: 10}) {
		t.Errorf("Plain of a line's end with a mark: %v", got)
	}
	for _, l := range [][]api.Token{nil, {}, wrong()} {
		if got := Plain(l, api.Spec{Marks: 7, Lines: true}); len(got) != 0 {
			t.Errorf("Plain(%v): %v", l, got)
		}
	}
}

// TestPlainOfMuch: no limit holds for what is no document.
func TestPlainOfMuch(t *testing.T) {
	const many = 2 * api.MaxDoc
	if got := Plain(slices.Repeat(sample.Tokens("<a>"), many), api.Spec{}); len(got) != many {
		t.Errorf("Plain of %d: %d", many, len(got))
	}
}

func TestFit(t *testing.T) {
	c := schema.House()
	for _, x := range []struct {
		s        string
		from, to int
		slice    string
		way      int
		tried    string // the slice of the step
		then     string
	}{
		{"<ab>", 2, 2, "><", 1, "><", "<a><b>"},
		{"<ab>", 2, 2, "x", 1, "x", "<axb>"},
		{"<ab>", 1, 3, "BEC", 1, "BEC", "<BEC>"},
		{"<ab>", 2, 2, "", 1, "", "<ab>"},
		{"<ab>", 1, 2, "", 1, "", "<b>"},
		{"<ab>", 4, 4, "(<x>)_", 1, "(<x>)_", "<ab>(<x>)_"},
		{"<a><b>", 2, 4, "x", 1, "x", "<axb>"},
		{"`ab'", 2, 2, "\n", 1, "\n", "`a\nb'"},
		{"<ab>", 0, 0, "<x", 2, "<x>", "<x><ab>"},
		{"<ab>", 0, 0, "><x", 2, "<x>", "<x><ab>"},
		{"<ab>", 0, 4, "(<x", 2, "(<x>)", "(<x>)"},
		{"<ab>", 2, 2, "x>", 2, "x", "<axb>"},
		{"<ab>", 2, 2, ">", 2, "", "<ab>"},
		{"(<a>)", 1, 4, "_)", 2, "_", "(_)"},
		{"[{<a>}]", 1, 1, "{_", 2, "{_}", "[{_}{<a>}]"},
		{"<ab>", 2, 2, "<x>", 3, "x", "<axb>"},
		{"<ab>", 2, 2, "_", 3, "", "<ab>"},
		{"<ab>", 2, 2, "\nx\n", 3, "x", "<axb>"},
		{"<ab>", 1, 3, "(<BC><\nE>)_", 3, "BCE", "<BCE>"},
		{"`ab'", 2, 2, "B\nD", 3, "b\nd", "`ab\ndb'"},
		{"`ab'", 2, 2, "<x><y>", 3, "xy", "`axyb'"},
		{"`a'<b>", 2, 4, "C", 3, "c", "`acb'"},
		{"#ab>", 2, 2, "<D>", 3, "D", "#aDb>"},
		// Nothing is around: there is no text.
		{"<ab>", 0, 0, "x", 3, "", "<ab>"},
		{"<ab>", 4, 4, "x", 3, "", "<ab>"},
		{"_<ab>", 0, 1, "xyz", 3, "", "<ab>"},
		// No text may stand there: nothing does.
		{"(<a>)", 1, 1, "x", 4, "", "(<a>)"},
		{"(_<a>)", 1, 2, "<x>y", 4, "", "(<a>)"},
		{"[{<a>}{_}]", 1, 6, "<x>", 4, "", "[{_}]"},
		{"<a>", 1, 1, strings.Repeat("x", api.MaxDoc-2), 4, "", "<a>"},
	} {
		s, way, e := Fit(c, sample.Tokens(x.s), x.from, x.to, sample.Tokens(x.slice))
		want := api.Step{From: x.from, To: x.to, Slice: sample.Tokens(x.tried)}
		if !step.Same(s, want) || way != x.way || e != api.OK {
			t.Errorf("Fit(%s, %d, %d, %q): %v, %d, %d; want %v, %d", x.s, x.from, x.to, x.slice, s, way, e, want, x.way)
			continue
		}
		if l, e := step.Apply(sample.Tokens(x.s), s); !flat.Same(l, sample.Tokens(x.then)) || e != api.OK {
			t.Errorf("Fit(%s, %d, %d, %q): makes %v, %d; want %s", x.s, x.from, x.to, x.slice, l, e, x.then)
		}
	}
	for _, none := range [][]api.Token{nil, {}} {
		if s, way, e := Fit(c, sample.Tokens("<a>"), 1, 2, none); len(s.Slice) != 0 || s.From != 1 || s.To != 2 || way != 1 || e != api.OK {
			t.Errorf("Fit of nothing: %v, %d, %d", s, way, e)
		}
	}
}

// refused fails unless Fit has answered the error want, and nothing beside it.
func refused(t *testing.T, what string, want api.Errno, s api.Step, way int, e api.Errno) {
	t.Helper()
	if e != want || way != 0 || !reflect.DeepEqual(s, api.Step{}) {
		t.Errorf("%s: %v, %d, %d; want %d", what, s, way, e, want)
	}
}

func TestFitRefuses(t *testing.T) {
	c := schema.House()
	long := "<" + strings.Repeat("a", api.MaxDoc-1) + ">"
	deep := strings.Repeat("(", api.MaxDeep) + "<>" + strings.Repeat(")", api.MaxDeep)
	much := strings.Repeat("x", api.MaxDoc+1)
	for _, x := range []struct {
		c        *schema.Schema
		s        string
		from, to int
		slice    string
		want     api.Errno
	}{
		{nil, "<a>", 1, 2, "x", api.ErrZero},
		{new(schema.Schema), "<a>", 1, 2, "x", api.ErrZero},
		{c, "", 0, 0, "", api.ErrValid},
		{c, "", 0, 0, "<>", api.ErrValid},
		{c, "a", 0, 1, "<>", api.ErrValid},
		{c, "`B'", 1, 2, "x", api.ErrValid},
		{c, "!", 0, 1, "x", api.ErrForm},
		{c, ">", 0, 1, "x", api.ErrForm},
		{c, "<a", 1, 2, "x", api.ErrShort},
		{c, long, 1, 2, "x", api.ErrLong},
		{c, deep, 1, 2, "x", api.ErrDeep},
		{c, "<a>", -1, 2, "x", api.ErrArg},
		{c, "<a>", 2, 1, "x", api.ErrArg},
		{c, "<a>", 1, 4, "x", api.ErrArg},
		{c, "<a>", 4, 4, "x", api.ErrArg},
		{c, "<a>", math.MinInt, math.MaxInt, "x", api.ErrArg},
		{c, "<a>", math.MaxInt, math.MaxInt, "x", api.ErrArg},
		{c, "<a>", 1, 1, "!", api.ErrArg},
		{c, "<a>", 1, 1, "xy!", api.ErrArg},
		{c, "<a>", 1, 1, much, api.ErrLong},
		{c, "<a>", 1, 1, strings.Repeat(">", api.MaxDoc+1), api.ErrLong},
		// What comes first is told.
		{nil, "!", -1, 9, "!" + much, api.ErrZero},
		{new(schema.Schema), "", 1, 0, "!", api.ErrZero},
		{c, "<a", -1, 9, "!" + much, api.ErrShort},
		{c, "a", 9, 2, "!", api.ErrValid},
		{c, long, 1, 1, "!", api.ErrLong},
		{c, "<a>", -1, 2, much, api.ErrArg},
		{c, "<a>", 2, 1, much, api.ErrArg},
		{c, "<a>", 4, 4, much, api.ErrArg},
		{c, "<a>", 1, 1, "!" + much, api.ErrArg},
		{c, "<a>", 1, 1, much + "!", api.ErrArg},
		// No way is taken.
		{c, "<a>", 0, 3, "", api.ErrArg},
		{c, "<a>", 0, 3, "x", api.ErrArg},
		{c, "<a>", 0, 1, "x", api.ErrArg},
		{c, "<a>", 2, 3, "x>>", api.ErrArg},
		{c, "(<a>)", 1, 4, "x", api.ErrArg},
		{c, "(<a>)", 1, 4, "<x", api.OK},
		{c, "[{<a>}]", 1, 6, "<x>", api.ErrArg},
	} {
		s, way, e := Fit(x.c, sample.Tokens(x.s), x.from, x.to, sample.Tokens(x.slice))
		if x.want == api.OK {
			if e != api.OK {
				t.Errorf("Fit(%s, %d, %d, %s): %d", x.s, x.from, x.to, x.slice, e)
			}
			continue
		}
		refused(t, "Fit", x.want, s, way, e)
	}
	for _, one := range wrong() {
		s, way, e := Fit(c, sample.Tokens("<a>"), 1, 1, []api.Token{{N: 'x'}, one})
		refused(t, "Fit of a wrong token", api.ErrArg, s, way, e)
	}
}

func TestFitAtTheLimits(t *testing.T) {
	c := schema.House()
	room := sample.Tokens("<" + strings.Repeat("a", api.MaxDoc-4) + ">")
	full := sample.Tokens("<" + strings.Repeat("a", api.MaxDoc-2) + ">")
	all := strings.Repeat("x", api.MaxDoc-2)
	for _, x := range []struct {
		l        []api.Token
		from, to int
		slice    string
		way      int
	}{
		{room, 1, 1, "xy", 1},
		{room, 1, 1, "xyz", 4},
		{room, 0, 0, "_>_", 2},
		{room, 0, 0, "<_", 3},
		{room, len(room), len(room), "<", 2},
		{full, 1, 1, "x", 4},
		{full, 1, 1, "", 1},
		{full, 1, 2, "><", 3},
		{full, 1, 3, "><", 1},
		{full, 1, 2, "<x>", 3},
		{full, 0, api.MaxDoc, "<" + all + ">", 1},
		{full, 0, api.MaxDoc, "<" + all, 2},
		{full, 1, api.MaxDoc - 1, all, 1},
		{full, 1, api.MaxDoc - 1, ">" + all + ">", 2},
		{full, 1, api.MaxDoc - 1, "_" + all + "_", 3},
		{full, 1, api.MaxDoc - 1, all + "xy", 4},
		{full, 0, api.MaxDoc - 2, strings.Repeat(">", api.MaxDoc), 0},
		{sample.Tokens("_"), 0, 0, strings.Repeat("(", api.MaxDeep-1) + "<", 2},
		{sample.Tokens("_"), 0, 0, strings.Repeat("(", api.MaxDeep) + "<", 3},
		{sample.Tokens("_"), 0, 1, strings.Repeat("(", api.MaxDeep) + "<", 0},
		{sample.Tokens("_"), 0, 1, strings.Repeat("<", api.MaxDoc), 0},
	} {
		s, way, e := Fit(c, x.l, x.from, x.to, sample.Tokens(x.slice))
		if x.way == 0 {
			refused(t, "Fit at a limit", api.ErrArg, s, way, e)
			continue
		}
		if way != x.way || e != api.OK {
			t.Errorf("Fit of %d from %d to %d in %d: %d, %d; want %d", len(x.slice), x.from, x.to, len(x.l), way, e, x.way)
			continue
		}
		may(t, c, x.l, s)
	}
}

// may fails unless s may be done at l, and leaves it valid (P13.3).
func may(t *testing.T, c *schema.Schema, l []api.Token, s api.Step) {
	t.Helper()
	then, e := step.Apply(l, s)
	if e != api.OK {
		t.Fatalf("%v at %v: %d", s, l, e)
	}
	if at, e := c.Check(then); at != len(then) || e != api.OK {
		t.Fatalf("%v at %v makes %v: %d, %d", s, l, then, at, e)
	}
}

// plainText says in the chapter's words what the third way puts at from in the valid l.
func plainText(c *schema.Schema, l []api.Token, from int, slice []api.Token) []api.Token {
	i := flat.Around(l, from)
	if i < 0 {
		return nil
	}
	spec, _ := c.Spec(l[i].T)
	var text []api.Token
	for _, one := range slice {
		if one.K != api.TRune || one.N == 10 && !spec.Lines {
			continue
		}
		text = append(text, api.Token{N: one.N, M: one.M & spec.Marks})
	}
	return text
}

// plain says in the chapter's words what Fit answers of the valid l, and of a slice of right tokens.
func plain(c *schema.Schema, l []api.Token, from int, to int, slice []api.Token) (api.Step, int, api.Errno) {
	for i, tried := range [][]api.Token{slice, plainClosed(slice), plainText(c, l, from, slice), nil} {
		s := api.Step{From: from, To: to, Slice: tried}
		then, e := step.Apply(l, s)
		if e != api.OK {
			continue
		}
		if _, e := c.Check(then); e == api.OK {
			return s, i + 1, api.OK
		}
	}
	return api.Step{}, 0, api.ErrArg
}

// holdsAll fails where Fit answers of the valid ones of docs other than what the chapter's words say, or if one of the ways up to last is never told.
func holdsAll(t *testing.T, c *schema.Schema, docs [][]api.Token, slices [][]api.Token, last int) {
	t.Helper()
	var told [5]int
	for _, l := range docs {
		if _, e := c.Check(l); e != api.OK {
			continue
		}
		for from := 0; from <= len(l); from++ {
			for to := from; to <= len(l); to++ {
				for _, slice := range slices {
					want, n, e := plain(c, l, from, to, slice)
					got, m, f := Fit(c, l, from, to, slice)
					if !step.Same(got, want) || m != n || f != e {
						t.Fatalf("Fit(%v, %d, %d, %v): %v, %d, %d; want %v, %d, %d", l, from, to, slice, got, m, f, want, n, e)
					}
					told[n]++
				}
			}
		}
	}
	for n, times := range told {
		if times == 0 && n <= last {
			t.Errorf("the way %d was never told", n)
		}
	}
}

func TestAllShortPastesInTheHouse(t *testing.T) {
	docs := sample.Rows(sample.Tokens("a<(_>"), 4)
	for _, s := range []string{"<ab>(<c>)", "[{<a>}{_<>}]", "(_#a>_)", "`\n'<B>", "<E>`c'"} {
		docs = append(docs, sample.Tokens(s))
	}
	holdsAll(t, schema.House(), docs, sample.Rows(sample.Tokens("xC\n<(_>"), 3), 4)
}

func TestAllShortPastesInOthers(t *testing.T) {
	alphabet := []api.Token{{N: 'a'}, {N: 'd', M: api.Strong + api.Em}, {N: 10}, sample.Open(1, 0), sample.Open(2, 3), {K: api.TClose}}
	docs := append(sample.Rows(alphabet, 3), []api.Token{sample.Open(2, 0), {N: 'a'}, {K: api.TClose}, {N: 'a'}}, []api.Token{sample.Open(1, 0), sample.Open(2, 1), {K: api.TClose}, {K: api.TClose}, sample.Open(2, 0), {K: api.TClose}})
	// What fits hangs on what stands beside it; text may stand in the whole, where no mark may.
	for _, x := range []struct {
		whole, a, b string
		last        int
	}{
		{"(a|b|text)*", "(a|b|text)*", "(a|b|text)*", 3}, // where text may stand everywhere the third way is taken ahead of the last
		{"text* a* b?", "b? a* text*", "text? a? b*", 4},
	} {
		c, e := schema.New(x.whole, []api.Spec{
			{Name: "a", Expr: x.a, Marks: 5, Most: 2, Lines: true},
			{Name: "b", Expr: x.b, Marks: 2, Most: 4},
		}, nil)
		if e != api.OK {
			t.Fatal(e)
		}
		holdsAll(t, c, docs, sample.Rows(alphabet, 3), x.last)
	}
}

func TestNothingKeptNorChanged(t *testing.T) {
	c := schema.House()
	const doc = "<ab>"
	l := append(make([]api.Token, 0, 16), sample.Tokens(doc)...)
	for _, x := range []struct {
		at    int
		slice string
		way   int
		tried string
	}{{2, "xD", 1, "xD"}, {0, ">(<x", 2, "(<x>)"}, {0, "(<B", 2, "(<B>)"}, {2, "<xD\n>", 3, "xD"}, {0, "x", 3, ""}} {
		slice := append(make([]api.Token, 0, 16), sample.Tokens(x.slice)...)
		s, way, e := Fit(c, l, x.at, x.at, slice)
		again, _, _ := Fit(c, l, x.at, x.at, slice)
		shut := Closed(slice)
		text := Plain(slice, api.Spec{Marks: 0})
		if way != x.way || e != api.OK {
			t.Fatalf("Fit(%s): %d, %d", x.slice, way, e)
		}
		for _, given := range []struct {
			now  []api.Token
			then string
		}{{l, doc}, {slice, x.slice}} {
			wide := slices.Clone(given.now[:cap(given.now)])
			if want := append(sample.Tokens(given.then), make([]api.Token, cap(given.now)-len(given.now))...); !flat.Same(wide, want) {
				t.Errorf("what was handed in is changed: %v", wide)
			}
		}
		// What is written over what was handed in, or into one answer, is not seen in the others.
		for _, list := range [][]api.Token{slice, shut, text, again.Slice} {
			for i := range list {
				list[i] = api.Token{K: 9}
			}
		}
		if !flat.Same(s.Slice, sample.Tokens(x.tried)) {
			t.Errorf("Fit(%s): %v has been changed", x.slice, s.Slice)
		}
	}
}
