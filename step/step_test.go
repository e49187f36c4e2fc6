package step

import (
	"math"
	"reflect"
	"slices"
	"strings"
	"testing"

	"emender/api"
	"emender/flat"
	"emender/mark"
	"emender/pos"
	"emender/sample"
)

func marking(from, to, m int) api.Step {
	return api.Step{K: api.SMark, From: from, To: to, Mark: m}
}

func unmarking(from, to, m int) api.Step {
	return api.Step{K: api.SUnmark, From: from, To: to, Mark: m}
}

// rows answers all texts of at most most of the letters.
func rows(letters string, most int) []string {
	all := []string{""}
	last := all
	for range most {
		var next []string
		for _, s := range last {
			for _, c := range letters {
				next = append(next, s+string(c))
			}
		}
		all = append(all, next...)
		last = next
	}
	return all
}

// documents answers those of the rows that are documents.
func documents(letters string, most int) [][]api.Token {
	var all [][]api.Token
	for _, s := range rows(letters, most) {
		l := sample.Tokens(s)
		if _, e := flat.Check(l); e == api.OK {
			all = append(all, l)
		}
	}
	return all
}

// steps answers all right steps up to the place most with one of what is put in.
func steps(most int, put []string) []api.Step {
	var all []api.Step
	for from := range most + 1 {
		for to := from; to <= most; to++ {
			for _, m := range []int{api.Strong, api.Em, api.Code} {
				all = append(all, marking(from, to, m), unmarking(from, to, m))
			}
			for _, x := range put {
				all = append(all, sample.Replace(from, to, x))
				for gapFrom := from; gapFrom < to; gapFrom++ {
					for gapTo := gapFrom + 1; gapTo <= to; gapTo++ {
						for n := range len(x) + 1 {
							all = append(all, sample.Around(from, gapFrom, gapTo, to, x[:n], x[n:]))
						}
					}
				}
			}
		}
	}
	return slices.DeleteFunc(all, func(s api.Step) bool { return plainCheck(s) != api.OK })
}

// same holds two steps against each other, with nil and empty slices the same.
func same(a, b api.Step) bool {
	if len(a.Slice) == 0 {
		a.Slice = nil
	}
	if len(b.Slice) == 0 {
		b.Slice = nil
	}
	return reflect.DeepEqual(a, b)
}

func isZero(s api.Step) bool {
	return same(s, api.Step{})
}

// plainCheck says in the chapter's words whether s may be.
func plainCheck(s api.Step) api.Errno {
	if len(s.Slice) > api.MaxDoc {
		return api.ErrLong
	}
	isAround, isMarks := s.K == api.SAround, s.K == api.SMark || s.K == api.SUnmark
	noGap := s.GapFrom == 0 && s.GapTo == 0 && s.Insert == 0
	ok := s.K >= 0 && s.K <= 3
	ok = ok && 0 <= s.From && s.From <= s.To && s.To <= api.MaxDoc
	ok = ok && (!isAround || s.From <= s.GapFrom && s.GapFrom < s.GapTo && s.GapTo <= s.To)
	ok = ok && (!isAround || 0 <= s.Insert && s.Insert <= len(s.Slice))
	ok = ok && (!isMarks || s.Mark == 1 || s.Mark == 2 || s.Mark == 4)
	ok = ok && (!isMarks || s.From != s.To)
	ok = ok && (isAround || noGap) && (isMarks || s.Mark == 0) && (!isMarks || len(s.Slice) == 0)
	for _, t := range s.Slice {
		ok = ok && flat.Right(t)
	}
	if !ok {
		return api.ErrArg
	}
	return api.OK
}

// plainDo says in the chapter's words what s makes of l, token by token and place by place.
func plainDo(l []api.Token, s api.Step) []api.Token {
	var then []api.Token
	for at := range len(l) + 1 {
		if s.K == api.SReplace && at == s.From {
			then = append(then, s.Slice...)
		}
		if s.K == api.SAround && at == s.GapFrom {
			then = append(then, s.Slice[:s.Insert]...)
		}
		if s.K == api.SAround && at == s.GapTo {
			then = append(then, s.Slice[s.Insert:]...)
		}
		if at == len(l) {
			break
		}
		t, in := l[at], s.From <= at && at < s.To
		switch {
		case in && s.K == api.SReplace:
		case in && s.K == api.SAround && (at < s.GapFrom || at >= s.GapTo):
		case in && s.K == api.SMark && t.K == api.TRune:
			t.M, _ = mark.Add(t.M, s.Mark)
			then = append(then, t)
		case in && s.K == api.SUnmark && t.K == api.TRune:
			t.M, _ = mark.Take(t.M, s.Mark)
			then = append(then, t)
		default:
			then = append(then, t)
		}
	}
	return then
}

// plainApply says in the chapter's words what Apply answers, of a document and a right step.
func plainApply(l []api.Token, s api.Step) ([]api.Token, api.Errno) {
	if s.To > len(l) {
		return nil, api.ErrArg
	}
	then := plainDo(l, s)
	_, e := flat.Check(then)
	if e == api.ErrShort {
		e = api.ErrForm
	}
	if e != api.OK {
		return nil, e
	}
	return then, api.OK
}

func TestP9_1Check(t *testing.T) {
	full := strings.Repeat("x", api.MaxDoc)
	for _, x := range []struct {
		s    api.Step
		want api.Errno
	}{
		{api.Step{}, api.OK},
		{api.Step{Slice: []api.Token{}}, api.OK},
		{sample.Replace(1, 1, "x"), api.OK},
		{sample.Replace(0, api.MaxDoc, full), api.OK},
		{sample.Replace(api.MaxDoc, api.MaxDoc, "><_)("), api.OK},
		{sample.Around(0, 0, 4, 4, "(", ")"), api.OK},
		{sample.Around(0, 1, 2, api.MaxDoc, "", ""), api.OK},
		{sample.Around(0, 0, 1, 1, full, ""), api.OK},
		{sample.Around(0, 0, 1, 1, "", full), api.OK},
		{sample.Around(api.MaxDoc-1, api.MaxDoc-1, api.MaxDoc, api.MaxDoc, "", ""), api.OK},
		{marking(0, 1, api.Strong), api.OK},
		{marking(0, api.MaxDoc, api.Em), api.OK},
		{unmarking(api.MaxDoc-1, api.MaxDoc, api.Code), api.OK},

		{sample.Replace(0, 0, full+"x"), api.ErrLong},
		{api.Step{K: -1, From: -1, Slice: sample.Tokens(full + "!")}, api.ErrLong},
		{api.Step{K: api.SMark, To: 1, Mark: 1, Slice: sample.Tokens(full + "x")}, api.ErrLong},

		{api.Step{K: -1}, api.ErrArg},
		{api.Step{K: 4}, api.ErrArg},
		{api.Step{K: math.MinInt}, api.ErrArg},
		{api.Step{K: math.MaxInt}, api.ErrArg},
		{sample.Replace(-1, 0, ""), api.ErrArg},
		{sample.Replace(math.MinInt, math.MaxInt, ""), api.ErrArg},
		{sample.Replace(2, 1, ""), api.ErrArg},
		{sample.Replace(0, api.MaxDoc+1, ""), api.ErrArg},
		{sample.Replace(api.MaxDoc+1, api.MaxDoc+1, ""), api.ErrArg},
		{sample.Replace(0, math.MaxInt, ""), api.ErrArg},
		{sample.Replace(0, 0, "x!"), api.ErrArg},
		{sample.Replace(0, 0, full[1:]+"!"), api.ErrArg},
		{api.Step{Mark: 1}, api.ErrArg},
		{api.Step{GapFrom: 1, To: 2}, api.ErrArg},
		{api.Step{GapTo: 1, To: 2}, api.ErrArg},
		{api.Step{Insert: 1, Slice: sample.Tokens("x")}, api.ErrArg},

		{sample.Around(1, 0, 2, 2, "", ""), api.ErrArg},
		{sample.Around(0, 1, 1, 2, "", ""), api.ErrArg},
		{sample.Around(0, 2, 1, 2, "", ""), api.ErrArg},
		{sample.Around(0, 1, 3, 2, "", ""), api.ErrArg},
		{sample.Around(0, math.MinInt, math.MaxInt, 2, "", ""), api.ErrArg},
		{sample.Around(-1, 0, 1, 1, "", ""), api.ErrArg},
		{sample.Around(0, 0, 1, api.MaxDoc+1, "", ""), api.ErrArg},
		{sample.Around(0, 0, 1, 1, "!", ""), api.ErrArg},
		{sample.Around(0, 0, 1, 1, "", "!"), api.ErrArg},
		{api.Step{K: api.SAround, To: 1, GapTo: 1, Insert: -1, Slice: sample.Tokens("()")}, api.ErrArg},
		{api.Step{K: api.SAround, To: 1, GapTo: 1, Insert: 3, Slice: sample.Tokens("()")}, api.ErrArg},
		{api.Step{K: api.SAround, To: 1, GapTo: 1, Insert: 1}, api.ErrArg},
		{api.Step{K: api.SAround, To: 1, GapTo: 1, Insert: math.MaxInt}, api.ErrArg},
		{api.Step{K: api.SAround, To: 1, GapTo: 1, Mark: 1}, api.ErrArg},

		{marking(0, 1, 0), api.ErrArg},
		{marking(0, 1, 3), api.ErrArg},
		{unmarking(0, 1, 8), api.ErrArg},
		{unmarking(0, 1, -1), api.ErrArg},
		{marking(1, 1, 1), api.ErrArg},
		{unmarking(0, 0, 4), api.ErrArg},
		{marking(-1, 1, 1), api.ErrArg},
		{marking(2, 1, 1), api.ErrArg},
		{unmarking(0, api.MaxDoc+1, 1), api.ErrArg},
		{api.Step{K: api.SMark, To: 2, Mark: 1, GapFrom: 1}, api.ErrArg},
		{api.Step{K: api.SMark, To: 2, Mark: 1, GapTo: 1}, api.ErrArg},
		{api.Step{K: api.SUnmark, To: 2, Mark: 1, Insert: 1}, api.ErrArg},
		{api.Step{K: api.SUnmark, To: 2, Mark: 1, Slice: sample.Tokens("x")}, api.ErrArg},
	} {
		if e := Check(x.s); e != x.want {
			t.Errorf("Check(%+v) = %d, want %d", short(x.s), e, x.want)
		}
	}
}

// short answers s with few of its tokens, to be told.
func short(s api.Step) api.Step {
	s.Slice = s.Slice[:min(len(s.Slice), 5)]
	return s
}

// TestP9_1CheckIsPlain goes over all small fields of all kinds, right and wrong.
func TestP9_1CheckIsPlain(t *testing.T) {
	fields := func(least, most int, do func(int)) {
		for n := least; n <= most; n++ {
			do(n)
		}
	}
	for _, x := range []string{"", "x", ")(", "x!"} {
		fields(-1, 4, func(k int) {
			fields(-1, 3, func(from int) {
				fields(-1, 3, func(to int) {
					fields(-1, 3, func(gapFrom int) {
						fields(-1, 4, func(gapTo int) {
							fields(-1, 3, func(insert int) {
								fields(-1, 5, func(m int) {
									s := api.Step{K: k, From: from, To: to, GapFrom: gapFrom, GapTo: gapTo, Insert: insert, Mark: m, Slice: sample.Tokens(x)}
									if got, want := Check(s), plainCheck(s); got != want {
										t.Fatalf("Check(%+v) = %d, want %d", s, got, want)
									}
								})
							})
						})
					})
				})
			})
		})
	}
}

func TestP9_2Apply(t *testing.T) {
	for _, x := range []struct {
		l    string
		s    api.Step
		want string
	}{
		{"<>", sample.Replace(1, 1, "x"), "<x>"},
		{"", api.Step{}, ""},
		{"", sample.Replace(0, 0, "<a>"), "<a>"},
		{"<a>", sample.Replace(0, 3, ""), ""},
		{"<ab>", sample.Replace(2, 3, "><x"), "<a><x>"},
		{"<a><b>", sample.Replace(2, 4, ""), "<ab>"},
		{"<a>", sample.Replace(0, 1, "("), "(a>"},
		{"<ab>", sample.Around(0, 0, 4, 4, "(", ")"), "(<ab>)"},
		{"(<ab>)", sample.Around(0, 1, 5, 6, "", ""), "<ab>"},
		{"<abcd>", sample.Around(1, 2, 4, 5, "xy", "z"), "<xybcz>"},
		{"<abcd>", sample.Around(1, 2, 4, 5, "xyz", ""), "<xyzbc>"},
		{"<abcd>", sample.Around(1, 2, 4, 5, "", "xyz"), "<bcxyz>"},
		{"<bB_>", marking(0, 5, api.Strong), "<BB_>"},
		{"<bB>", marking(1, 2, api.Strong), "<BB>"},
		{"<C>", marking(0, 3, api.Em), "<C>"},
		{"<cB>", marking(1, 2, api.Code), "<CB>"},
		{"<BbB>", unmarking(2, 4, api.Strong), "<Bbb>"},
		{"<C>", unmarking(1, 2, api.Code), "<c>"},
		{"<C>", unmarking(1, 2, api.Em), "<C>"},
	} {
		if got, e := Apply(sample.Tokens(x.l), x.s); !slices.Equal(got, sample.Tokens(x.want)) || e != api.OK {
			t.Errorf("Apply(%q, %+v) = %v, %d", x.l, x.s, got, e)
		}
	}
}

func TestP9_2ApplyChangesTextAlone(t *testing.T) {
	l := []api.Token{{K: api.TOpen, T: 2, N: 3}, {N: 'x', M: api.Strong}, {K: api.TLeaf, T: 7}, {K: api.TClose}}
	want := slices.Clone(l)
	want[1].M = api.Strong | api.Em
	if got, e := Apply(l, marking(0, 4, api.Em)); !slices.Equal(got, want) || e != api.OK {
		t.Errorf("Apply = %v, %d", got, e)
	}
	want[1].M = 0
	if got, e := Apply(l, unmarking(0, 4, api.Strong)); !slices.Equal(got, want) || e != api.OK {
		t.Errorf("Apply = %v, %d", got, e)
	}
}

// refusals are documents and steps that Apply and Invert refuse, with the errors' order.
func refusals() []struct {
	l    string
	s    api.Step
	want api.Errno
} {
	full := "<" + strings.Repeat("x", api.MaxDoc-2) + ">"
	deepest := strings.Repeat("<", api.MaxDeep) + strings.Repeat(">", api.MaxDeep)
	wrong, long := api.Step{K: 4}, sample.Replace(0, 0, full+"x")
	return []struct {
		l    string
		s    api.Step
		want api.Errno
	}{
		{full + "x", wrong, api.ErrLong},
		{full + "!", sample.Replace(0, 0, ""), api.ErrLong},
		{"x>", wrong, api.ErrForm},
		{"<!", long, api.ErrForm},
		{"<" + deepest + ">", wrong, api.ErrDeep},
		{"<", wrong, api.ErrShort},
		{"<", long, api.ErrShort},
		{"<", sample.Replace(1, 1, ">"), api.ErrShort},
		{"<>", long, api.ErrLong},
		{"<>", wrong, api.ErrArg},
		{"<>", marking(1, 1, 1), api.ErrArg},
		{"<>", sample.Replace(3, 3, full), api.ErrArg},
		{"<>", sample.Replace(0, 3, ""), api.ErrArg},
		{"", sample.Replace(0, 1, ""), api.ErrArg},
		{"", marking(0, 1, 1), api.ErrArg},
		{"<a>", sample.Around(0, 0, 3, 4, "(", ")"), api.ErrArg},
		{"<a>", sample.Replace(0, api.MaxDoc, full), api.ErrArg},
		{"<>", sample.Replace(1, 1, full), api.ErrLong},
		{full, sample.Replace(1, 1, "x"), api.ErrLong},
		{full, sample.Replace(1, 2, "xx"), api.ErrLong},
		{full, sample.Replace(1, 1, "<"), api.ErrLong},
		{full, sample.Around(1, 1, 2, 2, "x", ""), api.ErrLong},
		{full, sample.Around(1, 1, 2, 2, "", "x"), api.ErrLong},
		{full, sample.Around(1, 2, 3, 3, "x", "x"), api.ErrLong},
		{"<a>", sample.Replace(0, 1, ""), api.ErrForm},
		{"<a>", sample.Replace(2, 3, ""), api.ErrForm},
		{"<a>", sample.Replace(3, 3, ">"), api.ErrForm},
		{"<a>", sample.Replace(3, 3, "<"), api.ErrForm},
		{"<a>", sample.Replace(0, 0, ">"), api.ErrForm},
		{"<a>", sample.Around(0, 0, 3, 3, ")", "("), api.ErrForm},
		{"<a>", sample.Around(0, 0, 3, 3, "((", ")"), api.ErrForm},
		{deepest, sample.Replace(api.MaxDeep, api.MaxDeep, "<>"), api.ErrDeep},
		{deepest, sample.Around(0, 0, 2*api.MaxDeep, 2*api.MaxDeep, "(", ")"), api.ErrDeep},
		{deepest, sample.Replace(api.MaxDeep, api.MaxDeep, "<"), api.ErrDeep},
	}
}

func TestP9_2ApplyRefuses(t *testing.T) {
	for _, x := range refusals() {
		if got, e := Apply(sample.Tokens(x.l), x.s); len(got) > 0 || e != x.want {
			t.Errorf("Apply(%.9q, %+v) = %v, %d, want %d", x.l, short(x.s), got, e, x.want)
		}
	}
}

func TestP9_2InvertRefuses(t *testing.T) {
	for _, x := range refusals() {
		if got, e := Invert(sample.Tokens(x.l), x.s); !isZero(got) || e != x.want {
			t.Errorf("Invert(%.9q, %+v) = %v, %d, want %d", x.l, short(x.s), got, e, x.want)
		}
	}
}

func TestP9_2AtTheLimits(t *testing.T) {
	full := "<" + strings.Repeat("x", api.MaxDoc-2) + ">"
	deepest := strings.Repeat("<", api.MaxDeep) + strings.Repeat(">", api.MaxDeep)
	for _, x := range []struct {
		l    string
		s    api.Step
		want string
	}{
		{"", sample.Replace(0, 0, full), full},
		{full, sample.Replace(0, api.MaxDoc, ""), ""},
		{full, sample.Replace(0, api.MaxDoc, full), full},
		{full, sample.Replace(1, 2, "x"), full},
		{full[1 : len(full)-1], sample.Around(0, 0, api.MaxDoc-2, api.MaxDoc-2, "<", ">"), full},
		{full, sample.Around(0, 1, api.MaxDoc-1, api.MaxDoc, "", ""), full[1 : len(full)-1]},
		{deepest[1 : len(deepest)-1], sample.Around(0, 0, 2*api.MaxDeep-2, 2*api.MaxDeep-2, "<", ">"), deepest},
	} {
		l, want := sample.Tokens(x.l), sample.Tokens(x.want)
		got, e := Apply(l, x.s)
		if !slices.Equal(got, want) || e != api.OK {
			t.Errorf("Apply(%.9q, %+v): %d tokens, %d", x.l, short(x.s), len(got), e)
		}
		back, e := Invert(l, x.s)
		if e != api.OK {
			t.Errorf("Invert(%.9q, %+v): %d", x.l, short(x.s), e)
		}
		if again, e := Apply(got, back); !slices.Equal(again, l) || e != api.OK {
			t.Errorf("%.9q comes back from %+v as %d tokens, %d", x.l, short(x.s), len(again), e)
		}
	}
}

func TestP9_2Invert(t *testing.T) {
	for _, x := range []struct {
		l       string
		s, want api.Step
	}{
		{"", api.Step{}, api.Step{}},
		{"<>", sample.Replace(1, 1, "x"), sample.Replace(1, 2, "")},
		{"<ab>", sample.Replace(2, 3, "><x"), sample.Replace(2, 5, "b")},
		{"<ab>", sample.Replace(0, 4, ""), sample.Replace(0, 0, "<ab>")},
		{"<ab>", sample.Around(0, 0, 4, 4, "(", ")"), sample.Around(0, 1, 5, 6, "", "")},
		{"(<ab>)", sample.Around(0, 1, 5, 6, "", ""), sample.Around(0, 0, 4, 4, "(", ")")},
		{"<abcd>", sample.Around(1, 2, 4, 5, "xy", "z"), sample.Around(1, 3, 5, 6, "a", "d")},
		{"<abcde>", sample.Around(1, 3, 4, 6, "", "xyz"), sample.Around(1, 1, 2, 5, "ab", "de")},
		{"<abcde>", sample.Around(1, 1, 4, 6, "xyz", ""), sample.Around(1, 4, 7, 7, "", "de")},
		{"<ab>", marking(0, 4, api.Em), unmarking(0, 4, api.Em)},
		{"<ab>", marking(0, 1, api.Em), unmarking(0, 1, api.Em)},
		{"<aB>", marking(0, 4, api.Em), unmarking(0, 4, api.Em)},
		{"<aC>", marking(1, 3, api.Em), unmarking(1, 3, api.Em)},
		{"<aC>", marking(1, 3, api.Code), sample.Replace(1, 3, "aC")},
		{"<B>", marking(1, 2, api.Code), sample.Replace(1, 2, "B")},
		{"<aE>", marking(0, 4, api.Em), sample.Replace(0, 4, "<aE>")},
		{"<aE>", marking(1, 2, api.Em), unmarking(1, 2, api.Em)},
		{"<BB>", unmarking(0, 4, api.Strong), marking(0, 4, api.Strong)},
		{"<Bb>", unmarking(0, 4, api.Strong), sample.Replace(0, 4, "<Bb>")},
		{"<b>", unmarking(1, 2, api.Strong), sample.Replace(1, 2, "b")},
		{"<C>", unmarking(1, 2, api.Strong), marking(1, 2, api.Strong)},
		{"<C>", unmarking(1, 2, api.Code), marking(1, 2, api.Code)},
		{"<_>", unmarking(0, 3, api.Code), marking(0, 3, api.Code)},
	} {
		if got, e := Invert(sample.Tokens(x.l), x.s); !same(got, x.want) || e != api.OK {
			t.Errorf("Invert(%q, %+v) = %+v, %d, want %+v", x.l, x.s, got, e, x.want)
		}
	}
}

func TestP9_3Map(t *testing.T) {
	full := strings.Repeat("x", api.MaxDoc)
	for _, x := range []struct {
		s    api.Step
		want []api.Range
	}{
		{api.Step{}, []api.Range{{}}},
		{sample.Replace(5, 8, "x"), []api.Range{{At: 5, Old: 3, New: 1}}},
		{sample.Replace(0, api.MaxDoc, full), []api.Range{{Old: api.MaxDoc, New: api.MaxDoc}}},
		{sample.Around(0, 0, 4, 4, "(", ")"), []api.Range{{New: 1}, {At: 4, New: 1}}},
		{sample.Around(1, 3, 6, 10, "abc", "de"), []api.Range{{At: 1, Old: 2, New: 3}, {At: 6, Old: 4, New: 2}}},
		{sample.Around(2, 2, 3, 3, "", ""), []api.Range{{At: 2}, {At: 3}}},
		{sample.Around(0, 0, 1, 1, full, ""), []api.Range{{New: api.MaxDoc}, {At: 1}}},
		{marking(1, 5, api.Em), nil},
		{unmarking(0, api.MaxDoc, api.Code), nil},
	} {
		if got, e := Map(x.s); !slices.Equal(got, x.want) || e != api.OK {
			t.Errorf("Map(%+v) = %v, %d", short(x.s), got, e)
		}
	}
	for _, x := range []struct {
		s    api.Step
		want api.Errno
	}{{sample.Replace(0, 0, full+"x"), api.ErrLong}, {api.Step{K: 4}, api.ErrArg}, {sample.Replace(2, 1, ""), api.ErrArg}, {marking(1, 1, 1), api.ErrArg}, {sample.Around(0, 1, 1, 2, "", ""), api.ErrArg}} {
		if got, e := Map(x.s); len(got) > 0 || e != x.want {
			t.Errorf("Map(%+v) = %v, %d", short(x.s), got, e)
		}
	}
}

func TestP9_3Merge(t *testing.T) {
	half := strings.Repeat("x", api.MaxDoc/2)
	for _, x := range []struct {
		a, b, want api.Step
	}{
		{sample.Replace(1, 1, "x"), sample.Replace(2, 3, "y"), sample.Replace(1, 2, "xy")},
		{sample.Replace(1, 1, "x"), sample.Replace(2, 2, "y"), sample.Replace(1, 1, "xy")},
		{sample.Replace(3, 5, "x"), sample.Replace(4, 9, ""), sample.Replace(3, 10, "x")},
		{sample.Replace(3, 5, "x"), sample.Replace(1, 3, "yz"), sample.Replace(1, 5, "yzx")},
		{sample.Replace(3, 3, "x"), sample.Replace(3, 3, "y"), sample.Replace(3, 3, "yx")},
		{sample.Replace(3, 5, ""), sample.Replace(3, 3, "y"), sample.Replace(3, 5, "y")},
		{sample.Replace(3, 5, ""), sample.Replace(3, 4, "y"), sample.Replace(3, 6, "y")},
		{sample.Replace(3, 5, ""), sample.Replace(2, 3, ""), sample.Replace(2, 5, "")},
		{api.Step{}, api.Step{}, api.Step{}},
		{sample.Replace(0, 0, half), sample.Replace(api.MaxDoc/2, api.MaxDoc/2, half), sample.Replace(0, 0, half+half)},
		{sample.Replace(0, api.MaxDoc-1, ""), sample.Replace(0, 1, ""), sample.Replace(0, api.MaxDoc, "")},
		{marking(1, 3, api.Em), marking(3, 5, api.Em), marking(1, 5, api.Em)},
		{marking(3, 5, api.Em), marking(1, 3, api.Em), marking(1, 5, api.Em)},
		{marking(1, 5, api.Em), marking(2, 3, api.Em), marking(1, 5, api.Em)},
		{marking(2, 3, api.Em), marking(1, 5, api.Em), marking(1, 5, api.Em)},
		{unmarking(1, 4, api.Code), unmarking(2, 6, api.Code), unmarking(1, 6, api.Code)},
		{unmarking(1, 4, api.Code), unmarking(1, 4, api.Code), unmarking(1, 4, api.Code)},
	} {
		if got, ok := Merge(x.a, x.b); !same(got, x.want) || !ok {
			t.Errorf("Merge(%+v, %+v) = %+v, %v", short(x.a), short(x.b), short(got), ok)
		}
	}
}

func TestP9_3MergeRefuses(t *testing.T) {
	half, full := strings.Repeat("x", api.MaxDoc/2), strings.Repeat("x", api.MaxDoc)
	for _, x := range []struct{ a, b api.Step }{
		{sample.Replace(1, 1, "x"), sample.Replace(4, 4, "")},
		{sample.Replace(1, 1, "xy"), sample.Replace(2, 2, "z")},
		{sample.Replace(1, 1, "xy"), sample.Replace(0, 2, "z")},
		{sample.Replace(1, 1, "xy"), sample.Replace(1, 2, "z")},
		{sample.Replace(1, 1, "xy"), sample.Replace(0, 5, "z")},
		{sample.Replace(5, 5, "x"), sample.Replace(1, 4, "")},
		{sample.Replace(0, 0, half), sample.Replace(api.MaxDoc/2, api.MaxDoc/2, half+"x")},
		{sample.Replace(0, 0, full), sample.Replace(0, 0, "x")},
		{sample.Replace(0, api.MaxDoc, ""), sample.Replace(0, 1, "")},
		{sample.Replace(0, 0, "x"), api.Step{From: 1, To: 0}},
		{api.Step{From: 2, To: 1}, sample.Replace(2, 2, "x")},
		{sample.Replace(0, 0, "!"), sample.Replace(1, 1, "x")},
		{sample.Replace(0, 0, "x"), sample.Replace(1, 1, "!")},
		{sample.Replace(0, 0, full+"x"), sample.Replace(0, 0, "")},
		{sample.Replace(1, 2, ""), marking(1, 2, 1)},
		{marking(1, 2, 1), sample.Replace(1, 2, "")},
		{marking(1, 3, api.Em), marking(4, 5, api.Em)},
		{marking(4, 5, api.Em), marking(1, 3, api.Em)},
		{marking(1, 3, api.Em), marking(1, 3, api.Strong)},
		{marking(1, 3, api.Em), unmarking(1, 3, api.Em)},
		{unmarking(1, 3, api.Em), marking(3, 5, api.Em)},
		{unmarking(1, 3, 0), unmarking(1, 3, 0)},
		{marking(1, 1, 1), marking(1, 2, 1)},
		{sample.Around(0, 0, 4, 4, "(", ")"), sample.Around(0, 0, 6, 6, "(", ")")},
		{sample.Around(0, 1, 2, 3, "", ""), sample.Around(0, 1, 2, 3, "", "")},
		{sample.Around(0, 0, 4, 4, "", ""), sample.Replace(0, 0, "")},
		{api.Step{K: 4}, api.Step{K: 4}},
		{sample.Replace(math.MaxInt, math.MaxInt, "x"), sample.Replace(math.MinInt, math.MinInt, "")},
	} {
		if got, ok := Merge(x.a, x.b); !isZero(got) || ok {
			t.Errorf("Merge(%+v, %+v) = %+v, %v", short(x.a), short(x.b), short(got), ok)
		}
	}
}

func TestP9_3Same(t *testing.T) {
	one := api.Step{K: 1, From: 2, To: 3, GapFrom: 4, GapTo: 5, Insert: 6, Slice: sample.Tokens("ab"), Mark: 7}
	if !Same(one, one) || !Same(api.Step{}, api.Step{Slice: []api.Token{}}) || !Same(api.Step{Slice: []api.Token{}}, api.Step{}) {
		t.Error("the same steps are told as others")
	}
	for i, change := range []func(s *api.Step){
		func(s *api.Step) { s.K = 0 },
		func(s *api.Step) { s.From = 0 },
		func(s *api.Step) { s.To = 0 },
		func(s *api.Step) { s.GapFrom = 0 },
		func(s *api.Step) { s.GapTo = 0 },
		func(s *api.Step) { s.Insert = 0 },
		func(s *api.Step) { s.Mark = 0 },
		func(s *api.Step) { s.Slice = nil },
		func(s *api.Step) { s.Slice = sample.Tokens("a") },
		func(s *api.Step) { s.Slice = sample.Tokens("abc") },
		func(s *api.Step) { s.Slice = sample.Tokens("aB") },
	} {
		other := one
		change(&other)
		if Same(one, other) || Same(other, one) {
			t.Errorf("the change %d is not seen", i)
		}
	}
}

// TestP9_4Undone goes over all short documents with all small steps: what is done is as the chapter says, what is undone is as it was, and places go with their tokens.
func TestP9_4Undone(t *testing.T) {
	all := steps(5, []string{"", "x", "<", ">", "><", "<>", "EC"})
	for _, l := range documents("<>aBC", 5) {
		for _, s := range all {
			then, e := Apply(l, s)
			want, wantE := plainApply(l, s)
			if !slices.Equal(then, want) || e != wantE {
				t.Fatalf("Apply(%v, %+v) = %v, %d, want %v, %d", l, s, then, e, want, wantE)
			}
			back, backE := Invert(l, s)
			if backE != e || e != api.OK && !isZero(back) {
				t.Fatalf("Invert(%v, %+v) = %+v, %d, want error %d", l, s, back, backE, e)
			}
			if e != api.OK {
				continue
			}
			if again, e := Apply(then, back); !slices.Equal(again, l) || e != api.OK {
				t.Fatalf("%v comes back from %+v as %v, %d", l, s, again, e)
			}
			holdMaps(t, l, then, s, back)
		}
	}
}

// holdMaps holds the maps of s and of what undoes it against the tokens that stay.
func holdMaps(t *testing.T, l, then []api.Token, s, back api.Step) {
	m, e := Map(s)
	if e != api.OK || !pos.Right(m) {
		t.Fatalf("Map(%+v) = %v, %d", s, m, e)
	}
	for at, x := range l {
		left, _ := pos.Map(m, at, 1)
		right, _ := pos.Map(m, at+1, -1)
		if right.At != left.At+1 || left.Gone || right.Gone || isTaken(m, at) {
			continue
		}
		x.M = then[left.At].M
		if then[left.At] != x {
			t.Fatalf("%v through %+v: what was at %d is not at %d of %v", l, s, at, left.At, then)
		}
	}
	if s.K == back.K && (s.K == api.SReplace || s.K == api.SAround) {
		turned, _ := pos.Invert(m)
		if got, e := Map(back); !slices.Equal(got, turned) || e != api.OK {
			t.Fatalf("Map(%+v) = %v, want %v", back, got, turned)
		}
	}
}

// isTaken tells whether the token at is within a range of m.
func isTaken(m []api.Range, at int) bool {
	return slices.ContainsFunc(m, func(r api.Range) bool { return r.At <= at && at < r.At+r.Old })
}

// plainMerge tells in the chapter's words whether two right steps are merged.
func plainMerge(a, b api.Step) bool {
	switch {
	case a.K == api.SReplace && b.K == api.SReplace:
		return b.From == a.From+len(a.Slice) || b.To == a.From
	case a.K == b.K && a.K != api.SAround && a.Mark == b.Mark:
		return max(a.From, b.From) <= min(a.To, b.To)
	}
	return false
}

// TestP9_4Merged goes over all pairs of small steps: those are merged that the chapter says, and what is merged does what both do.
func TestP9_4Merged(t *testing.T) {
	all := steps(4, []string{"", "x", "><"})
	few := documents("<>aBC", 4)
	for _, a := range all {
		for _, b := range all {
			one, ok := Merge(a, b)
			if ok != plainMerge(a, b) || !ok && !isZero(one) {
				t.Fatalf("Merge(%+v, %+v) = %+v, %v", a, b, one, ok)
			}
			if !ok {
				continue
			}
			for _, l := range few {
				then, e := Apply(l, a)
				if e != api.OK {
					continue
				}
				both, e := Apply(then, b)
				if e != api.OK {
					continue
				}
				if got, e := Apply(l, one); !slices.Equal(got, both) || e != api.OK {
					t.Fatalf("Apply(%v, %+v) = %v, %d, but %+v, %+v make %v", l, one, got, e, a, b, both)
				}
			}
		}
	}
}

// TestWhatIsHandedInStays hands in lists with room behind them, and writes over all that is answered.
func TestWhatIsHandedInStays(t *testing.T) {
	room := sample.Tokens("<abCd><xyz>")
	l, slice := room[:6], sample.Tokens("xyEz")
	for _, s := range []api.Step{
		{From: 2, To: 2},
		{From: 2, To: 2, Slice: slice[:0]},
		{From: 6, To: 6, Slice: slice[:2]},
		{From: 2, To: 4, Slice: slice[:2]},
		{From: 0, To: 6},
		{K: api.SAround, From: 1, To: 5, GapFrom: 2, GapTo: 4, Slice: slice[:3], Insert: 1},
		{K: api.SAround, From: 0, To: 6, GapFrom: 0, GapTo: 6, Slice: slice[:0]},
		{K: api.SMark, From: 0, To: 6, Mark: api.Em, Slice: slice[:0]},
		{K: api.SMark, From: 0, To: 6, Mark: api.Code, Slice: slice[:0]},
		{K: api.SUnmark, From: 0, To: 6, Mark: api.Code},
	} {
		then, e := Apply(l, s)
		back, _ := Invert(l, s)
		one, _ := Merge(s, s)
		other, _ := Merge(api.Step{From: s.To, To: s.To}, s)
		if e != api.OK {
			t.Errorf("Apply(%+v): %d", s, e)
		}
		for _, x := range [][]api.Token{then, back.Slice, one.Slice, other.Slice} {
			clear(x[:cap(x)])
		}
		if !slices.Equal(room, sample.Tokens("<abCd><xyz>")) || !slices.Equal(slice, sample.Tokens("xyEz")) {
			t.Fatalf("%+v: the lists have become %v, %v", s, room, slice)
		}
	}
}

func TestEmptyIsNil(t *testing.T) {
	empty := api.Step{Slice: []api.Token{}}
	for _, l := range [][]api.Token{nil, {}} {
		if got, e := Apply(l, empty); len(got) > 0 || e != api.OK {
			t.Errorf("Apply = %v, %d", got, e)
		}
		if got, e := Invert(l, empty); !isZero(got) || e != api.OK {
			t.Errorf("Invert = %v, %d", got, e)
		}
	}
	for _, s := range []api.Step{{K: api.SMark, To: 1, Mark: 1, Slice: []api.Token{}}, {K: api.SAround, To: 1, GapTo: 1, Slice: []api.Token{}}} {
		if e := Check(s); e != api.OK {
			t.Errorf("Check(%+v) = %d", s, e)
		}
	}
}
