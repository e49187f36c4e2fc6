package remap

import (
	"math"
	"reflect"
	"slices"
	"strings"
	"testing"

	"emender/api"
	"emender/flat"
	"emender/pos"
	"emender/schema"
	"emender/step"
)

// tokens answers those of a text: < opens a para, ( a quote, [ a block of code, > ) and ] end, _ is a rule, ! a wrong token; B is a b that is Strong, E an e that is Em; others are themselves.
func tokens(s string) []api.Token {
	var l []api.Token
	for _, c := range s {
		switch c {
		case '<':
			l = append(l, api.Token{K: api.TOpen, T: api.Para})
		case '(':
			l = append(l, api.Token{K: api.TOpen, T: api.Quote})
		case '[':
			l = append(l, api.Token{K: api.TOpen, T: api.Block})
		case '>', ')', ']':
			l = append(l, api.Token{K: api.TClose})
		case '_':
			l = append(l, api.Token{K: api.TLeaf, T: api.Rule})
		case '!':
			l = append(l, api.Token{N: -1})
		case 'B':
			l = append(l, api.Token{N: 'b', M: api.Strong})
		case 'E':
			l = append(l, api.Token{N: 'e', M: api.Em})
		default:
			l = append(l, api.Token{N: int(c)})
		}
	}
	return l
}

func replace(from, to int, slice string) api.Step {
	return api.Step{From: from, To: to, Slice: tokens(slice)}
}

func around(from, gapFrom, gapTo, to int, ahead, behind string) api.Step {
	return api.Step{K: api.SAround, From: from, To: to, GapFrom: gapFrom, GapTo: gapTo, Insert: len(ahead), Slice: tokens(ahead + behind)}
}

func marking(from, to, m int) api.Step {
	return api.Step{K: api.SMark, From: from, To: to, Mark: m}
}

func unmarking(from, to, m int) api.Step {
	return api.Step{K: api.SUnmark, From: from, To: to, Mark: m}
}

func steps(l ...api.Step) []api.Step {
	return l
}

// ranges answers the map of numbers, three a range.
func ranges(n ...int) []api.Range {
	var m []api.Range
	for ; len(n) > 0; n = n[3:] {
		m = append(m, api.Range{At: n[0], Old: n[1], New: n[2]})
	}
	return m
}

func mapping(t *testing.T, maps ...[]api.Range) *pos.Mapping {
	t.Helper()
	m := pos.New()
	for _, r := range maps {
		if e := m.Add(r); e != api.OK {
			t.Fatalf("Add(%v): %d", r, e)
		}
	}
	return m
}

// isNone tells whether s is the zero step, as it is beside a false.
func isNone(s api.Step) bool {
	return reflect.DeepEqual(s, api.Step{})
}

func TestStep(t *testing.T) {
	cut, put, swap := ranges(3, 4, 0), ranges(3, 0, 2), ranges(3, 4, 2)
	for _, x := range []struct {
		maps [][]api.Range
		s    api.Step
		want api.Step
	}{
		{nil, replace(3, 5, "xy"), replace(3, 5, "xy")},
		{nil, around(1, 2, 3, 4, "(", ")"), around(1, 2, 3, 4, "(", ")")},
		{nil, marking(3, 5, api.Em), marking(3, 5, api.Em)},
		{nil, unmarking(3, 5, api.Code), unmarking(3, 5, api.Code)},
		// What is put just where a step puts something comes ahead of it.
		{[][]api.Range{put}, replace(3, 3, "x"), replace(5, 5, "x")},
		{[][]api.Range{put}, replace(2, 2, "x"), replace(2, 2, "x")},
		{[][]api.Range{put}, replace(4, 4, "x"), replace(6, 6, "x")},
		// What is put at the ends of a step stays out of it, what is put within is in it.
		{[][]api.Range{put}, replace(1, 3, ""), replace(1, 3, "")},
		{[][]api.Range{put}, replace(3, 5, ""), replace(5, 7, "")},
		{[][]api.Range{put}, replace(2, 4, ""), replace(2, 6, "")},
		{[][]api.Range{put}, marking(1, 3, api.Em), marking(1, 3, api.Em)},
		{[][]api.Range{put}, marking(3, 5, api.Em), marking(5, 7, api.Em)},
		{[][]api.Range{put}, unmarking(2, 4, api.Em), unmarking(2, 6, api.Em)},
		// One end is gone.
		{[][]api.Range{cut}, replace(1, 5, "x"), replace(1, 3, "x")},
		{[][]api.Range{cut}, replace(5, 9, "x"), replace(3, 5, "x")},
		{[][]api.Range{swap}, replace(1, 5, "x"), replace(1, 3, "x")},
		{[][]api.Range{swap}, replace(5, 9, "x"), replace(5, 7, "x")},
		{[][]api.Range{swap}, marking(1, 5, api.Em), marking(1, 3, api.Em)},
		{[][]api.Range{swap}, unmarking(5, 9, api.Em), unmarking(5, 7, api.Em)},
		// What is between goes, the ends stay.
		{[][]api.Range{cut}, replace(3, 7, "x"), replace(3, 3, "x")},
		{[][]api.Range{swap}, replace(3, 7, "x"), replace(3, 5, "x")},
		{[][]api.Range{swap}, marking(3, 7, api.Em), marking(3, 5, api.Em)},
		{[][]api.Range{cut}, replace(3, 5, "x"), replace(3, 3, "x")},
		{[][]api.Range{cut}, replace(3, 3, "x"), replace(3, 3, "x")},
		{[][]api.Range{cut}, replace(7, 7, "x"), replace(3, 3, "x")},
		{[][]api.Range{swap}, replace(5, 7, "x"), replace(5, 5, "x")},
		// The gap goes outwards.
		{[][]api.Range{put}, around(1, 3, 5, 7, "(", ")"), around(1, 3, 7, 9, "(", ")")},
		{[][]api.Range{put}, around(0, 1, 3, 5, "(", ")"), around(0, 1, 5, 7, "(", ")")},
		{[][]api.Range{put}, around(3, 4, 5, 6, "(", ")"), around(5, 6, 7, 8, "(", ")")},
		{[][]api.Range{put}, around(0, 1, 2, 3, "(", ")"), around(0, 1, 2, 3, "(", ")")},
		{[][]api.Range{cut}, around(0, 2, 5, 9, "(", ")"), around(0, 2, 3, 5, "(", ")")},
		{[][]api.Range{swap}, around(0, 4, 8, 9, "(", ")"), around(0, 3, 6, 7, "(", ")")},
		// Several maps.
		{[][]api.Range{put, ranges(0, 1, 0)}, replace(3, 4, "x"), replace(4, 5, "x")},
	} {
		s, ok := Step(x.s, mapping(t, x.maps...), 0)
		if !step.Same(s, x.want) || !ok {
			t.Errorf("Step(%v) through %v: %v, %v; want %v", x.s, x.maps, s, ok, x.want)
		}
	}
}

func TestStepRefuses(t *testing.T) {
	cut, swap := ranges(3, 4, 0), ranges(3, 4, 2)
	full := ranges(0, 0, api.MaxText)
	for _, x := range []struct {
		why  string
		maps [][]api.Range
		s    api.Step
		from int
	}{
		{"no right step", nil, replace(2, 1, ""), 0},
		{"no right step", nil, api.Step{K: 4}, 0},
		{"no right step", nil, api.Step{K: -1}, 0},
		{"no right step", nil, replace(-1, 1, ""), 0},
		{"no right step", nil, replace(0, 0, "!"), 0},
		{"no right step", nil, marking(1, 1, api.Em), 0},
		{"no right step", nil, replace(math.MinInt, math.MaxInt, ""), 0},
		{"right only where it comes", [][]api.Range{ranges(0, 1, 0)}, replace(1, api.MaxDoc+1, ""), 0},
		{"no such map", nil, replace(1, 1, "x"), 1},
		{"no such map", nil, replace(1, 1, "x"), -1},
		{"no such map", [][]api.Range{cut}, replace(1, 1, "x"), 2},
		{"no such map", [][]api.Range{cut}, marking(1, 2, api.Em), math.MaxInt},
		{"no such map", [][]api.Range{cut}, around(1, 1, 2, 2, "(", ")"), math.MinInt},
		{"all is gone", [][]api.Range{cut}, replace(4, 4, "x"), 0},
		{"all is gone", [][]api.Range{cut}, replace(4, 6, "x"), 0},
		{"all is gone", [][]api.Range{ranges(3, 0, 2), cut}, replace(4, 4, "x"), 0},
		{"all is gone", [][]api.Range{swap}, replace(4, 6, "x"), 0},
		{"all is gone", [][]api.Range{cut}, around(4, 5, 6, 6, "(", ")"), 0},
		{"all is gone", [][]api.Range{swap}, marking(4, 6, api.Em), 0},
		{"nothing to mark", [][]api.Range{cut}, marking(3, 7, api.Em), 0},
		{"nothing to mark", [][]api.Range{cut}, unmarking(3, 5, api.Em), 0},
		{"nothing to mark", [][]api.Range{cut}, unmarking(6, 7, api.Em), 0},
		{"nothing to mark", [][]api.Range{swap}, marking(5, 7, api.Em), 0},
		{"no gap", [][]api.Range{cut}, around(2, 3, 7, 8, "(", ")"), 0},
		{"no gap", [][]api.Range{cut}, around(0, 4, 6, 8, "(", ")"), 0},
		{"a gap beyond its ends", [][]api.Range{ranges(3, 0, 2)}, around(3, 3, 5, 5, "(", ")"), 0},
		{"a gap beyond its ends", [][]api.Range{ranges(5, 0, 2)}, around(1, 3, 5, 5, "(", ")"), 0},
		{"ends the wrong way round", [][]api.Range{ranges(3, 4, 2)}, around(4, 5, 6, 7, "(", ")"), 0},
		{"above a document's end", [][]api.Range{ranges(0, 0, 1)}, replace(api.MaxDoc, api.MaxDoc, "x"), 0},
		{"above a document's end", [][]api.Range{ranges(0, 0, 1)}, marking(0, api.MaxDoc, api.Em), 0},
		{"From above all places", [][]api.Range{full, full}, replace(0, 0, ""), 0},
		{"From above all places", [][]api.Range{full, ranges(0, 0, 1)}, replace(1, 1, ""), 0},
		{"To above all places", [][]api.Range{ranges(1, 0, api.MaxText)}, marking(0, 2, api.Em), 0},
		{"To above all places", [][]api.Range{ranges(1, 0, api.MaxText)}, replace(0, 2, "x"), 0},
		{"GapFrom above all places", [][]api.Range{ranges(1, 0, api.MaxText)}, around(0, 2, 3, 4, "(", ")"), 0},
		{"GapTo above all places", [][]api.Range{ranges(3, 0, api.MaxText), ranges(0, 0, 1)}, around(0, 2, 3, 3, "(", ")"), 0},
	} {
		if s, ok := Step(x.s, mapping(t, x.maps...), x.from); ok || !isNone(s) {
			t.Errorf("%s: Step(%v) through %v from %d: %v, %v", x.why, x.s, x.maps, x.from, s, ok)
		}
	}
}

func TestStepFrom(t *testing.T) {
	m := mapping(t, ranges(0, 0, 1), ranges(0, 0, 2), ranges(0, 0, 4))
	for from, want := range []int{12, 11, 9, 5} {
		if s, ok := Step(replace(5, 6, "x"), m, from); !step.Same(s, replace(want, want+1, "x")) || !ok {
			t.Errorf("Step from %d: %v, %v", from, s, ok)
		}
	}
}

func TestStepAtTheLimit(t *testing.T) {
	m := mapping(t, ranges(0, 0, 1))
	last := api.MaxDoc
	if s, ok := Step(replace(last-1, last-1, "x"), m, 0); !step.Same(s, replace(last, last, "x")) || !ok {
		t.Errorf("Step: %v, %v", s, ok)
	}
	if s, ok := Step(replace(last, last, "x"), mapping(t, ranges(0, 1, 0)), 0); !step.Same(s, replace(last-1, last-1, "x")) || !ok {
		t.Errorf("Step: %v, %v", s, ok)
	}
}

func TestStepThroughMirrors(t *testing.T) {
	m := mapping(t, ranges(3, 4, 0), ranges(0, 0, 2), ranges(5, 0, 4))
	if _, ok := Step(marking(4, 6, api.Em), m, 0); ok {
		t.Error("a step at what is gone is sent")
	}
	m.Mirror(0, 2)
	if s, ok := Step(marking(4, 6, api.Em), m, 0); !step.Same(s, marking(6, 8, api.Em)) || !ok {
		t.Errorf("Step: %v, %v", s, ok)
	}
}

func TestStepWithoutMapping(t *testing.T) {
	for _, m := range []*pos.Mapping{nil, new(pos.Mapping), {}} {
		for _, s := range steps(replace(1, 1, "x"), around(1, 1, 2, 2, "(", ")"), marking(1, 2, api.Em), api.Step{}) {
			if sent, ok := Step(s, m, 0); ok || !isNone(sent) {
				t.Errorf("Step(%v): %v, %v", s, sent, ok)
			}
		}
	}
}

// smallSteps answers all steps within a few places; some of them are not right.
func smallSteps(most int) []api.Step {
	var l []api.Step
	for from := range most + 1 {
		for to := from; to <= most; to++ {
			l = append(l, replace(from, to, ""), replace(from, to, "x"), marking(from, to, api.Em), unmarking(from, to, api.Em))
			for gapFrom := from; gapFrom <= to; gapFrom++ {
				for gapTo := gapFrom; gapTo <= to; gapTo++ {
					l = append(l, around(from, gapFrom, gapTo, to, "(", ")"), around(from, gapFrom, gapTo, to, "", ""))
				}
			}
		}
	}
	return l
}

// plainly sends s in the chapter's words.
func plainly(s api.Step, m *pos.Mapping, from int) (api.Step, bool) {
	if step.Check(s) != api.OK {
		return api.Step{}, false
	}
	refused := false
	at := func(p int, side int) (int, bool) {
		spot, e := m.Map(from, p, side)
		refused = refused || e != api.OK
		return spot.At, spot.Gone
	}
	var noFrom, noTo bool
	sent := api.Step{K: s.K, Insert: s.Insert, Slice: s.Slice, Mark: s.Mark}
	sent.From, noFrom = at(s.From, 1)
	sent.To, noTo = at(s.To, -1)
	if s.K == api.SReplace && sent.To < sent.From {
		sent.To = sent.From
	}
	if s.K == api.SAround {
		sent.GapFrom, _ = at(s.GapFrom, -1)
		sent.GapTo, _ = at(s.GapTo, 1)
	}
	if (s.K == api.SMark || s.K == api.SUnmark) && sent.To <= sent.From {
		return api.Step{}, false
	}
	if refused || noFrom && noTo || step.Check(sent) != api.OK {
		return api.Step{}, false
	}
	return sent, true
}

func TestStepOfAllSmallSteps(t *testing.T) {
	var maps [][]api.Range
	for at := range 4 {
		for old := range 4 {
			for _, come := range []int{0, 1, 3} {
				maps = append(maps, ranges(at, old, come))
			}
		}
	}
	maps = append(maps, nil, ranges(1, 0, 1, 2, 1, 0), ranges(0, 1, 0, 3, 2, 1), ranges(1, 1, 2, 2, 0, 3))
	small := smallSteps(4)
	sent := 0
	for _, a := range maps {
		for _, b := range maps {
			m := mapping(t, a, b)
			mirrors := mapping(t, a, b)
			mirrors.Mirror(0, 1)
			for _, x := range small {
				for _, by := range []*pos.Mapping{m, mirrors} {
					s, ok := Step(x, by, 0)
					want, may := plainly(x, by, 0)
					if !step.Same(s, want) || ok != may {
						t.Fatalf("Step(%v) through %v, %v: %v, %v; want %v, %v", x, a, b, s, ok, want, may)
					}
					if ok {
						sent++
					}
				}
			}
		}
	}
	if sent == 0 {
		t.Error("nothing is sent")
	}
}

func TestStepLeavesItsArguments(t *testing.T) {
	room := append(make([]api.Token, 0, 8), tokens("xy")...)
	s := api.Step{From: 3, To: 3, Slice: room}
	m := mapping(t, ranges(3, 0, 2))
	sent, ok := Step(s, m, 0)
	if !ok || m.Len() != 1 || !step.Same(s, replace(3, 3, "xy")) {
		t.Fatalf("Step: %v, %v, %d maps, %v", sent, ok, m.Len(), s)
	}
	sent.Slice[0] = api.Token{N: 'q'}
	_ = append(sent.Slice, api.Token{N: 'q'})
	if !flat.Same(room[:3], append(tokens("xy"), api.Token{})) {
		t.Errorf("what was handed in is changed: %v", room[:3])
	}
	none, _ := Step(api.Step{From: 3, To: 3, Slice: room[:0]}, m, 0)
	_ = append(none.Slice, api.Token{N: 'q'})
	if room[0].N != 'x' {
		t.Errorf("what was handed in is changed: %v", room)
	}
}

func TestRebase(t *testing.T) {
	c := schema.House()
	for _, x := range []struct {
		base      string
		own, over []api.Step
		doc       string
		want      []api.Step
		kept      []int
	}{
		{"<>", nil, nil, "<>", nil, nil},
		{"<>", steps(replace(1, 1, "x")), steps(replace(1, 1, "y")), "<yx>", steps(replace(2, 2, "x")), []int{0}},
		{"<>", steps(replace(1, 1, "x"), replace(2, 2, "z")), steps(replace(1, 1, "y")), "<yxz>", steps(replace(2, 2, "x"), replace(3, 3, "z")), []int{0, 1}},
		// What is typed within what was typed stays there.
		{"<a>", steps(replace(1, 1, "xz"), replace(2, 2, "y")), steps(replace(1, 1, "q")), "<qxyza>", steps(replace(2, 2, "xz"), replace(3, 3, "y")), []int{0, 1}},
		{"<a>", steps(replace(1, 1, "ee"), marking(1, 3, api.Em)), steps(replace(1, 1, "q")), "<qEEa>", steps(replace(2, 2, "ee"), marking(2, 4, api.Em)), []int{0, 1}},
		// What stood in what was not kept is gone with it.
		{"<abcd>", steps(replace(3, 3, "xy"), replace(4, 4, "z")), steps(replace(2, 4, "")), "<ad>", nil, nil},
		{"<abcd>", steps(replace(3, 3, "xy"), replace(1, 1, "z")), steps(replace(2, 4, "")), "<zad>", steps(replace(1, 1, "z")), []int{1}},
		// Both take out the same.
		{"<abc>", steps(replace(1, 3, "")), steps(replace(1, 3, "")), "<c>", steps(replace(1, 1, "")), []int{0}},
		{"<abc>", steps(replace(1, 3, "x")), steps(replace(1, 2, "y")), "<xc>", steps(replace(1, 3, "x")), []int{0}},
		{"<a><b>", steps(replace(2, 4, "")), steps(replace(3, 3, "_<>")), "<ab>", steps(replace(2, 7, "")), []int{0}},
		// What comes may not be done, or may not be.
		{"<ab>", steps(replace(2, 2, "><")), steps(replace(0, 4, "<q>")), "<q>", nil, nil},
		{"<a>", steps(marking(1, 2, api.Em)), steps(replace(0, 1, "[")), "[a]", nil, nil},
		{"<ab>", steps(marking(1, 2, api.Em)), steps(around(0, 1, 3, 4, "[", "]")), "[ab]", nil, nil},
		// The gap would reach beyond the step's end.
		{"<a><b>", steps(around(0, 0, 6, 6, "(", ")")), steps(replace(6, 6, "<c>")), "<a><b><c>", nil, nil},
		// Around what others put within.
		{"<a><b>", steps(around(0, 0, 6, 6, "(", ")")), steps(replace(3, 3, "_")), "(<a>_<b>)", steps(around(0, 0, 7, 7, "(", ")")), []int{0}},
		{"<a>", steps(around(0, 0, 3, 3, "(", ")"), replace(2, 2, "x")), steps(replace(1, 1, "y")), "(<yxa>)", steps(around(0, 0, 4, 4, "(", ")"), replace(3, 3, "x")), []int{0, 1}},
		{"<ab>", steps(around(0, 1, 3, 4, "[", "]"), replace(1, 1, "x")), steps(replace(1, 1, "y")), "[yxab]", steps(around(0, 1, 4, 5, "[", "]"), replace(2, 2, "x")), []int{0, 1}},
		// Marks move nothing.
		{"<ae>", steps(replace(1, 2, ""), replace(1, 1, "a")), steps(marking(1, 3, api.Em)), "<aE>", steps(replace(1, 2, ""), replace(1, 1, "a")), []int{0, 1}},
	} {
		r, e := Rebase(c, tokens(x.base), x.own, x.over)
		if e != api.OK || !slices.EqualFunc(r.Steps, x.want, step.Same) || !slices.Equal(r.Kept, x.kept) || !flat.Same(r.Doc, tokens(x.doc)) {
			t.Errorf("Rebase(%s, %v, %v): %v, %d; want %s, %v, %v", x.base, x.own, x.over, r, e, x.doc, x.want, x.kept)
		}
	}
}

func TestRebaseRefuses(t *testing.T) {
	c := schema.House()
	put, far, wrong, unfit, open := replace(1, 1, "x"), replace(9, 9, "x"), replace(2, 1, ""), replace(1, 1, "_"), replace(1, 1, "<")
	many := func(n int) []api.Step {
		return slices.Repeat(steps(put), n)
	}
	deep := strings.Repeat("(", 31) + "<>" + strings.Repeat(")", 31)
	long := "<" + strings.Repeat("a", api.MaxDoc-2) + ">"
	for _, x := range []struct {
		c         *schema.Schema
		base      string
		own, over []api.Step
		want      api.Errno
	}{
		{nil, "<>", nil, nil, api.ErrZero},
		{new(schema.Schema), "<>", nil, nil, api.ErrZero},
		{nil, "!", many(1001), steps(wrong), api.ErrZero},
		{new(schema.Schema), "a", many(1001), nil, api.ErrZero},
		{c, "", nil, nil, api.ErrValid},
		{c, "a", nil, nil, api.ErrValid},
		{c, "!", nil, nil, api.ErrForm},
		{c, ">", nil, nil, api.ErrForm},
		{c, "<", nil, nil, api.ErrShort},
		{c, long + "_", nil, nil, api.ErrLong},
		{c, "(" + deep + ")", nil, nil, api.ErrDeep},
		{c, "a", many(1001), many(1001), api.ErrValid},
		{c, "!", steps(far), steps(far), api.ErrForm},
		{c, "<>", many(1001), nil, api.ErrLong},
		{c, "<>", nil, many(1001), api.ErrLong},
		{c, "<>", append(steps(far), many(1000)...), nil, api.ErrLong},
		{c, "<>", steps(far), many(1001), api.ErrLong},
		{c, "<>", steps(far), nil, api.ErrArg},
		{c, "<>", nil, steps(far), api.ErrArg},
		{c, "<>", steps(wrong), nil, api.ErrArg},
		{c, "<>", nil, steps(wrong), api.ErrArg},
		{c, "<>", steps(unfit), nil, api.ErrValid},
		{c, "<>", nil, steps(unfit), api.ErrValid},
		{c, "<>", steps(open), nil, api.ErrForm},
		{c, "<>", nil, steps(open), api.ErrForm},
		{c, "<>", steps(replace(0, 2, "")), nil, api.ErrValid},
		{c, "<>", nil, steps(api.Step{Slice: make([]api.Token, api.MaxDoc+1)}), api.ErrLong},
		{c, long, steps(put), nil, api.ErrLong},
		{c, long, nil, steps(put), api.ErrLong},
		{c, deep, steps(around(0, 0, 64, 64, "(", ")")), nil, api.ErrDeep},
		{c, deep, nil, steps(around(0, 0, 64, 64, "(", ")")), api.ErrDeep},
		// Own ones are looked at ahead of the others, each in its order, and both from base on.
		{c, "<>", steps(unfit), steps(far), api.ErrValid},
		{c, "<>", steps(far), steps(unfit), api.ErrArg},
		{c, "<>", steps(put, unfit, far), nil, api.ErrValid},
		{c, "<>", steps(put, far, unfit), nil, api.ErrArg},
		{c, "<>", nil, steps(put, unfit, far), api.ErrValid},
		{c, "<>", steps(replace(1, 1, "xxxxxxxx")), steps(far), api.ErrArg},
		{c, "<>", steps(far), steps(replace(1, 1, "xxxxxxxx")), api.ErrArg},
		{c, "<>", steps(api.Step{K: 4}), nil, api.ErrArg},
		{c, "<>", nil, steps(replace(math.MinInt, math.MaxInt, "")), api.ErrArg},
	} {
		if r, e := Rebase(x.c, tokens(x.base), x.own, x.over); e != x.want || !reflect.DeepEqual(r, Rebased{}) {
			t.Errorf("Rebase(%.20s, %.80v, %.80v): %v, %d; want %d", x.base, x.own, x.over, r, e, x.want)
		}
	}
}

func TestRebaseOfMost(t *testing.T) {
	c := schema.House()
	own, over := slices.Repeat(steps(replace(1, 1, "x")), 1000), slices.Repeat(steps(replace(1, 1, "y")), 1000)
	r, e := Rebase(c, tokens("<>"), own, over)
	want := "<" + strings.Repeat("y", 1000) + strings.Repeat("x", 1000) + ">"
	if e != api.OK || !flat.Same(r.Doc, tokens(want)) || len(r.Steps) != 1000 || len(r.Kept) != 1000 {
		t.Errorf("Rebase: %d tokens, %d steps, %d", len(r.Doc), len(r.Steps), e)
	}
	own = nil
	for i := range 1000 {
		own = append(own, replace(i+1, i+1, "x"))
	}
	over = slices.Repeat(steps(replace(1, 1, "yy")), 1000)
	r, e = Rebase(c, tokens("<>"), own, over)
	// There is room for some of them alone.
	want = "<" + strings.Repeat("y", 2000) + strings.Repeat("x", 46) + ">"
	if e != api.OK || !flat.Same(r.Doc, tokens(want)) || len(r.Steps) != 46 || !slices.Equal(r.Kept[44:], []int{44, 45}) {
		t.Errorf("Rebase: %d tokens, %d steps, %d", len(r.Doc), len(r.Steps), e)
	}
}

func TestRebaseLeavesItsArguments(t *testing.T) {
	c := schema.House()
	hold := func(s string) []api.Token {
		return append(make([]api.Token, 0, 16), tokens(s)...)
	}
	base := hold("<>")
	own := append(make([]api.Step, 0, 4), api.Step{From: 1, To: 1, Slice: hold("x")}, marking(1, 2, api.Em))
	over := append(make([]api.Step, 0, 4), api.Step{From: 1, To: 1, Slice: hold("y")})
	for _, others := range [][]api.Step{over, nil} {
		for _, mine := range [][]api.Step{own, nil} {
			r, e := Rebase(c, base, mine, others)
			if e != api.OK || len(r.Steps) != len(mine) {
				t.Fatalf("Rebase: %v, %d", r, e)
			}
			_ = append(append(r.Doc, api.Token{N: 'q'}), api.Token{N: 'q'})
			for i := range r.Doc {
				r.Doc[i] = api.Token{N: 'q'}
			}
			for i := range r.Steps {
				if i == 0 && r.Steps[0].Slice[0].N != 'x' {
					t.Error("two lists of an answer share memory")
				}
				for j := range r.Steps[i].Slice {
					r.Steps[i].Slice[j] = api.Token{N: 'q'}
				}
				r.Steps[i] = api.Step{}
			}
		}
	}
	if !flat.Same(base[:4], append(tokens("<>"), api.Token{}, api.Token{})) ||
		!step.Same(own[0], replace(1, 1, "x")) || !step.Same(own[1], marking(1, 2, api.Em)) || !step.Same(over[0], replace(1, 1, "y")) {
		t.Errorf("what was handed in is changed: %v, %v, %v", base, own, over)
	}
}

func TestRebaseTakesEmptyForNone(t *testing.T) {
	c := schema.House()
	r, e := Rebase(c, tokens("<a>"), []api.Step{}, []api.Step{})
	if e != api.OK || !flat.Same(r.Doc, tokens("<a>")) || len(r.Steps)+len(r.Kept) != 0 {
		t.Errorf("Rebase: %v, %d", r, e)
	}
}

// after answers the document behind s, and whether both may be.
func after(c *schema.Schema, doc []api.Token, s api.Step) ([]api.Token, bool) {
	then, e := step.Apply(doc, s)
	if e != api.OK {
		return nil, false
	}
	_, e = c.Check(then)
	return then, e == api.OK
}

// rebasedPlainly says what Rebase answers in the chapter's words, of rows that may be done.
func rebasedPlainly(c *schema.Schema, base []api.Token, own, over []api.Step) Rebased {
	m := pos.New()
	for i := len(own) - 1; i >= 0; i-- {
		r, _ := step.Map(own[i])
		back, _ := pos.Invert(r)
		m.Add(back)
	}
	doc := base
	for _, s := range over {
		doc, _ = after(c, doc, s)
		r, _ := step.Map(s)
		m.Add(r)
	}
	var kept []api.Step
	var which []int
	for i, s := range own {
		sent, ok := plainly(s, m, len(own)-i)
		if !ok {
			continue
		}
		then, ok := after(c, doc, sent)
		if !ok {
			continue
		}
		doc, kept, which = then, append(kept, sent), append(which, i)
		r, _ := step.Map(sent)
		m.Add(r)
		m.Mirror(len(own)-1-i, m.Len()-1)
	}
	return Rebased{doc, kept, which}
}

// rowsOf answers all rows of up to most of small steps that may be done from doc on, each one of every so many.
func rowsOf(c *schema.Schema, doc []api.Token, most int, every int) [][]api.Step {
	rows := [][]api.Step{nil}
	type row struct {
		doc   []api.Token
		steps []api.Step
	}
	last := []row{{doc, nil}}
	seen := 0
	for range most {
		var next []row
		for _, r := range last {
			for _, s := range candidates(len(r.doc)) {
				then, ok := after(c, r.doc, s)
				if !ok {
					continue
				}
				seen++
				if seen%every == 0 || len(r.steps) == 0 {
					next = append(next, row{then, append(slices.Clone(r.steps), s)})
				}
			}
		}
		for _, r := range next {
			rows = append(rows, r.steps)
		}
		last = next
	}
	return rows
}

// candidates answers steps of all kinds at a document of so many tokens.
func candidates(length int) []api.Step {
	var l []api.Step
	for from := range length + 1 {
		for to := from; to <= length; to++ {
			for _, slice := range []string{"", "x", "xy", "><", "_", "<z>"} {
				if to-from < 3 {
					l = append(l, replace(from, to, slice))
				}
			}
			if from < to {
				l = append(l, marking(from, to, api.Em), unmarking(from, to, api.Strong), around(from, from, to, to, "(", ")"))
			}
			if to-from > 2 {
				l = append(l, around(from, from+1, to-1, to, "[", "]"), around(from, from+1, to-1, to, "", ""))
			}
		}
	}
	return l
}

func TestRebaseOfAllSmallRows(t *testing.T) {
	c := schema.House()
	kept, left := 0, 0
	for _, text := range []string{"<>", "<aB>", "(<a>)", "<a><E>"} {
		base := tokens(text)
		rows := rowsOf(c, base, 2, 61)
		for i, own := range rows {
			for j, over := range rows {
				if len(own)+len(over) > 2 && (i+j)%7 != 0 {
					continue
				}
				r, e := Rebase(c, base, own, over)
				want := rebasedPlainly(c, base, own, over)
				if e != api.OK || !flat.Same(r.Doc, want.Doc) || !slices.EqualFunc(r.Steps, want.Steps, step.Same) || !slices.Equal(r.Kept, want.Kept) {
					t.Fatalf("Rebase(%s, %v, %v): %v, %d; want %v", text, own, over, r, e, want)
				}
				doc := base
				for _, s := range append(slices.Clone(over), r.Steps...) {
					var ok bool
					if doc, ok = after(c, doc, s); !ok {
						t.Fatalf("Rebase(%s, %v, %v): %v can't be done", text, own, over, s)
					}
				}
				if !flat.Same(doc, r.Doc) {
					t.Fatalf("Rebase(%s, %v, %v): %v; its steps make %v", text, own, over, r, doc)
				}
				kept += len(r.Kept)
				left += len(own) - len(r.Kept)
			}
		}
	}
	if kept == 0 || left == 0 {
		t.Errorf("%d kept, %d left", kept, left)
	}
}

func TestRebaseOverNothing(t *testing.T) {
	c := schema.House()
	for _, text := range []string{"<>", "<aB>", "(<a>)", "<a><E>"} {
		base := tokens(text)
		for _, own := range rowsOf(c, base, 4, 37) {
			r, e := Rebase(c, base, own, nil)
			if e != api.OK || !slices.EqualFunc(r.Steps, own, step.Same) || len(r.Kept) != len(own) {
				t.Fatalf("Rebase(%s, %v) over nothing: %v, %d", text, own, r, e)
			}
			for i, k := range r.Kept {
				if i != k {
					t.Fatalf("Rebase(%s, %v) over nothing: %v", text, own, r.Kept)
				}
			}
			alone, e := Rebase(c, base, nil, own)
			if e != api.OK || !flat.Same(alone.Doc, r.Doc) || len(alone.Steps)+len(alone.Kept) != 0 {
				t.Fatalf("Rebase(%s) over %v: %v, %d; want %v", text, own, alone, e, r.Doc)
			}
		}
	}
}

func TestNumber(t *testing.T) {
	for e := api.ErrArg; e <= api.ErrOld; e++ {
		if n := number(refusal{3, refusal{4, e}}); n != e {
			t.Errorf("number of %d: %d", e, n)
		}
	}
	if n := number(nil); n != api.OK {
		t.Errorf("number of none: %d", n)
	}
	if n := number(refusal{3, errGone}); n != api.OK {
		t.Errorf("number of what has none: %d", n)
	}
	if text := (refusal{3, api.ErrArg}).Error(); text != "step 3: error 1" {
		t.Errorf("Error: %s", text)
	}
}
