package caret

import (
	"math"
	"slices"
	"strings"
	"testing"

	"emender/api"
	"emender/flat"
	"emender/pos"
	"emender/sample"
	"emender/schema"
)

// made answers the schema of a whole, a type of what stands in row, which is 1, and a leaf dot, which is 2.
func made(t *testing.T, whole string, row string) *schema.Schema {
	t.Helper()
	c, e := schema.New(whole, []api.Spec{{Name: "row", Expr: row, Marks: 7}, {Name: "dot", Leaf: true}}, nil)
	if e != api.OK {
		t.Fatalf("New(%q, %q): %d", whole, row, e)
	}
	return c
}

// places answers the text places in other words: those at which l with one more x is valid.
func places(c *schema.Schema, l []api.Token) []int {
	var is []int
	for at := range len(l) + 1 {
		if _, e := c.Check(slices.Insert(slices.Clone(l), at, api.Token{N: 'x'})); e == api.OK {
			is = append(is, at)
		}
	}
	return is
}

// nearest says what Near answers in the chapter's words; false, if there is none.
func nearest(is []int, at int, side int) (int, bool) {
	best, found := 0, false
	for _, p := range is {
		far, least := max(p-at, at-p), max(best-at, at-best)
		// They rise, so that of two as near the later one is to the right.
		if !found || far < least || far == least && side >= 0 {
			best, found = p, true
		}
	}
	return best, found
}

// moved says what Move answers in the chapter's words.
func moved(is []int, at int, by int) int {
	var way []int
	for _, p := range is {
		if by > 0 && p > at {
			way = append(way, p)
		}
		if by < 0 && p < at {
			way = append([]int{p}, way...)
		}
	}
	if len(way) == 0 {
		return at
	}
	for i, p := range way {
		if i+1 == by || i+1 == -by {
			return p
		}
	}
	return way[len(way)-1]
}

func sides() []int {
	return []int{-1, 0, 1, -2, 2, math.MinInt, math.MaxInt}
}

func steps(size int) []int {
	l := []int{math.MinInt, math.MinInt + 1, math.MaxInt, math.MaxInt - 1}
	for by := -size - 2; by <= size+2; by++ {
		l = append(l, by)
	}
	return l
}

func TestText(t *testing.T) {
	c := schema.House()
	for _, x := range []struct {
		s    string
		want []int
	}{
		{"<>", []int{1}},
		{"<ab>", []int{1, 2, 3}},
		{"<ab>(<c>)", []int{1, 2, 3, 6, 7}},
		{"#a>", []int{1, 2}},
		{"`a\nb'", []int{1, 2, 3, 4}},
		{"<aB>", []int{1, 2, 3}},
		{"_", nil},
		{"(_)", nil},
		{"_<>_", []int{2}},
		{"[{<>}{_<a>}]", []int{3, 8, 9}},
	} {
		l := sample.Tokens(x.s)
		for at := range len(l) + 1 {
			if is, e := Text(c, l, at); is != slices.Contains(x.want, at) || e != api.OK {
				t.Errorf("Text(%s, %d): %v, %d", x.s, at, is, e)
			}
		}
	}
}

func TestNear(t *testing.T) {
	c := schema.House()
	for _, x := range []struct {
		s              string
		at, side, want int
	}{
		{"<>", 0, 1, 1},
		{"<>", 0, -1, 1},
		{"<>", 2, 1, 1},
		{"<ab>", 2, 1, 2},
		{"<ab>", 2, -1, 2},
		// Of two as near the side tells.
		{"<a><b>", 3, -1, 2},
		{"<a><b>", 3, 1, 4},
		{"<a><b>", 3, 0, 4},
		{"<a><b>", 3, math.MinInt, 2},
		{"<a><b>", 3, math.MaxInt, 4},
		{"<a>__<b>", 4, -1, 2},
		{"<a>__<b>", 4, 1, 6},
		// Of two not as near it does not.
		{"<a>_<b>", 3, 1, 2},
		{"<a>_<b>", 4, -1, 5},
		{"<a>(<b>)", 3, 1, 2},
		{"<a>(<b>)", 4, -1, 5},
		// The nearest may be far, and on one side alone.
		{"____<a>", 0, -1, 5},
		{"<a>____", 7, 1, 2},
		{"_((<a>))", 0, -1, 4},
	} {
		if p, e := Near(c, sample.Tokens(x.s), x.at, x.side); p != x.want || e != api.OK {
			t.Errorf("Near(%s, %d, %d): %d, %d; want %d", x.s, x.at, x.side, p, e, x.want)
		}
	}
	for _, s := range []string{"_", "___", "(_)", "[{_}{__}]"} {
		for at := range len(s) + 1 {
			for _, side := range sides() {
				if p, e := Near(c, sample.Tokens(s), at, side); p != 0 || e != api.ErrNone {
					t.Errorf("Near(%s, %d, %d): %d, %d", s, at, side, p, e)
				}
			}
		}
	}
}

func TestMove(t *testing.T) {
	c := schema.House()
	for _, x := range []struct {
		s            string
		at, by, want int
	}{
		{"<ab>", 1, 1, 2},
		{"<ab>", 1, 2, 3},
		{"<ab>", 3, -1, 2},
		{"<ab>", 3, -2, 1},
		// Over what is none.
		{"<a>_<b>", 2, 1, 5},
		{"<a>_<b>", 5, -1, 2},
		{"<a>_<b>", 5, -2, 1},
		{"<a>(<b>)", 1, 3, 6},
		// From what is none.
		{"<ab>", 0, 1, 1},
		{"<ab>", 4, -1, 3},
		{"<a>_<b>", 3, 1, 5},
		{"<a>_<b>", 4, -1, 2},
		{"<a>_<b>", 3, 2, 6},
		// As far as there are.
		{"<ab>", 1, 3, 3},
		{"<ab>", 3, -3, 1},
		{"<ab>__", 2, 9, 3},
		{"__<ab>", 4, -9, 3},
		{"<ab>", 0, math.MaxInt, 3},
		{"<ab>", 4, math.MinInt, 1},
		{"<ab>", 4, math.MinInt + 1, 1},
		// None that way.
		{"<ab>", 3, 1, 3},
		{"<ab>", 1, -1, 1},
		{"<ab>", 4, 1, 4},
		{"<ab>", 0, -1, 0},
		{"<ab>_", 5, math.MaxInt, 5},
		{"_<ab>", 1, math.MinInt, 1},
		{"__", 1, 1, 1},
		{"__", 1, -1, 1},
		// By none.
		{"<ab>", 2, 0, 2},
		{"<ab>", 0, 0, 0},
		{"<ab>", 4, 0, 4},
		{"__", 1, 0, 1},
	} {
		if p, e := Move(c, sample.Tokens(x.s), x.at, x.by); p != x.want || e != api.OK {
			t.Errorf("Move(%s, %d, %d): %d, %d; want %d", x.s, x.at, x.by, p, e, x.want)
		}
	}
}

func TestRefusals(t *testing.T) {
	c := schema.House()
	long := "<" + strings.Repeat("a", api.MaxDoc-1) + ">"
	deep := strings.Repeat("(", api.MaxDeep) + "<>" + strings.Repeat(")", api.MaxDeep)
	for _, x := range []struct {
		c    *schema.Schema
		s    string
		at   int
		want api.Errno
	}{
		{nil, "<a>", 1, api.ErrZero},
		{new(schema.Schema), "<a>", 1, api.ErrZero},
		{c, "<a>", -1, api.ErrArg},
		{c, "<a>", 4, api.ErrArg},
		{c, "<a>", math.MinInt, api.ErrArg},
		{c, "<a>", math.MaxInt, api.ErrArg},
		{c, "_", 2, api.ErrArg},
		{c, "", 0, api.ErrValid},
		{c, "a", 0, api.ErrValid},
		{c, "<_>", 1, api.ErrValid},
		{c, "`B'", 1, api.ErrValid},
		{c, "<\n>", 1, api.ErrValid},
		{c, "!", 0, api.ErrForm},
		{c, ">", 0, api.ErrForm},
		{c, "<a", 1, api.ErrShort},
		{c, long, 1, api.ErrLong},
		{c, deep, 1, api.ErrDeep},
		// What comes first is told.
		{nil, "!", -1, api.ErrZero},
		{new(schema.Schema), "a", 9, api.ErrZero},
		{nil, "<a>", 9, api.ErrZero},
		{c, "!", -1, api.ErrForm},
		{c, "a", 9, api.ErrValid},
		{c, "", -1, api.ErrValid},
		{c, long, -1, api.ErrLong},
	} {
		l := sample.Tokens(x.s)
		if is, e := Text(x.c, l, x.at); is || e != x.want {
			t.Errorf("Text(%.20s, %d): %v, %d; want %d", x.s, x.at, is, e, x.want)
		}
		for _, n := range sides() {
			if p, e := Near(x.c, l, x.at, n); p != 0 || e != x.want {
				t.Errorf("Near(%.20s, %d, %d): %d, %d; want %d", x.s, x.at, n, p, e, x.want)
			}
			if p, e := Move(x.c, l, x.at, n); p != 0 || e != x.want {
				t.Errorf("Move(%.20s, %d, %d): %d, %d; want %d", x.s, x.at, n, p, e, x.want)
			}
		}
	}
}

func TestAtTheLimits(t *testing.T) {
	c := schema.House()
	full := sample.Tokens("<" + strings.Repeat("a", api.MaxDoc-2) + ">")
	for _, x := range [][3]int{{0, math.MaxInt, api.MaxDoc - 1}, {api.MaxDoc, math.MinInt, 1}, {1, 1000, 1001}, {api.MaxDoc, -1000, api.MaxDoc - 1000}, {api.MaxDoc, 0, api.MaxDoc}} {
		if p, e := Move(c, full, x[0], x[1]); p != x[2] || e != api.OK {
			t.Errorf("Move(%d, %d): %d, %d; want %d", x[0], x[1], p, e, x[2])
		}
	}
	// No one more has room, but words alone count.
	if is, e := Text(c, full, 7); !is || e != api.OK {
		t.Errorf("Text: %v, %d", is, e)
	}
	if _, e := Text(c, full, api.MaxDoc+1); e != api.ErrArg {
		t.Errorf("Text: %d", e)
	}
	rules := sample.Tokens(strings.Repeat("_", api.MaxDoc-2) + "<>")
	if p, e := Near(c, rules, 0, -1); p != api.MaxDoc-1 || e != api.OK {
		t.Errorf("Near: %d, %d", p, e)
	}
	deep := sample.Tokens(strings.Repeat("(", api.MaxDeep-1) + "<>" + strings.Repeat(")", api.MaxDeep-1))
	if p, e := Near(c, deep, 0, -1); p != api.MaxDeep || e != api.OK {
		t.Errorf("Near: %d, %d", p, e)
	}
	if p, e := Move(c, deep, len(deep), -1); p != api.MaxDeep || e != api.OK {
		t.Errorf("Move: %d, %d", p, e)
	}
}

func TestEmptyDocument(t *testing.T) {
	for _, l := range [][]api.Token{nil, {}} {
		for whole, want := range map[string]bool{"text*": true, "dot*": false, "": false, "(text text)*": false} {
			c := made(t, whole, "")
			if is, e := Text(c, l, 0); is != want || e != api.OK {
				t.Errorf("Text of %q: %v, %d", whole, is, e)
			}
			none := api.ErrNone
			if want {
				none = api.OK
			}
			for _, n := range sides() {
				if p, e := Near(c, l, 0, n); p != 0 || e != none {
					t.Errorf("Near of %q: %d, %d", whole, p, e)
				}
				if p, e := Move(c, l, 0, n); p != 0 || e != api.OK {
					t.Errorf("Move of %q: %d, %d", whole, p, e)
				}
			}
		}
	}
}

// holds fails where a call answers of l other than what the chapter's words say.
func holds(t *testing.T, c *schema.Schema, l []api.Token) {
	t.Helper()
	is := places(c, l)
	for at := range len(l) + 1 {
		if got, e := Text(c, l, at); got != slices.Contains(is, at) || e != api.OK {
			t.Fatalf("Text(%v, %d): %v, %d", l, at, got, e)
		}
		for _, side := range sides() {
			want, found := nearest(is, at, side)
			p, e := Near(c, l, at, side)
			if p != want || (e == api.OK) != found || !found && e != api.ErrNone {
				t.Fatalf("Near(%v, %d, %d): %d, %d; want %d", l, at, side, p, e, want)
			}
		}
		for _, by := range steps(len(l)) {
			want := moved(is, at, by)
			p, e := Move(c, l, at, by)
			if p != want || e != api.OK {
				t.Fatalf("Move(%v, %d, %d): %d, %d; want %d", l, at, by, p, e, want)
			}
			// P11.3.
			if p != at && !slices.Contains(is, p) {
				t.Fatalf("Move(%v, %d, %d): %d is no text place", l, at, by, p)
			}
		}
	}
}

func TestAllShortDocuments(t *testing.T) {
	alphabet := []api.Token{{N: 'a'}, {N: 'b', M: api.Em}, {K: api.TOpen, T: 1}, {K: api.TClose}, {K: api.TLeaf, T: 2}}
	// Which place is one hangs on what stands ahead of it and behind it, not on the type alone.
	for _, x := range [][2]string{
		{"row*", "text*"},
		{"text* row* dot*", "text? dot"},
		{"(text text)* (row|dot)*", "text text"},
		{"(text|dot row)*", "dot? (text dot text?)*"},
		{"(row|dot)*", "(text text text)* | (row dot)+"},
		{"dot text? dot row? text?", "text+"},
	} {
		c, valid := made(t, x[0], x[1]), 0
		for _, l := range sample.Rows(alphabet, 5) {
			if _, e := c.Check(l); e == api.OK {
				holds(t, c, l)
				valid++
			}
		}
		if valid < 2 {
			t.Errorf("%q, %q: only %d documents", x[0], x[1], valid)
		}
	}
}

func TestAllShortDocumentsOfTheHouse(t *testing.T) {
	c, valid := schema.House(), 0
	for _, l := range sample.Rows(sample.Tokens("a<(_>"), 6) {
		if _, e := c.Check(l); e == api.OK {
			holds(t, c, l)
			valid++
		}
	}
	for _, s := range []string{"<ab>(<c>)", "[{<a>}{_<>}]__<B>", "___#a>(_`\n')___", "(((_)))<>_((_))"} {
		holds(t, c, sample.Tokens(s))
	}
	if valid < 20 {
		t.Errorf("only %d documents", valid)
	}
}

func TestArgumentsStay(t *testing.T) {
	c := schema.House()
	l := append(make([]api.Token, 0, 32), sample.Tokens("<ab>(<c>)_")...)
	for at := range len(l) + 1 {
		Text(c, l, at)
		Near(c, l, at, 1)
		Move(c, l, at, 3)
		Move(c, l, at, -3)
	}
	if !flat.Same(l[:12], append(sample.Tokens("<ab>(<c>)_"), api.Token{}, api.Token{})) {
		t.Errorf("what was handed in is changed: %v", l[:12])
	}
	m := append(make([]api.Range, 0, 4), api.Range{At: 1, Old: 2, New: 3})
	Send(m, 1, 5)
	if m[0] != (api.Range{At: 1, Old: 2, New: 3}) || m[:2][1] != (api.Range{}) {
		t.Errorf("what was handed in is changed: %v", m[:2])
	}
}

// ranges answers the map of numbers, three a range.
func ranges(n ...int) []api.Range {
	var m []api.Range
	for ; len(n) > 0; n = n[3:] {
		m = append(m, api.Range{At: n[0], Old: n[1], New: n[2]})
	}
	return m
}

func TestSend(t *testing.T) {
	put, cut, swap := ranges(2, 0, 3), ranges(2, 4, 0), ranges(2, 4, 3)
	for _, x := range []struct {
		m                         []api.Range
		anchor, head, first, last int
	}{
		{nil, 1, 2, 1, 2},
		{[]api.Range{}, 2, 1, 2, 1},
		// What comes at an end is in it, whichever end the head is.
		{put, 2, 2, 2, 5},
		{put, 2, 4, 2, 7},
		{put, 0, 2, 0, 5},
		{put, 4, 2, 7, 2},
		{put, 2, 0, 5, 0},
		{put, 3, 4, 6, 7},
		{put, 4, 3, 7, 6},
		{put, 0, 1, 0, 1},
		{put, 1, 3, 1, 6},
		{ranges(2, 0, 3, 4, 0, 1), 2, 4, 2, 8},
		{ranges(2, 0, 3, 4, 0, 1), 4, 2, 8, 2},
		// What stood within comes out at the ends.
		{cut, 3, 5, 2, 2},
		{cut, 5, 3, 2, 2},
		{cut, 1, 4, 1, 2},
		{cut, 4, 8, 2, 4},
		{swap, 3, 5, 2, 5},
		{swap, 5, 3, 5, 2},
		{swap, 4, 4, 2, 5},
		{swap, 2, 6, 2, 5},
		{swap, 6, 2, 5, 2},
		// The ends of a range know their sides.
		{swap, 6, 6, 5, 5},
		{swap, 2, 2, 2, 2},
		{swap, 6, 8, 5, 7},
		{nil, 0, api.MaxText, 0, api.MaxText},
		{nil, api.MaxText, 0, api.MaxText, 0},
		{ranges(0, 0, 1), api.MaxText, api.MaxText, api.MaxText + 1, api.MaxText + 1},
	} {
		if a, b, e := Send(x.m, x.anchor, x.head); a != x.first || b != x.last || e != api.OK {
			t.Errorf("Send(%v, %d, %d): %d, %d, %d; want %d, %d", x.m, x.anchor, x.head, a, b, e, x.first, x.last)
		}
	}
}

func TestSendRefuses(t *testing.T) {
	wrong := ranges(5, 3, 1, 7, 0, 0)
	for _, x := range []struct {
		m            []api.Range
		anchor, head int
		want         api.Errno
	}{
		{wrong, 1, 2, api.ErrForm},
		{wrong, -1, -1, api.ErrForm},
		{wrong, 2, math.MaxInt, api.ErrForm},
		{ranges(-1, 0, 0), 2, 1, api.ErrForm},
		{ranges(0, 0, 0, 1, 0, 0, 2, 0, 0, 3, 0, 0, 4, 0, 0), 2, 1, api.ErrForm},
		{ranges(0, api.MaxText+1, 0), 2, 1, api.ErrForm},
		{nil, -1, 1, api.ErrArg},
		{nil, 1, -1, api.ErrArg},
		{nil, -1, -1, api.ErrArg},
		{nil, api.MaxText + 1, 1, api.ErrArg},
		{nil, 1, api.MaxText + 1, api.ErrArg},
		{nil, math.MinInt, math.MaxInt, api.ErrArg},
		{nil, math.MaxInt, math.MinInt, api.ErrArg},
		{ranges(2, 0, 3), 1, math.MinInt, api.ErrArg},
	} {
		if a, b, e := Send(x.m, x.anchor, x.head); a != 0 || b != 0 || e != x.want {
			t.Errorf("Send(%v, %d, %d): %d, %d, %d; want %d", x.m, x.anchor, x.head, a, b, e, x.want)
		}
	}
}

func TestSendOfAllSmallMaps(t *testing.T) {
	var maps [][]api.Range
	for at := range 5 {
		for old := range 4 {
			for come := range 3 {
				maps = append(maps, ranges(at, old, come), ranges(at, old, come, at+old, 1, 2), ranges(at, old, come, at+old+1, 0, 1))
			}
		}
	}
	for _, m := range maps {
		for anchor := range 9 {
			for head := range 9 {
				one, other := -1, 1
				if anchor > head {
					one, other = 1, -1
				}
				first, _ := pos.Map(m, anchor, one)
				last, _ := pos.Map(m, head, other)
				a, b, e := Send(m, anchor, head)
				if a != first.At || b != last.At || e != api.OK {
					t.Fatalf("Send(%v, %d, %d): %d, %d, %d; want %d, %d", m, anchor, head, a, b, e, first.At, last.At)
				}
				if anchor <= head && a > b || anchor > head && a < b {
					t.Fatalf("Send(%v, %d, %d): %d, %d: turned round", m, anchor, head, a, b)
				}
			}
		}
	}
}
