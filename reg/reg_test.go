package reg

import (
	"math"
	"reflect"
	"slices"
	"strings"
	"testing"

	"emender/api"
	"emender/expr"
)

func name(s string) api.Expr { return api.Expr{K: api.EName, Name: s} }

func node(kind int, l ...api.Expr) api.Expr { return api.Expr{K: kind, L: l} }

func group(s string, types ...int) api.Group { return api.Group{Name: s, Types: types} }

// groups are used by most of the tests; the types of any are not in order, and one is there twice.
func groups() []api.Group {
	return []api.Group{group("a", 1), group("b", 2), group("c", 3), group("any", 2, 1, 2), group("ends", 15, 0)}
}

func tree(t *testing.T, s string) api.Expr {
	t.Helper()
	e, _, number := expr.Parse(s)
	if number != api.OK {
		t.Fatalf("%q is no expression: %d", s, number)
	}
	return e
}

// treesOf answers all right trees of just n expressions with the names a, b and any.
func treesOf(n int) []api.Expr {
	if n == 1 {
		return []api.Expr{name("a"), name("b"), name("any")}
	}
	var all []api.Expr
	for _, inner := range treesOf(n - 1) {
		all = append(all, node(api.EStar, inner), node(api.EPlus, inner), node(api.EOpt, inner))
	}
	for _, row := range rowsOf(n - 1) {
		for _, kind := range []int{api.ESeq, api.EAlt} {
			if e := node(kind, row...); expr.Check(e) == api.OK {
				all = append(all, e)
			}
		}
	}
	return all
}

// rowsOf answers all rows of trees that have n expressions in all.
func rowsOf(n int) [][]api.Expr {
	all := [][]api.Expr{}
	if n == 0 {
		return append(all, nil)
	}
	for first := 1; first <= n; first++ {
		for _, e := range treesOf(first) {
			for _, rest := range rowsOf(n - first) {
				all = append(all, append([]api.Expr{e}, rest...))
			}
		}
	}
	return all
}

type words map[string]bool

// behind answers all of a with one of b behind, of at most long types.
func behind(a, b words, long int) words {
	all := words{}
	for x := range a {
		for y := range b {
			if len(x)+len(y) <= long {
				all[x+y] = true
			}
		}
	}
	return all
}

// language says in other words what the chapter says a language is: all its words of at most long types, a type as a byte.
func language(e api.Expr, g []api.Group, long int) words {
	all := words{}
	switch e.K {
	case api.EName:
		i := slices.IndexFunc(g, func(x api.Group) bool { return x.Name == e.Name })
		for _, t := range g[i].Types {
			all[string([]byte{byte(t)})] = true
		}
	case api.EAlt:
		for _, inner := range e.L {
			for w := range language(inner, g, long) {
				all[w] = true
			}
		}
	case api.EOpt:
		all = language(e.L[0], g, long)
		all[""] = true
	case api.EStar, api.EPlus:
		one := language(e.L[0], g, long)
		if e.K == api.EStar {
			all[""] = true
		}
		for more, size := one, -1; size < len(all); more = behind(more, one, long) {
			size = len(all)
			for w := range more {
				all[w] = true
			}
		}
	default:
		all[""] = true
		for _, inner := range e.L {
			all = behind(all, language(inner, g, long), long)
		}
	}
	return all
}

func typesIn(w string) []int {
	var l []int
	for _, t := range []byte(w) {
		l = append(l, int(t))
	}
	return l
}

// wordsTo answers all words of at most long types of 0 to 2.
func wordsTo(long int) []string {
	all := []string{""}
	for from := 0; long > 0; long-- {
		to := len(all)
		for _, w := range all[from:to] {
			all = append(all, w+"\x00", w+"\x01", w+"\x02")
		}
		from = to
	}
	return all
}

// beginnings answers each beginning of a word of lang.
func beginnings(lang words) words {
	all := words{}
	for w := range lang {
		for n := range len(w) + 1 {
			all[w[:n]] = true
		}
	}
	return all
}

// fewest answers the shortest, of those the least, that makes a word of lang of w.
func fewest(lang words, w string) (string, bool) {
	best, found := "", false
	for x := range lang {
		rest, is := strings.CutPrefix(x, w)
		if is && (!found || len(rest) < len(best) || len(rest) == len(best) && rest < best) {
			best, found = rest, true
		}
	}
	return best, found
}

// against holds all calls on e and each word of at most 3 types against the language in plain words; at most more types make one of the language of what begins it.
func against(t *testing.T, e api.Expr, more int) {
	t.Helper()
	g := groups()
	lang := language(e, g, 3+more)
	known := beginnings(lang)
	text, _ := expr.Print(e)
	for _, w := range wordsTo(3) {
		word := typesIn(w)
		if got := Accepts(e, g, word); got != lang[w] {
			t.Fatalf("Accepts(%s, %v): %v", text, word, got)
		}
		long := len(w)
		for !known[w[:long]] {
			long--
		}
		if got := Begins(e, g, word); got != long {
			t.Fatalf("Begins(%s, %v): %d, not %d", text, word, got, long)
		}
		var nexts []int
		for c := range api.MaxTypes {
			if known[w+string([]byte{byte(c)})] {
				nexts = append(nexts, c)
			}
		}
		if got := Nexts(e, g, word); !slices.Equal(got, nexts) {
			t.Fatalf("Nexts(%s, %v): %v, not %v", text, word, got, nexts)
		}
		rest, is := fewest(lang, w)
		if got, ok := Fill(e, g, word); ok != is || !slices.Equal(got, typesIn(rest)) {
			t.Fatalf("Fill(%s, %v): %v, %v, not %v, %v", text, word, got, ok, typesIn(rest), is)
		}
	}
}

func TestP6_1Check(t *testing.T) {
	loop := node(api.EStar, api.Expr{})
	loop.L[0] = loop
	sixteen := make([]int, api.MaxTypes)
	many := make([]api.Group, api.MaxTypes)
	many[api.MaxTypes-1] = group("a", sixteen...)
	a := name("a")
	for _, x := range []struct {
		name string
		e    api.Expr
		g    []api.Group
		want api.Errno
	}{
		{"nothing", api.Expr{}, nil, api.OK},
		{"a name", a, groups(), api.OK},
		{"both ends of the types", name("ends"), groups(), api.OK},
		{"just as many groups and types as may be", a, many, api.OK},
		{"no name, an empty group", api.Expr{}, []api.Group{group("a")}, api.OK},
		{"a wrong tree", node(api.EStar), groups(), api.ErrForm},
		{"far-off kinds", node(math.MinInt), groups(), api.ErrForm},
		{"a tree that holds itself", loop, groups(), api.ErrLong},
		{"too long ahead of wrong groups and names", node(api.ESeq, make([]api.Expr, api.MaxExpr)...), []api.Group{group("x", 16)}, api.ErrLong},
		{"wrong tree ahead of wrong groups", node(api.EAlt, a), []api.Group{group("x", 16)}, api.ErrForm},
		{"a type past the last", a, []api.Group{group("a", api.MaxTypes)}, api.ErrArg},
		{"a type below 0", a, []api.Group{group("a", -1)}, api.ErrArg},
		{"the greatest type", a, []api.Group{group("a", 1, math.MaxInt)}, api.ErrArg},
		{"the least type", a, []api.Group{group("a", 1, math.MinInt)}, api.ErrArg},
		{"a type that is none in a group without use", a, []api.Group{group("a", 1), group("b", 16)}, api.ErrArg},
		{"a type that is none in the second of a name", a, []api.Group{group("a", 1), group("a", 16)}, api.ErrArg},
		{"a type that is none, of nothing", api.Expr{}, []api.Group{group("a", 16)}, api.ErrArg},
		{"too many groups", a, append(many, group("b", 1)), api.ErrArg},
		{"too many types", a, []api.Group{group("a", append(sixteen, 0)...)}, api.ErrArg},
		{"wrong groups ahead of no group", name("x"), []api.Group{group("a", 16)}, api.ErrArg},
		{"no group at all", a, nil, api.ErrNone},
		{"no group of that name", name("d"), groups(), api.ErrNone},
		{"no group of a name within", tree(t, "a (b|c d)*"), groups(), api.ErrNone},
		{"no group of the last name", tree(t, "a b x"), groups(), api.ErrNone},
		{"a group without types", a, []api.Group{group("a")}, api.ErrNone},
		{"the first group of the name without types", a, []api.Group{group("a"), group("a", 1)}, api.ErrNone},
		{"the second group of the name without types", a, []api.Group{group("a", 1), group("a")}, api.OK},
	} {
		if got := Check(x.e, x.g); got != x.want {
			t.Errorf("%s: %d, not %d", x.name, got, x.want)
		}
	}
}

func TestP6_2RefusedAnswersNothing(t *testing.T) {
	loop := node(api.EStar, api.Expr{})
	loop.L[0] = loop
	for _, x := range []struct {
		e api.Expr
		g []api.Group
	}{
		{loop, groups()}, {node(api.EStar), groups()}, {name("d"), groups()}, {name("a"), nil},
		{name("a"), []api.Group{group("a", 1), group("b", 16)}}, {tree(t, "a|d"), groups()}, {tree(t, "a* d*"), groups()},
		{api.Expr{}, []api.Group{group("a", -1)}},
	} {
		for _, word := range [][]int{nil, {}, {1}, {1, 1, 1}} {
			l, ok := Fill(x.e, x.g, word)
			if Accepts(x.e, x.g, word) || Begins(x.e, x.g, word) != 0 || Nexts(x.e, x.g, word) != nil || l != nil || ok {
				t.Errorf("%v with %v tells of %v", x.e.K, x.g, word)
			}
		}
	}
}

func TestP6_2Words(t *testing.T) {
	for _, x := range []struct {
		text   string
		word   []int
		is     bool
		begins int
		nexts  []int
		fill   []int
		fills  bool
	}{
		{"", nil, true, 0, nil, nil, true},
		{"", []int{1}, false, 0, nil, nil, false},
		{"a b?", []int{1}, true, 1, []int{2}, nil, true},
		{"a b", []int{1}, false, 1, []int{2}, []int{2}, true},
		{"a b", []int{1, 2, 1}, false, 2, nil, nil, false},
		{"a b", []int{2, 1}, false, 0, nil, nil, false},
		{"a+", nil, false, 0, []int{1}, []int{1}, true},
		{"(a b)+", []int{1, 2}, true, 2, []int{1}, nil, true},
		{"(a b)+ c", []int{1, 2}, false, 2, []int{1, 3}, []int{3}, true},
		{"any b", nil, false, 0, []int{1, 2}, []int{1, 2}, true},
		{"ends", nil, false, 0, []int{0, 15}, []int{0}, true},
		{"ends", []int{15}, true, 1, nil, nil, true},
		{"a a|c", nil, false, 0, []int{1, 3}, []int{3}, true},
		{"b a|a c|a b", nil, false, 0, []int{1, 2}, []int{1, 2}, true},
		{"a* b", []int{1, 1, 1}, false, 3, []int{1, 2}, []int{2}, true},
		{"a*", []int{1, -1, 1}, false, 1, nil, nil, false},
		{"a*", []int{1, 16}, false, 1, nil, nil, false},
		{"a*", []int{17}, false, 0, nil, nil, false},
		{"ends*", []int{math.MaxInt}, false, 0, nil, nil, false},
		{"ends*", []int{math.MinInt}, false, 0, nil, nil, false},
		{"ends*", []int{64}, false, 0, nil, nil, false},
	} {
		e, g := tree(t, x.text), groups()
		fill, fills := Fill(e, g, x.word)
		nexts := Nexts(e, g, x.word)
		is, begins := Accepts(e, g, x.word), Begins(e, g, x.word)
		if is != x.is || begins != x.begins || !slices.Equal(nexts, x.nexts) || !slices.Equal(fill, x.fill) || fills != x.fills {
			t.Errorf("%s, %v: %v, %d, %v, %v, %v", x.text, x.word, is, begins, nexts, fill, fills)
		}
	}
}

func TestP6_2Example(t *testing.T) {
	g := []api.Group{group("para", api.Para), group("list", api.List)}
	if l, ok := Fill(tree(t, "para list*"), g, nil); !slices.Equal(l, []int{api.Para}) || !ok {
		t.Errorf("Fill: %v, %v", l, ok)
	}
}

func TestP6_2FirstGroupOfAName(t *testing.T) {
	g := []api.Group{group("a", 4), group("", 9), group("a", 1, 2)}
	if l := Nexts(name("a"), g, nil); !slices.Equal(l, []int{4}) {
		t.Errorf("Nexts: %v", l)
	}
}

func TestP6_2AgainstPlainWords(t *testing.T) {
	against(t, api.Expr{}, 1)
	for n := 1; n <= 5; n++ {
		for _, e := range treesOf(n) {
			against(t, e, 4)
		}
	}
}

func TestP6_2DeepLoops(t *testing.T) {
	for _, s := range []string{
		"((a* b*)* c?)*", "((a?)+ (b?)+)+", "(((a|b)+ c)* a)+", "((a b)* (b a)*)+ b", "((a? b?)* a)* b b",
		"(a|b)* a (a|b) (a|b)", "(a+ b)+ a?", "((a* | b) c?)+ b",
	} {
		against(t, tree(t, s), 5)
	}
}

func TestP6_2AtTheLimits(t *testing.T) {
	g := groups()
	row := slices.Repeat([]api.Expr{name("a")}, api.MaxExpr-1)
	l, ok := Fill(node(api.ESeq, row...), g, []int{1})
	if len(l) != api.MaxExpr-2 || !ok || slices.Max(l) != 1 || slices.Min(l) != 1 {
		t.Errorf("Fill of a long row: %v, %v", l, ok)
	}
	one := name("a")
	for range 59 {
		one = node(api.EPlus, one)
	}
	if !Accepts(one, g, []int{1, 1}) || Accepts(one, g, nil) || Begins(one, g, []int{1, 2}) != 1 {
		t.Error("60 within one another")
	}
	// Trying one way after the other would not end in time.
	may := slices.Repeat([]api.Expr{node(api.EOpt, name("a"))}, 66)
	must := slices.Repeat([]api.Expr{name("a")}, 66)
	word := slices.Repeat([]int{1}, 133)
	e := node(api.ESeq, append(may, must...)...)
	if !Accepts(e, g, word[:66]) || !Accepts(e, g, word[:132]) || Accepts(e, g, word[:65]) || Begins(e, g, word) != 132 {
		t.Error("many ways")
	}
}

func TestP6_2LongWords(t *testing.T) {
	g := groups()
	word := slices.Repeat([]int{1, 2}, 1<<14)
	e := tree(t, "((a? b?)* (any b)* (a* b)+)*")
	if !Accepts(e, g, word) || Begins(e, g, append(word, 3, 1)) != len(word) {
		t.Error("a long word")
	}
}

func TestP6_3WhatFollows(t *testing.T) {
	g := groups()
	for _, e := range treesOf(4) {
		for _, w := range wordsTo(3) {
			word := typesIn(w)
			if l, ok := Fill(e, g, word); ok != (Begins(e, g, word) == len(word)) || ok && !Accepts(e, g, append(word, l...)) {
				t.Fatalf("%v filled with %v is not accepted", word, l)
			}
			for _, next := range Nexts(e, g, word) {
				if Begins(e, g, append(word, next)) != len(word)+1 {
					t.Fatalf("%v and then %d begins no word", word, next)
				}
			}
		}
	}
}

func TestP4NothingChanged(t *testing.T) {
	g, word, e := groups(), []int{1, 2}, tree(t, "(a|b)* any c")
	wide := append(make([]int, 0, 8), word...)
	for range 2 {
		Check(e, g)
		Accepts(e, g, wide)
		Begins(e, g, wide)
		nexts := Nexts(e, g, wide)
		fill, _ := Fill(e, g, wide)
		if !slices.Equal(nexts, []int{1, 2, 3}) || !slices.Equal(fill, []int{3}) {
			t.Fatalf("%v, %v", nexts, fill)
		}
		nexts[0], fill[0] = 9, 9
	}
	if !slices.Equal(wide[:8], []int{1, 2, 0, 0, 0, 0, 0, 0}) || !reflect.DeepEqual(g, groups()) || !expr.Same(e, tree(t, "(a|b)* any c")) {
		t.Error("what was handed in has changed")
	}
}
