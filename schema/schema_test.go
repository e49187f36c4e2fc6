package schema

import (
	"math"
	"reflect"
	"slices"
	"strings"
	"testing"

	"emender/api"
	"emender/expr"
	"emender/flat"
	"emender/reg"
	"emender/sample"
)

func open(t int) api.Token { return api.Token{K: api.TOpen, T: t} }

func leaf(t int) api.Token { return api.Token{K: api.TLeaf, T: t} }

func char(n int) api.Token { return api.Token{N: n} }

func end() api.Token { return api.Token{K: api.TClose} }

// given is what a schema is made of.
type given struct {
	whole string
	l     []api.Spec
	g     []api.Group
}

func (x given) schema(t *testing.T) *Schema {
	t.Helper()
	s, e := New(x.whole, x.l, x.g)
	if s == nil || e != api.OK {
		t.Fatalf("New(%q, %v, %v): %d", x.whole, x.l, x.g, e)
	}
	return s
}

// house is the house's schema in the chapter's words.
func house() given {
	return given{"block+", []api.Spec{
		{Name: "para", Expr: "text*", Marks: 7},
		{Name: "head", Expr: "text*", Marks: 7, Least: 1, Most: 6},
		{Name: "quote", Expr: "block+"},
		{Name: "code", Expr: "text*", Marks: 0, Lines: true},
		{Name: "list", Expr: "item+", Least: 0, Most: 1},
		{Name: "item", Expr: "block+"},
		{Name: "rule", Leaf: true},
	}, []api.Group{{Name: "block", Types: []int{1, 2, 3, 4, 5, 7}}}}
}

// other is a schema in which the order counts, text stands in the whole, and a group has a type that is none.
func other() given {
	return given{"text? (row|dot dot)* row", []api.Spec{
		{Name: "row", Expr: "dot any* | ghost", Marks: api.Em, Least: 1, Most: 2},
		{Name: "dot", Leaf: true, Most: 1, Marks: 7, Lines: true},
		{Name: "bag", Expr: "(text text)* dot?", Marks: api.Code, Lines: true},
	}, []api.Group{{Name: "any", Types: []int{0, 3}}, {Name: "ghost", Types: []int{9}}, {Name: "idle"}}}
}

// plain says in the chapter's words, token by token, what Check answers.
func (x given) plain(l []api.Token) (int, api.Errno) {
	if at, e := flat.Check(l); e != api.OK {
		return at, e
	}
	names := append([]api.Group{{Name: "text", Types: []int{0}}}, x.g...)
	for i, spec := range x.l {
		names = append(names, api.Group{Name: spec.Name, Types: []int{i + 1}})
	}
	type level struct {
		spec api.Spec
		word []int
	}
	deep := []level{{spec: api.Spec{Expr: x.whole}}}
	for at, t := range l {
		in := &deep[len(deep)-1]
		tree, _, _ := expr.Parse(in.spec.Expr)
		if t.K == api.TClose {
			if !reg.Accepts(tree, names, in.word) {
				return at, api.ErrValid
			}
			deep = deep[:len(deep)-1]
			continue
		}
		if t.K == api.TRune && (t.M&^in.spec.Marks != 0 || t.N == 10 && !in.spec.Lines) {
			return at, api.ErrValid
		}
		if in.word = append(in.word, t.T); reg.Begins(tree, names, in.word) < len(in.word) {
			return at, api.ErrValid
		}
		if t.K == api.TRune {
			continue
		}
		if t.T > len(x.l) {
			return at, api.ErrValid
		}
		spec := x.l[t.T-1]
		if t.N < spec.Least || t.N > spec.Most || spec.Leaf != (t.K == api.TLeaf) {
			return at, api.ErrValid
		}
		if t.K == api.TOpen {
			deep = append(deep, level{spec: spec})
		}
	}
	tree, _, _ := expr.Parse(x.whole)
	if !reg.Accepts(tree, names, deep[0].word) {
		return len(l), api.ErrValid
	}
	return len(l), api.OK
}

func checks(t *testing.T, s *Schema, l []api.Token, at int, want api.Errno) {
	t.Helper()
	if got, e := s.Check(l); got != at || e != want {
		t.Errorf("Check(%v): %d, %d, not %d, %d", l, got, e, at, want)
	}
}

// named answers types of the names, without anything in them.
func named(names ...string) []api.Spec {
	var l []api.Spec
	for _, s := range names {
		l = append(l, api.Spec{Name: s})
	}
	return l
}

func grouped(names ...string) []api.Group {
	var g []api.Group
	for _, s := range names {
		g = append(g, api.Group{Name: s, Types: []int{0}})
	}
	return g
}

// letters answers n names.
func letters(first byte, n int) []string {
	var l []string
	for i := range n {
		l = append(l, string([]byte{first, 'a' + byte(i)}))
	}
	return l
}

func TestP7_1NewRefusesTypes(t *testing.T) {
	for _, x := range []struct {
		name string
		spec api.Spec
		want api.Errno
	}{
		{"all as small as may be", api.Spec{Name: "a"}, api.OK},
		{"all as great as may be", api.Spec{Name: "az", Expr: "text*", Marks: 7, Least: 15, Most: 15, Lines: true}, api.OK},
		{"a leaf", api.Spec{Name: "a", Leaf: true, Marks: 7, Most: 15, Lines: true}, api.OK},
		{"blanks", api.Spec{Name: "a", Expr: "  "}, api.OK},
		{"no name", api.Spec{}, api.ErrArg},
		{"a great letter", api.Spec{Name: "aB"}, api.ErrArg},
		{"a digit", api.Spec{Name: "a1"}, api.ErrArg},
		{"a blank", api.Spec{Name: "a b"}, api.ErrArg},
		{"what stands ahead of a", api.Spec{Name: "`"}, api.ErrArg},
		{"what stands behind z", api.Spec{Name: "{"}, api.ErrArg},
		{"another letter", api.Spec{Name: "\u00e4"}, api.ErrArg},
		{"no UTF-8", api.Spec{Name: "a\xff"}, api.ErrArg},
		{"text", api.Spec{Name: "text"}, api.ErrArg},
		{"marks below 0", api.Spec{Name: "a", Marks: -1}, api.ErrArg},
		{"marks above 7", api.Spec{Name: "a", Marks: 8}, api.ErrArg},
		{"the least marks", api.Spec{Name: "a", Marks: math.MinInt}, api.ErrArg},
		{"the greatest marks", api.Spec{Name: "a", Marks: math.MaxInt}, api.ErrArg},
		{"Least below 0", api.Spec{Name: "a", Least: -1}, api.ErrArg},
		{"the least Least", api.Spec{Name: "a", Least: math.MinInt, Most: 3}, api.ErrArg},
		{"Least above Most", api.Spec{Name: "a", Least: 3, Most: 2}, api.ErrArg},
		{"Most below 0", api.Spec{Name: "a", Most: -1}, api.ErrArg},
		{"Most above 15", api.Spec{Name: "a", Most: 16}, api.ErrArg},
		{"the greatest Most", api.Spec{Name: "a", Most: math.MaxInt}, api.ErrArg},
		{"a leaf with an expression", api.Spec{Name: "a", Leaf: true, Expr: "text"}, api.ErrArg},
		{"a leaf with blanks", api.Spec{Name: "a", Leaf: true, Expr: " "}, api.ErrArg},
		{"a wrong mark ahead of a wrong expression", api.Spec{Name: "a", Expr: "(", Marks: 8}, api.ErrArg},
	} {
		for _, l := range [][]api.Spec{{x.spec}, {{Name: "x"}, x.spec}, {x.spec, {Name: "x"}}} {
			if s, e := New("", l, nil); e != x.want || (s == nil) != (e != api.OK) {
				t.Errorf("%s: %v, %d", x.name, s, e)
			}
		}
	}
}

func TestP7_1NewRefusesNamesAndCounts(t *testing.T) {
	for _, x := range []struct {
		name string
		given
		want api.Errno
	}{
		{"nothing at all", given{}, api.OK},
		{"as many types as may be", given{"oo", named(letters('o', 15)...), nil}, api.OK},
		{"a type more", given{"|", named(letters('o', 16)...), nil}, api.ErrArg},
		{"groups", given{"g b", named("a", "b"), grouped("g", "h")}, api.OK},
		{"a name of two types", given{"|", named("a", "b", "a"), nil}, api.ErrArg},
		{"a name of two groups", given{"|", named("a"), grouped("g", "g")}, api.ErrArg},
		{"a name of a type and a group", given{"|", named("a", "b"), grouped("g", "b")}, api.ErrArg},
		{"a group text", given{"|", named("a"), grouped("text")}, api.ErrArg},
		{"a group without a name", given{"|", nil, grouped("")}, api.ErrArg},
		{"a group with a digit", given{"|", nil, grouped("a", "g2")}, api.ErrArg},
		{"as many names as reg takes", given{"ga", named("a"), grouped(letters('g', 14)...)}, api.OK},
		{"a name more than reg takes", given{"ga", named("a"), grouped(letters('g', 15)...)}, api.ErrArg},
		{"the text ahead of too many names", given{"|", named("a"), grouped(letters('g', 15)...)}, api.ErrForm},
		{"as many groups as may be, the text ahead", given{"|", nil, grouped(letters('g', 16)...)}, api.ErrForm},
		{"a group more ahead of the text", given{"|", nil, grouped(letters('g', 17)...)}, api.ErrArg},
	} {
		if s, e := New(x.whole, x.l, x.g); e != x.want || (s == nil) != (e != api.OK) {
			t.Errorf("%s: %v, %d", x.name, s, e)
		}
	}
}

func TestP7_1NewRefusesExpressionsInOrder(t *testing.T) {
	long := strings.Repeat("a", api.MaxExpr+1)
	pair := func(first, second string) []api.Spec {
		return []api.Spec{{Name: "a", Expr: first}, {Name: "b", Expr: second}}
	}
	none := []api.Group{{Name: "empty"}}
	for _, x := range []struct {
		name string
		given
		want api.Errno
	}{
		{"all names", given{"a b|text", pair("b? text", "a*"), nil}, api.OK},
		{"a long whole", given{long, pair("", ""), nil}, api.ErrLong},
		{"a long whole of blanks", given{strings.Repeat(" ", api.MaxExpr), pair("", ""), nil}, api.OK},
		{"a wrong whole", given{"a|", pair("", ""), nil}, api.ErrForm},
		{"too many parts", given{strings.Repeat("a*", api.MaxExpr/2), pair("", ""), nil}, api.ErrForm},
		{"a whole of other names", given{"a c", pair("", ""), nil}, api.ErrNone},
		{"a type of other names", given{"a", pair("a", "c"), nil}, api.ErrNone},
		{"a wrong type", given{"a", pair("a", "b)"), nil}, api.ErrForm},
		{"a long type", given{"a", pair(long, ""), nil}, api.ErrLong},
		{"the whole ahead of the types", given{"c", pair("(", long), nil}, api.ErrNone},
		{"the first ahead of the second", given{"a", pair("c", long), nil}, api.ErrNone},
		{"the first ahead of the second, the other way", given{"a", pair(long, "c"), nil}, api.ErrLong},
		{"a group without types, without use", given{"a", pair("", ""), none}, api.OK},
		{"a group without types in the whole", given{"empty", pair("", ""), none}, api.ErrNone},
		{"a group without types in a type", given{"a", pair("", "a empty?"), none}, api.ErrNone},
		{"a group of what is no type at all", given{"c", pair("", ""), []api.Group{{Name: "g", Types: []int{16}}}}, api.ErrArg},
		{"a group of a type below 0", given{"c", pair("", ""), []api.Group{{Name: "g", Types: []int{1, -1}}}}, api.ErrArg},
		{"a group of too many", given{"c", pair("", ""), []api.Group{{Name: "g", Types: make([]int, 17)}}}, api.ErrArg},
		{"a group of just so many", given{"a", pair("", ""), []api.Group{{Name: "g", Types: make([]int, 16)}}}, api.OK},
		{"the text ahead of a wrong group", given{"a|", pair("", ""), []api.Group{{Name: "g", Types: []int{16}}}}, api.ErrForm},
		{"a group of types that the schema has not", given{"g", pair("", ""), []api.Group{{Name: "g", Types: []int{15}}}}, api.OK},
	} {
		if s, e := New(x.whole, x.l, x.g); e != x.want || (s == nil) != (e != api.OK) {
			t.Errorf("%s: %v, %d", x.name, s, e)
		}
	}
}

func TestP7_1House(t *testing.T) {
	s := House()
	for i, want := range house().l {
		if got, ok := s.Spec(i + 1); got != want || !ok {
			t.Errorf("the type %d: %v, %v", i+1, got, ok)
		}
	}
	l := sample.Tokens("<>([{<>}])`\n>#><>")
	checks(t, s, l, len(l), api.OK)
	for at, want := range map[int][]int{0: {1, 2, 3, 4, 5, 7}, 1: {0}, 3: {1, 2, 3, 4, 5, 7}, 4: {6}, 5: {1, 2, 3, 4, 5, 7}, 11: {0}, 14: {0}} {
		for kind := range api.MaxTypes {
			if got := s.May(l, at, kind); got != slices.Contains(want, kind) {
				t.Errorf("May at %d of %d: %v", at, kind, got)
			}
		}
	}
}

func TestP7_2CheckOfTheHouse(t *testing.T) {
	s := House()
	for text, want := range map[string]struct {
		at int
		e  api.Errno
	}{
		"<x>": {3, api.OK}, "": {0, api.ErrValid}, "x": {0, api.ErrValid}, "_": {1, api.OK}, "<><>_": {5, api.OK},
		"()": {1, api.ErrValid}, "(<>)": {4, api.OK}, "<><": {3, api.ErrShort}, ">": {0, api.ErrForm}, "<_>": {1, api.ErrValid},
		"<(>)": {1, api.ErrValid}, "[<>]": {1, api.ErrValid}, "[]": {1, api.ErrValid}, "[{}]": {2, api.ErrValid}, "[{<>}{_}]": {9, api.OK},
		"{<>}": {0, api.ErrValid}, "<>{<>}": {2, api.ErrValid}, "<a\n>": {2, api.ErrValid}, "#\n>": {1, api.ErrValid}, "`\n\n>": {4, api.OK},
		"\n": {0, api.ErrValid}, "(x)": {1, api.ErrValid}, "<>x": {2, api.ErrValid}, "(())": {2, api.ErrValid}, "(<>())": {4, api.ErrValid},
		"()x": {1, api.ErrValid}, "(<>)x": {4, api.ErrValid}, "(<x_>)x": {3, api.ErrValid}, "_>": {1, api.ErrForm}, "x>": {1, api.ErrForm},
	} {
		at, e := s.Check(sample.Tokens(text))
		if at != want.at || e != want.e {
			t.Errorf("Check(%q): %d, %d", text, at, e)
		}
	}
}

func TestP7_2CheckLooksAtEachToken(t *testing.T) {
	s := House()
	in := func(outer api.Token, inner ...api.Token) []api.Token {
		return slices.Concat(sample.Tokens("<>"), []api.Token{outer}, inner, []api.Token{end()})
	}
	head := func(n int) api.Token { return api.Token{K: api.TOpen, T: api.Head, N: n} }
	for _, x := range []struct {
		name string
		l    []api.Token
		at   int
		e    api.Errno
	}{
		{"a head of 0", in(head(0)), 2, api.ErrValid},
		{"a head of 1", in(head(1)), 4, api.OK},
		{"a head of 6", in(head(6)), 4, api.OK},
		{"a head of 7", in(head(7)), 2, api.ErrValid},
		{"a para of 1", in(api.Token{K: api.TOpen, T: api.Para, N: 1}), 2, api.ErrValid},
		{"a list of 1", in(api.Token{K: api.TOpen, T: api.List, N: 1}, sample.Tokens("{_}")...), 7, api.OK},
		{"a list of 2", in(api.Token{K: api.TOpen, T: api.List, N: 2}, sample.Tokens("{_}")...), 2, api.ErrValid},
		{"an item of 1", in(open(api.List), api.Token{K: api.TOpen, T: api.Item, N: 1}, leaf(api.Rule), end()), 3, api.ErrValid},
		{"a rule of 1", []api.Token{{K: api.TLeaf, T: api.Rule, N: 1}}, 0, api.ErrValid},
		{"a rule that is opened", in(open(api.Rule)), 2, api.ErrValid},
		{"a rule that is opened, with text", in(open(api.Rule), char('x')), 2, api.ErrValid},
		{"a para that is a leaf", []api.Token{leaf(api.Para)}, 0, api.ErrValid},
		{"an item that is a leaf", in(open(api.List), leaf(api.Item)), 3, api.ErrValid},
		{"the type 8", in(open(8)), 2, api.ErrValid},
		{"the type 15", in(open(15), open(14), end()), 2, api.ErrValid},
		{"the leaf 8", in(open(api.Quote), leaf(8)), 3, api.ErrValid},
		{"the type 16", in(open(16)), 2, api.ErrForm},
		{"the type 0", in(open(0)), 2, api.ErrForm},
		{"all marks in a para", in(open(api.Para), api.Token{N: 'x', M: 3}, api.Token{N: 'x', M: 4}, char('x')), 7, api.OK},
		{"all marks in a head", in(head(3), api.Token{N: 'x', M: 3}, api.Token{N: 'x', M: 4}), 6, api.OK},
		{"a mark in code", in(open(api.Block), char(10), api.Token{N: 'x', M: api.Em}), 4, api.ErrValid},
		{"the mark Code in code", in(open(api.Block), api.Token{N: 'x', M: api.Code}), 3, api.ErrValid},
		{"a marked end of a line in code", in(open(api.Block), api.Token{N: 10, M: api.Strong}), 3, api.ErrValid},
		{"a code point 13 in a para", in(open(api.Para), char(13), char(0x10FFFF), char(0)), 7, api.OK},
		{"a wrong set of marks", in(open(api.Para), api.Token{N: 'x', M: 5}), 3, api.ErrForm},
	} {
		if at, e := s.Check(x.l); at != x.at || e != x.e {
			t.Errorf("%s: %d, %d", x.name, at, e)
		}
	}
}

func TestP7_2FormAheadOfValid(t *testing.T) {
	s := House()
	deep := strings.Repeat("(", api.MaxDeep-1)
	checks(t, s, sample.Tokens("{<_x"), 4, api.ErrShort)
	checks(t, s, sample.Tokens("x<_>>"), 4, api.ErrForm)
	checks(t, s, sample.Tokens("x"+deep+"(("), api.MaxDeep+1, api.ErrDeep)
	checks(t, s, sample.Tokens(strings.Repeat("x", api.MaxDoc+1)), 0, api.ErrLong)
	checks(t, s, sample.Tokens(strings.Repeat("_", api.MaxDoc+1)), 0, api.ErrLong)
}

func TestP7_2CheckAtTheLimits(t *testing.T) {
	s := House()
	full := strings.Repeat("x", api.MaxDoc)
	checks(t, s, sample.Tokens("<"+full[2:]+">"), api.MaxDoc, api.OK)
	checks(t, s, sample.Tokens("<"+full[3:]+"_>"), api.MaxDoc-2, api.ErrValid)
	checks(t, s, sample.Tokens(strings.Repeat("<>", api.MaxDoc/2)), api.MaxDoc, api.OK)
	checks(t, s, sample.Tokens(strings.Repeat("<>", api.MaxDoc/2-1)+"()"), api.MaxDoc-1, api.ErrValid)
	checks(t, s, sample.Tokens(strings.Repeat("_", api.MaxDoc-1)+"x"), api.MaxDoc-1, api.ErrValid)
	ends := strings.Repeat(")", api.MaxDeep)
	deep := strings.Repeat("(", api.MaxDeep-1)
	checks(t, s, sample.Tokens(deep+"<"+ends), 2*api.MaxDeep, api.OK)
	checks(t, s, sample.Tokens(deep+"("+ends), api.MaxDeep, api.ErrValid)
	all := given{"", named(letters('o', 15)...), nil}
	all.l[14].Expr, all.whole = "text", "oo?"
	checks(t, all.schema(t), []api.Token{open(15), char('x'), end()}, 3, api.OK)
	checks(t, all.schema(t), nil, 0, api.OK)
	checks(t, all.schema(t), []api.Token{open(14), end()}, 0, api.ErrValid)
}

// TestP7_2EndsThatCannotBe tells an end that comes too early, of the whole and within.
func TestP7_2EndsThatCannotBe(t *testing.T) {
	s := given{"a b", []api.Spec{{Name: "a", Expr: "b b"}, {Name: "b", Leaf: true}}, nil}.schema(t)
	checks(t, s, []api.Token{open(1), leaf(2), leaf(2), end(), leaf(2)}, 5, api.OK)
	checks(t, s, []api.Token{open(1), leaf(2), leaf(2), end()}, 4, api.ErrValid)
	checks(t, s, []api.Token{open(1), leaf(2), end(), leaf(2)}, 2, api.ErrValid)
	checks(t, s, []api.Token{open(1), leaf(2), end(), leaf(2), leaf(2)}, 2, api.ErrValid)
	checks(t, s, []api.Token{open(1), leaf(2), leaf(2), leaf(2), end()}, 3, api.ErrValid)
	checks(t, s, []api.Token{leaf(2), open(1), end()}, 0, api.ErrValid)
}

func TestP7_2AgainstPlainWords(t *testing.T) {
	for _, x := range []struct {
		given
		alphabet []api.Token
		most     int
	}{
		{house(), sample.Tokens("<({[_x)"), 6},
		{house(), []api.Token{open(1), open(4), char('x'), char(10), {N: 'x', M: 1}, leaf(7), open(7), end()}, 5},
		{other(), []api.Token{{K: api.TOpen, T: 1, N: 1}, leaf(2), open(3), char('x'), {N: 10, M: 4}, end()}, 6},
		{other(), []api.Token{{K: api.TOpen, T: 1, N: 2}, open(1), leaf(1), leaf(2), {K: api.TLeaf, T: 2, N: 2}, open(9), {N: 'x', M: 2}, char(10), end()}, 5},
	} {
		s := x.schema(t)
		valid := 0
		for _, l := range sample.Rows(x.alphabet, x.most) {
			at, e := s.Check(l)
			wantAt, want := x.plain(l)
			if at != wantAt || e != want {
				t.Fatalf("Check(%v): %d, %d, not %d, %d", l, at, e, wantAt, want)
			}
			if e == api.OK {
				valid++
			}
		}
		if valid == 0 {
			t.Errorf("%q: none of the rows is valid", x.whole)
		}
	}
}

func TestP7_3Spec(t *testing.T) {
	s := other().schema(t)
	for i, want := range other().l {
		if got, ok := s.Spec(i + 1); got != want || !ok {
			t.Errorf("Spec(%d): %v, %v", i+1, got, ok)
		}
	}
	for _, none := range []int{math.MinInt, -1, 0, 4, 9, 15, 16, math.MaxInt} {
		if got, ok := s.Spec(none); got != (api.Spec{}) || ok {
			t.Errorf("Spec(%d): %v, %v", none, got, ok)
		}
	}
}

func TestP7_3Holds(t *testing.T) {
	s := House()
	l := sample.Tokens("(<a>_)[{<>}]_")
	for at, want := range []string{"", "quote", "para", "para", "quote", "quote", "", "list", "item", "para", "item", "list", "", ""} {
		got, ok := s.Holds(l, at)
		if spec, _ := s.Spec(slices.Index([]string{"", "para", "head", "quote", "code", "list", "item"}, want)); got != spec || ok != (want != "") {
			t.Errorf("Holds at %d: %v, %v", at, got, ok)
		}
	}
	for _, at := range []int{math.MinInt, -1, len(l) + 1, math.MaxInt} {
		if got, ok := s.Holds(l, at); got != (api.Spec{}) || ok {
			t.Errorf("Holds at %d: %v, %v", at, got, ok)
		}
	}
	for _, wrong := range []string{"<a", "<a>x", "<_>", "(<>", "(<>)>", "(<>)()"} {
		if got, ok := s.Holds(sample.Tokens(wrong), 1); got != (api.Spec{}) || ok {
			t.Errorf("Holds of %q: %v, %v", wrong, got, ok)
		}
	}
}

// TestP7_3MayOfAllShortRows holds May against what would come, word by word: a word with one of the type between.
func TestP7_3MayOfAllShortRows(t *testing.T) {
	one := func(kind int) []api.Token {
		switch kind {
		case 0:
			return []api.Token{char('x')}
		case 1:
			return []api.Token{{K: api.TOpen, T: 1, N: 1}, leaf(2), end()}
		case 2:
			return []api.Token{leaf(2)}
		}
		return []api.Token{open(kind), end()}
	}
	x := other()
	s := x.schema(t)
	for _, l := range sample.Rows([]api.Token{{K: api.TOpen, T: 1, N: 1}, leaf(2), open(3), char('x'), end()}, 6) {
		_, e := x.plain(l)
		for at := -1; at <= len(l)+1; at++ {
			for kind := -1; kind <= 4; kind++ {
				want := e == api.OK && 0 <= at && at <= len(l) && 0 <= kind && kind <= 3
				if want {
					_, then := x.plain(slices.Concat(l[:at], one(kind), l[at:]))
					want = then == api.OK
				}
				// Code points without marks stand in all types of this schema, so that words alone decide.
				if got := s.May(l, at, kind); got != want {
					t.Fatalf("May(%v, %d, %d): %v", l, at, kind, got)
				}
			}
		}
	}
}

func TestP7_3MayLooksAtWordsAlone(t *testing.T) {
	s := House()
	full := sample.Tokens("<" + strings.Repeat("x", api.MaxDoc-2) + ">")
	if !s.May(full, 5, 0) || !s.May(full, 0, api.Head) || s.May(full, 5, api.Head) {
		t.Error("a full document")
	}
	deep := sample.Tokens(strings.Repeat("(", api.MaxDeep-1) + "<" + strings.Repeat(")", api.MaxDeep))
	if !s.May(deep, api.MaxDeep-1, api.Quote) || s.May(deep, api.MaxDeep, api.Quote) || !s.May(deep, api.MaxDeep, 0) {
		t.Error("a deep document")
	}
	ghost := given{"row", []api.Spec{{Name: "row", Expr: "ghost?"}}, []api.Group{{Name: "ghost", Types: []int{9}}}}.schema(t)
	if !ghost.May([]api.Token{open(1), end()}, 1, 9) {
		t.Error("a type that words have")
	}
}

func TestP7_3MayOfWrongArguments(t *testing.T) {
	s := House()
	l := sample.Tokens("<a>_")
	for _, at := range []int{math.MinInt, -1, len(l) + 1, math.MaxInt} {
		if s.May(l, at, api.Para) || s.May(l, at, 0) {
			t.Errorf("May at %d", at)
		}
	}
	for _, kind := range []int{math.MinInt, -1, 8, 15, 16, math.MaxInt} {
		if s.May(l, 0, kind) || s.May(l, 1, kind) {
			t.Errorf("May of the type %d", kind)
		}
	}
	for _, wrong := range []string{"", "x", "<", "<>)", "()"} {
		if s.May(sample.Tokens(wrong), 0, api.Para) {
			t.Errorf("May of %q", wrong)
		}
	}
}

func TestP7_3Fill(t *testing.T) {
	s := House()
	for kind, want := range []string{"", "<>", "#>", "(<>)", "`>", "[{<>}]", "{<>}", "_", ""} {
		if l, ok := s.Fill(kind); !flat.Same(l, sample.Tokens(want)) || ok != (want != "") {
			t.Errorf("Fill(%d): %v, %v", kind, l, ok)
		}
	}
	for _, none := range []int{math.MinInt, -1, 0, 8, 15, 16, math.MaxInt} {
		if l, ok := s.Fill(none); l != nil || ok {
			t.Errorf("Fill(%d): %v, %v", none, l, ok)
		}
	}
	x := given{"", []api.Spec{
		{Name: "a", Expr: "b|(c c)", Least: 2, Most: 4},
		{Name: "b", Leaf: true, Least: 3, Most: 3},
		{Name: "c", Expr: "b* a b"},
		{Name: "d", Expr: "text"},
		{Name: "e", Expr: "d|a a"},
		{Name: "f", Expr: "ghost|b b"},
		{Name: "g", Expr: "g?"},
		{Name: "h", Expr: "h"},
		{Name: "i", Expr: "j"},
		{Name: "j", Expr: "i"},
	}, []api.Group{{Name: "ghost", Types: []int{14}}}}
	a := []api.Token{{K: api.TOpen, T: 1, N: 2}, {K: api.TLeaf, T: 2, N: 3}, {K: api.TClose}}
	b := a[1:2]
	for kind, want := range map[int][]api.Token{
		1: a, 2: b, 3: slices.Concat([]api.Token{open(3)}, a, b, []api.Token{end()}),
		4: nil, 5: nil, 6: nil, 7: {open(7), end()}, 8: nil, 9: nil, 10: nil, 14: nil,
	} {
		if l, ok := x.schema(t).Fill(kind); !flat.Same(l, want) || ok != (want != nil) || !ok && l != nil {
			t.Errorf("Fill(%d): %v, %v", kind, l, ok)
		}
	}
}

// TestP7_3FillAtTheLimits tries how long alone: as a type is always filled alike, of 15 types none is nested deeper than 15, or all go on without end.
func TestP7_3FillAtTheLimits(t *testing.T) {
	tower := func(n int) given {
		return given{"", []api.Spec{
			{Name: "a", Leaf: true},
			{Name: "b", Expr: strings.Repeat("a ", 30)},
			{Name: "c", Expr: strings.Repeat("b ", 20)},
			{Name: "d", Expr: "c c c b b b" + strings.Repeat(" a", n)},
		}, nil}
	}
	size := 2 + 3*(2+20*(2+30)) + 3*(2+30) // of a d without leaves of its own
	for n := range 50 {
		l, ok := tower(n).schema(t).Fill(4)
		if size+n <= api.MaxDoc && (!ok || len(l) != size+n) || size+n > api.MaxDoc && (ok || l != nil) {
			t.Errorf("a d of %d leaves: %d tokens, %v", n, len(l), ok)
		}
	}
	if size > api.MaxDoc || size+49 <= api.MaxDoc {
		t.Errorf("%d is not near the limit", size)
	}
}

func TestP7_3FillEndsInTime(t *testing.T) {
	wide := func(name string) string { return strings.Repeat(name+" ", 60) }
	l := named(letters('o', 15)...)
	for i := range 14 {
		l[i].Expr = wide(l[i+1].Name)
	}
	for _, x := range []given{{"", l, nil}, {"", []api.Spec{{Name: "a", Expr: wide("a")}}, nil}} {
		if l, ok := x.schema(t).Fill(1); l != nil || ok {
			t.Errorf("%d tokens, %v", len(l), ok)
		}
	}
}

func TestP7_3Alone(t *testing.T) {
	s := House()
	for kind, want := range [][]int{nil, {0}, {0}, {1, 2, 3, 4, 5, 7}, {0}, {6}, {1, 2, 3, 4, 5, 7}, nil, nil} {
		for u := -1; u <= api.MaxTypes; u++ {
			if got := s.Alone(kind, u); got != slices.Contains(want, u) {
				t.Errorf("Alone(%d, %d): %v", kind, u, got)
			}
		}
	}
	x := given{"b", []api.Spec{{Name: "a", Expr: "b b|c? b?"}, {Name: "b", Expr: "b b*"}, {Name: "c", Expr: "b b+"}}, nil}.schema(t)
	for kind, want := range [][]int{nil, {2, 3}, {2}, nil} {
		for u := range 5 {
			if got := x.Alone(kind, u); got != slices.Contains(want, u) {
				t.Errorf("Alone(%d, %d): %v", kind, u, got)
			}
		}
	}
	for _, far := range []int{math.MinInt, -1, 16, math.MaxInt} {
		if s.Alone(far, 1) || s.Alone(1, far) || s.Alone(far, far) {
			t.Errorf("Alone of %d", far)
		}
	}
}

func TestP7_4NotMade(t *testing.T) {
	var none *Schema
	for _, s := range []*Schema{none, {}, new(Schema)} {
		for _, l := range [][]api.Token{nil, {}, sample.Tokens("<x>"), sample.Tokens(">"), sample.Tokens(strings.Repeat("x", api.MaxDoc+1))} {
			checks(t, s, l, 0, api.ErrZero)
			for _, at := range []int{math.MinInt, -1, 0, 1, 3, math.MaxInt} {
				if spec, ok := s.Holds(l, at); spec != (api.Spec{}) || ok || s.May(l, at, 0) || s.May(l, at, 1) {
					t.Errorf("%v at %d", l, at)
				}
			}
		}
		for _, kind := range []int{math.MinInt, -1, 0, 1, 7, math.MaxInt} {
			spec, is := s.Spec(kind)
			l, fills := s.Fill(kind)
			if spec != (api.Spec{}) || is || l != nil || fills || s.Alone(kind, 0) || s.Alone(0, kind) {
				t.Errorf("the type %d: %v, %v, %v, %v", kind, spec, is, l, fills)
			}
		}
	}
	// One without types is made all the same.
	checks(t, given{}.schema(t), nil, 0, api.OK)
	checks(t, given{}.schema(t), sample.Tokens("x"), 0, api.ErrValid)
	checks(t, given{"text", nil, nil}.schema(t), sample.Tokens("x"), 1, api.OK)
	checks(t, given{"text*", nil, nil}.schema(t), sample.Tokens("x\n"), 1, api.ErrValid)
	checks(t, given{"text*", nil, nil}.schema(t), []api.Token{char('x'), {N: 'x', M: 1}}, 1, api.ErrValid)
}

func TestP7_5WhatIsFilledMayStand(t *testing.T) {
	s := House()
	for _, l := range append(sample.Rows(sample.Tokens("<(_x)"), 6), sample.Tokens("[{<a>}{_}](<>)`\n>#a>")) {
		if _, e := s.Check(l); e != api.OK {
			continue
		}
		for at := range len(l) + 1 {
			for kind := api.Para; kind <= api.Rule; kind++ {
				fill, ok := s.Fill(kind)
				then := slices.Concat(l[:at], fill, l[at:])
				_, e := s.Check(then)
				if !ok || s.May(l, at, kind) != (e == api.OK) {
					t.Fatalf("%d at %d of %v: %v, %d", kind, at, l, fill, e)
				}
			}
		}
	}
}

func TestP3NilAndEmpty(t *testing.T) {
	a, e := New("", nil, nil)
	b, f := New("", []api.Spec{}, []api.Group{})
	if e != api.OK || f != api.OK {
		t.Fatalf("New: %d, %d", e, f)
	}
	for _, s := range []*Schema{a, b} {
		checks(t, s, nil, 0, api.OK)
		checks(t, s, []api.Token{}, 0, api.OK)
	}
}

func TestP4NothingKeptNorChanged(t *testing.T) {
	x := other()
	s := x.schema(t)
	if !reflect.DeepEqual(x, other()) {
		t.Error("what was handed in has changed")
	}
	l := []api.Token{char('x'), {K: api.TOpen, T: 1, N: 1}, leaf(2), char('y'), open(3), end(), end()}
	wide := append(make([]api.Token, 0, 20), l...)
	for i := range x.l {
		x.l[i] = api.Spec{Name: "z", Expr: "z"}
	}
	x.g[0].Types[0], x.g[0].Types[1], x.g[0].Name = 2, 2, "z"
	for range 2 {
		checks(t, s, wide, len(l), api.OK)
		if spec, ok := s.Holds(wide, 3); spec != other().l[0] || !ok || !s.May(wide, 3, 0) || s.May(wide, 3, 1) {
			t.Errorf("Holds: %v, %v", spec, ok)
		}
		fill, ok := s.Fill(3)
		if !ok || len(fill) != 2 {
			t.Fatalf("Fill: %v, %v", fill, ok)
		}
		fill[0], fill[1] = api.Token{K: 9}, api.Token{K: 9}
	}
	if !slices.Equal(wide, l) || slices.Max([]int{wide[:20][7].K, wide[:20][8].N}) != 0 {
		t.Errorf("the tokens have become %v", wide)
	}
}
