package expr

import (
	"errors"
	"math"
	"slices"
	"strings"
	"testing"

	"emender/api"
)

func name(s string) api.Expr { return api.Expr{K: api.EName, Name: s} }

func node(kind int, l ...api.Expr) api.Expr { return api.Expr{K: kind, L: l} }

// stars answers e with n stars around it.
func stars(n int, e api.Expr) api.Expr {
	for range n {
		e = node(api.EStar, e)
	}
	return e
}

// names answers n names.
func names(n int) []api.Expr {
	var l []api.Expr
	for range n {
		l = append(l, name("a"))
	}
	return l
}

func deepCopy(e api.Expr) api.Expr {
	l := slices.Clone(e.L)
	for i := range l {
		l[i] = deepCopy(l[i])
	}
	e.L = l
	return e
}

// show writes any tree, so that two different ones never look the same.
func show(e api.Expr) string {
	s := string(rune('0'+e.K)) + e.Name + "["
	for _, k := range e.L {
		s += show(k)
	}
	return s + "]"
}

// plainCheck says in other words what the chapter's section on trees says, without the limits.
func plainCheck(e api.Expr) api.Errno {
	bad := false
	for _, k := range e.L {
		bad = bad || plainCheck(k) != api.OK || k.K == api.ENone
		bad = bad || (e.K == api.ESeq || e.K == api.EAlt) && k.K == e.K
	}
	least, most := 0, 0
	switch {
	case e.K < api.ENone || e.K > api.EOpt:
		bad = true
	case e.K == api.ESeq || e.K == api.EAlt:
		least, most = 2, math.MaxInt
	case e.K > api.EAlt:
		least, most = 1, 1
	}
	bad = bad || len(e.L) < least || len(e.L) > most
	bad = bad || (e.K == api.EName) != (e.Name != "") || strings.Trim(e.Name, "abcdefghijklmnopqrstuvwxyz") != ""
	if bad {
		return api.ErrForm
	}
	return api.OK
}

// allTrees answers all trees of at most size expressions, right and wrong ones.
func allTrees(size int) []api.Expr {
	var all []api.Expr
	for n := 1; n <= size; n++ {
		all = append(all, treesOf(n)...)
	}
	return all
}

func treesOf(n int) []api.Expr {
	var all []api.Expr
	for _, l := range listsOf(n - 1) {
		for kind := -1; kind <= api.EOpt+1; kind++ {
			all = append(all, api.Expr{K: kind, L: l})
		}
		for _, kind := range []int{api.ENone, api.EName, api.EAlt, api.EOpt} {
			all = append(all, api.Expr{K: kind, Name: "b", L: l})
		}
	}
	return all
}

func listsOf(n int) [][]api.Expr {
	if n == 0 {
		return [][]api.Expr{nil}
	}
	var all [][]api.Expr
	for first := 1; first <= n; first++ {
		for _, e := range treesOf(first) {
			for _, rest := range listsOf(n - first) {
				all = append(all, append([]api.Expr{e}, rest...))
			}
		}
	}
	return all
}

// rightTrees answers all right trees of at most size expressions, of names a alone.
func rightTrees(size int) []api.Expr {
	var all []api.Expr
	for n := 1; n <= size; n++ {
		all = append(all, rightTreesOf(n)...)
	}
	return append(all, api.Expr{})
}

func rightTreesOf(n int) []api.Expr {
	if n == 1 {
		return []api.Expr{name("a")}
	}
	var all []api.Expr
	for _, l := range rightListsOf(n - 1) {
		for kind := api.ESeq; kind <= api.EOpt; kind++ {
			if e := node(kind, l...); plainCheck(e) == api.OK {
				all = append(all, e)
			}
		}
	}
	return all
}

func rightListsOf(n int) [][]api.Expr {
	if n == 0 {
		return [][]api.Expr{nil}
	}
	var all [][]api.Expr
	for first := 1; first <= n; first++ {
		for _, e := range rightTreesOf(first) {
			for _, rest := range rightListsOf(n - first) {
				all = append(all, append([]api.Expr{e}, rest...))
			}
		}
	}
	return all
}

func TestP5_1CheckOfRightTrees(t *testing.T) {
	for _, e := range []api.Expr{
		{}, {L: []api.Expr{}}, name("a"), name("z"), name("abcxyz"),
		node(api.ESeq, name("a"), name("a")),
		node(api.EAlt, name("a"), node(api.ESeq, name("b"), name("c"))),
		node(api.ESeq, name("a"), node(api.EAlt, name("b"), name("c"))),
		node(api.ESeq, name("a"), node(api.EStar, node(api.ESeq, name("b"), name("c")))),
		stars(2, name("a")), node(api.EPlus, node(api.EPlus, name("a"))), node(api.EOpt, node(api.EOpt, name("a"))),
		node(api.EPlus, name("a")), node(api.EOpt, node(api.EAlt, name("a"), name("b"))),
		name(strings.Repeat("a", 100_000)),
	} {
		if got := Check(e); got != api.OK {
			t.Errorf("Check(%s): %d", show(e), got)
		}
	}
}

func TestP5_1CheckOfWrongTrees(t *testing.T) {
	a := name("a")
	for _, e := range []api.Expr{
		{Name: "a"}, {L: []api.Expr{a}}, {L: []api.Expr{{}}},
		name(""), name("A"), name("a b"), name("a1"), name("a`"), name("a{"), name(" a"), name("é"), name("a\x00"),
		{K: api.EName, Name: "a", L: []api.Expr{a}},
		node(api.ESeq), node(api.EAlt), node(api.ESeq, a), node(api.EAlt, a),
		node(api.ESeq, a, api.Expr{}), node(api.EAlt, api.Expr{}, a),
		node(api.ESeq, a, node(api.ESeq, a, a)), node(api.EAlt, node(api.EAlt, a, a), a),
		{K: api.ESeq, Name: "a", L: []api.Expr{a, a}}, {K: api.EAlt, Name: "a", L: []api.Expr{a, a}},
		node(api.EStar), node(api.EPlus), node(api.EOpt),
		node(api.EStar, a, a), node(api.EPlus, a, a), node(api.EOpt, a, a),
		node(api.EStar, api.Expr{}), node(api.EPlus, api.Expr{}), node(api.EOpt, api.Expr{}),
		{K: api.EStar, Name: "a", L: []api.Expr{a}}, {K: api.EPlus, Name: "a", L: []api.Expr{a}}, {K: api.EOpt, Name: "a", L: []api.Expr{a}},
		{K: -1}, {K: 7}, {K: math.MinInt}, {K: math.MaxInt}, {K: 7, L: []api.Expr{a}}, {K: -1, Name: "a"},
		node(api.EStar, name("A")), node(api.ESeq, a, node(api.EStar, node(api.EAlt, a))),
	} {
		if got := Check(e); got != api.ErrForm {
			t.Errorf("Check(%s): %d", show(e), got)
		}
	}
}

func TestP5_1CheckOfAllSmallTrees(t *testing.T) {
	for _, e := range allTrees(3) {
		if got, want := Check(e), plainCheck(e); got != want {
			t.Fatalf("Check(%s): %d, not %d", show(e), got, want)
		}
	}
}

func TestP5_1CheckOfMany(t *testing.T) {
	most := node(api.ESeq, names(api.MaxExpr-1)...)
	if got := Check(most); got != api.OK {
		t.Errorf("Check of %d: %d", api.MaxExpr, got)
	}
	for _, e := range []api.Expr{
		node(api.ESeq, names(api.MaxExpr)...),
		node(api.EAlt, name("a"), most),
		node(api.EStar, most),
		{K: api.EName, Name: "a", L: names(api.MaxExpr)},
		{K: 99, Name: "A", L: names(api.MaxExpr)},
		node(api.EOpt, node(api.ENone, names(api.MaxExpr)...)),
		node(api.EAlt, node(api.ESeq, names(100)...), node(api.ESeq, names(98)...)),
	} {
		if got := Check(e); got != api.ErrLong {
			t.Errorf("Check of too many, kind %d: %d", e.K, got)
		}
	}
	if got := Check(node(api.EAlt, node(api.ESeq, names(99)...), node(api.ESeq, names(98)...))); got != api.OK {
		t.Errorf("Check of %d in two: %d", api.MaxExpr, got)
	}
	if got := Check(node(api.ENone, names(api.MaxExpr-1)...)); got != api.ErrForm {
		t.Errorf("Check of as many as may be, not right: %d", got)
	}
}

func TestP5_1CheckOfDeep(t *testing.T) {
	if got := Check(stars(59, name("a"))); got != api.OK {
		t.Errorf("Check of 60: %d", got)
	}
	if got := Check(stars(60, name("a"))); got != api.ErrLong {
		t.Errorf("Check of 61: %d", got)
	}
	if got := Check(stars(59, name("A"))); got != api.ErrForm {
		t.Errorf("Check of 60, not right: %d", got)
	}
	if got := Check(stars(60, name("A"))); got != api.ErrLong {
		t.Errorf("Check of 61, not right: %d", got)
	}
	if got := Check(node(api.EAlt, name("A"), stars(59, name("a")))); got != api.ErrLong {
		t.Errorf("Check of 61 behind a wrong one: %d", got)
	}
	if got := Check(node(99, stars(59, name("a")))); got != api.ErrLong {
		t.Errorf("Check of 61 in a wrong one: %d", got)
	}
	if got := Check(stars(1<<16-1, name("a"))); got != api.ErrLong {
		t.Errorf("Check of 65536: %d", got)
	}
}

// ownHolder answers a tree whose list holds that tree n times.
func ownHolder(n int) api.Expr {
	l := make([]api.Expr, n)
	for i := range l {
		l[i] = api.Expr{K: api.ESeq, L: l}
	}
	return l[0]
}

func TestP5_1EndsAtTreesThatHoldThemselves(t *testing.T) {
	for n := 1; n <= 3; n++ {
		e := ownHolder(n)
		if got := Check(e); got != api.ErrLong {
			t.Errorf("Check: %d", got)
		}
		if s, got := Print(e); s != "" || got != api.ErrLong {
			t.Errorf("Print: %q, %d", s, got)
		}
		Same(e, ownHolder(n))
	}
}

// firstFault answers, by states alone, the place of the first byte of s that can't be, or -1.
func firstFault(s string) int {
	open, done, any := 0, false, false
	for at := range len(s) {
		c := s[at]
		switch {
		case c == ' ':
			continue
		case 'a' <= c && c <= 'z':
			done = true
		case c == '(':
			open, done = open+1, false
		case c == ')' && done && open > 0:
			open--
		case c == '|' && done:
			done = false
		case strings.IndexByte("*+?", c) >= 0 && done:
		default:
			return at
		}
		any = true
	}
	if open > 0 || any && !done {
		return len(s)
	}
	return -1
}

// cutOutside answers the pieces of s between the bars outside of brackets.
func cutOutside(s string) []string {
	open, from := 0, 0
	var l []string
	for at := range len(s) {
		switch {
		case s[at] == '(':
			open++
		case s[at] == ')':
			open--
		case s[at] == '|' && open == 0:
			l = append(l, s[from:at])
			from = at + 1
		}
	}
	return append(l, s[from:])
}

// plainTree answers the tree of s, which has no fault, by cutting it to pieces from the outside.
func plainTree(s string) api.Expr {
	s = strings.Trim(s, " ")
	if s == "" {
		return api.Expr{}
	}
	if l := cutOutside(s); len(l) > 1 {
		return plainRow(api.EAlt, l)
	}
	if l := cutParts(s); len(l) > 1 {
		return plainRow(api.ESeq, l)
	}
	switch last := s[len(s)-1]; last {
	case '*':
		return node(api.EStar, plainTree(s[:len(s)-1]))
	case '+':
		return node(api.EPlus, plainTree(s[:len(s)-1]))
	case '?':
		return node(api.EOpt, plainTree(s[:len(s)-1]))
	case ')':
		return plainTree(s[1 : len(s)-1])
	}
	return name(s)
}

// cutParts answers the parts of s, which has no bar outside of brackets.
func cutParts(s string) []string {
	var l []string
	open := 0
	for at := range len(s) {
		c := s[at]
		begins := c == '(' || 'a' <= c && c <= 'z' && (at == 0 || s[at-1] < 'a' || s[at-1] > 'z')
		if begins && open == 0 {
			l = append(l, "")
		}
		if c == '(' {
			open++
		}
		if c == ')' {
			open--
		}
		l[len(l)-1] += string(c)
	}
	return l
}

func plainRow(kind int, l []string) api.Expr {
	e := api.Expr{K: kind}
	for _, s := range l {
		if k := plainTree(s); k.K == kind {
			e.L = append(e.L, k.L...)
		} else {
			e.L = append(e.L, k)
		}
	}
	return e
}

func TestP5_2ParseOfAllShortTexts(t *testing.T) {
	const letters = "ab (|)*A"
	texts := []string{""}
	for from, size := 0, 0; size < 6; size++ {
		end := len(texts)
		for _, s := range texts[from:end] {
			for i := range len(letters) {
				texts = append(texts, s+letters[i:i+1])
			}
		}
		from = end
	}
	for _, s := range texts {
		tryParse(t, s)
	}
}

// Most bytes of these texts are such as can be, and some of their ends make them whole.
func TestP5_2ParseOfLongerTexts(t *testing.T) {
	const letters = "aab ((|)))*+? "
	next := uint32(1)
	chance := func(n int) int {
		next = next*1664525 + 1013904223
		return int(next>>16) % n
	}
	whole := 0
	for range 20_000 {
		s := ""
		for range chance(30) {
			more := s + string(letters[chance(len(letters))])
			if fault := firstFault(more); fault < 0 || fault == len(more) || chance(50) == 0 {
				s = more
			}
		}
		for end := range 6 {
			all := s + "a" + strings.Repeat(")", end)
			if firstFault(all) < 0 && len(all) > 10 {
				whole++
			}
			tryParse(t, all)
		}
		tryParse(t, s)
	}
	if whole < 1000 {
		t.Errorf("but %d texts are whole", whole)
	}
}

func tryParse(t *testing.T, s string) {
	t.Helper()
	e, at, f := Parse(s)
	if fault := firstFault(s); fault >= 0 {
		if at != fault || f != api.ErrForm || show(e) != show(api.Expr{}) {
			t.Fatalf("Parse(%q): %s, %d, %d, not %d", s, show(e), at, f, fault)
		}
		return
	}
	if want := plainTree(s); show(e) != show(want) || at != len(s) || f != api.OK {
		t.Fatalf("Parse(%q): %s, %d, %d, not %s", s, show(e), at, f, show(want))
	}
}

func TestP5_2ParseByHand(t *testing.T) {
	a, b, c, d := name("a"), name("b"), name("c"), name("d")
	for s, want := range map[string]api.Expr{
		"":                     {},
		"   ":                  {},
		"a":                    a,
		" para ":               name("para"),
		"((a))":                a,
		"a b":                  node(api.ESeq, a, b),
		"a  b":                 node(api.ESeq, a, b),
		"a(b)":                 node(api.ESeq, a, b),
		"a*b":                  node(api.ESeq, node(api.EStar, a), b),
		"a *":                  node(api.EStar, a),
		"a|b":                  node(api.EAlt, a, b),
		"a b|c d":              node(api.EAlt, node(api.ESeq, a, b), node(api.ESeq, c, d)),
		"a (b|c) d":            node(api.ESeq, a, node(api.EAlt, b, c), d),
		"(a b) c":              node(api.ESeq, a, b, c),
		"a (b (c d))":          node(api.ESeq, a, b, c, d),
		"(a|b)|c":              node(api.EAlt, a, b, c),
		"a|((b|c)|d)":          node(api.EAlt, a, b, c, d),
		"(a b)":                node(api.ESeq, a, b),
		"(a b)|c":              node(api.EAlt, node(api.ESeq, a, b), c),
		"(a b)* c":             node(api.ESeq, node(api.EStar, node(api.ESeq, a, b)), c),
		"(a|b)+|c":             node(api.EAlt, node(api.EPlus, node(api.EAlt, a, b)), c),
		"a+?":                  node(api.EOpt, node(api.EPlus, a)),
		"a ? + *":              node(api.EStar, node(api.EPlus, node(api.EOpt, a))),
		"(a*)*":                stars(2, a),
		"para (list | quote)*": node(api.ESeq, name("para"), node(api.EStar, node(api.EAlt, name("list"), name("quote")))),
	} {
		if e, at, f := Parse(s); show(e) != show(want) || at != len(s) || f != api.OK {
			t.Errorf("Parse(%q): %s, %d, %d", s, show(e), at, f)
		}
	}
}

func TestP5_2ParseRefuses(t *testing.T) {
	for s, want := range map[string]int{
		"a|": 2, "a | ": 4, "|": 0, " |a": 1, "a||b": 2, "a|)": 2, "(a|": 3, "a|*": 2,
		"(": 1, "( ": 2, "()": 1, "( )": 2, "a()": 2, "(a": 2, "(a b": 4, "((a)": 4, "a)": 1, ")": 0, "(a))": 3,
		"*": 0, "*a": 0, "(*": 1, "+": 0, "?a": 0,
		"A": 0, "aB": 1, "a1": 1, "a_b": 1, "a\tb": 1, "\n": 0, "a\x00": 1, "\x00": 0, "aé": 1, "é": 0, "\xff": 0, "a,b": 1, "a.": 1,
		"a`": 1, "a{": 1, "a(b|c": 5, "a b)": 3, "a\u00a0b": 1,
	} {
		if e, at, f := Parse(s); at != want || f != api.ErrForm || show(e) != show(api.Expr{}) {
			t.Errorf("Parse(%q): %s, %d, %d, not %d", s, show(e), at, f, want)
		}
	}
}

func TestP5_2ParseOfLongAndDeep(t *testing.T) {
	full := strings.Repeat("a", api.MaxExpr)
	if e, at, f := Parse(full); show(e) != show(name(full)) || at != api.MaxExpr || f != api.OK {
		t.Errorf("Parse of %d bytes: %d, %d", api.MaxExpr, at, f)
	}
	blanks := strings.Repeat(" ", api.MaxExpr)
	if e, at, f := Parse(blanks); show(e) != show(api.Expr{}) || at != api.MaxExpr || f != api.OK {
		t.Errorf("Parse of %d blanks: %d, %d", api.MaxExpr, at, f)
	}
	for _, s := range []string{full + "a", blanks + " ", full + "A", ")" + full, strings.Repeat("(", 100_000)} {
		if e, at, f := Parse(s); show(e) != show(api.Expr{}) || at != 0 || f != api.ErrLong {
			t.Errorf("Parse of %d bytes: %d, %d", len(s), at, f)
		}
	}
	if e, at, f := Parse("a" + strings.Repeat("*", 59)); show(e) != show(stars(59, name("a"))) || at != 60 || f != api.OK {
		t.Errorf("Parse of 60 within one another: %d, %d", at, f)
	}
	if e, at, f := Parse("a" + strings.Repeat("*", 60)); show(e) != show(api.Expr{}) || at != 0 || f != api.ErrForm {
		t.Errorf("Parse of 61 within one another: %s, %d, %d", show(e), at, f)
	}
	if _, at, f := Parse("a" + strings.Repeat("*", 60) + "|"); at != 62 || f != api.ErrForm {
		t.Errorf("Parse of 61 within one another, with more missing: %d, %d", at, f)
	}
	brackets := strings.Repeat("(", 99) + "aa" + strings.Repeat(")", 99)
	if e, at, f := Parse(brackets); show(e) != show(name("aa")) || at != api.MaxExpr || f != api.OK {
		t.Errorf("Parse of many brackets: %d, %d", at, f)
	}
}

func TestP5_2ParseOfMoreThanMayBe(t *testing.T) {
	if e, at, f := Parse(strings.Repeat("a*", 99) + "a"); len(e.L) != 100 || at != 199 || f != api.OK {
		t.Errorf("Parse of 200 in all: %d, %d", at, f)
	}
	if e, at, f := Parse(strings.Repeat("a*", 100)); show(e) != show(api.Expr{}) || at != 0 || f != api.ErrForm {
		t.Errorf("Parse of 201 in all: %d, %d", at, f)
	}
}

func TestP5_2AnswersNewMemory(t *testing.T) {
	const s = "(a b) c|(d|e)*"
	first, _, _ := Parse(s)
	want := show(first)
	second, _, _ := Parse(s)
	scribble(first)
	if show(second) != want {
		t.Error("two answers of Parse share a list")
	}
	third, _, _ := Parse("(a b) (c|d) (e f)")
	kids := third.L
	_ = append(kids[:1], name("z"))
	if got := show(third.L[2]); got != show(node(api.EAlt, name("c"), name("d"))) {
		t.Errorf("lists of one answer share memory: %s", got)
	}
}

// scribble writes over all of a tree's lists.
func scribble(e api.Expr) {
	for i := range e.L {
		scribble(e.L[i])
		e.L[i] = name("zzz")
	}
}

func TestP5_3PrintByHand(t *testing.T) {
	a, b, c := name("a"), name("b"), name("c")
	for want, e := range map[string]api.Expr{
		"":          {},
		"abc":       name("abc"),
		"a b c":     node(api.ESeq, a, b, c),
		"a|b|c":     node(api.EAlt, a, b, c),
		"a b|c":     node(api.EAlt, node(api.ESeq, a, b), c),
		"a (b|c)":   node(api.ESeq, a, node(api.EAlt, b, c)),
		"(a|b) c":   node(api.ESeq, node(api.EAlt, a, b), c),
		"a*":        stars(1, a),
		"a**":       stars(2, a),
		"a+?":       node(api.EOpt, node(api.EPlus, a)),
		"a?+":       node(api.EPlus, node(api.EOpt, a)),
		"(a b)*":    node(api.EStar, node(api.ESeq, a, b)),
		"(a|b)+":    node(api.EPlus, node(api.EAlt, a, b)),
		"(a|b c)?":  node(api.EOpt, node(api.EAlt, a, node(api.ESeq, b, c))),
		"a* b":      node(api.ESeq, stars(1, a), b),
		"(a b)* c":  node(api.ESeq, node(api.EStar, node(api.ESeq, a, b)), c),
		"a*|b+":     node(api.EAlt, stars(1, a), node(api.EPlus, b)),
		"(a|b)*|c?": node(api.EAlt, node(api.EStar, node(api.EAlt, a, b)), node(api.EOpt, c)),
	} {
		if s, f := Print(e); s != want || f != api.OK {
			t.Errorf("Print(%s): %q, %d, not %q", show(e), s, f, want)
		}
	}
}

func TestP5_3PrintAnswersChecksError(t *testing.T) {
	for _, e := range append(allTrees(3), stars(60, name("a")), stars(60, name("A")), node(api.EAlt, names(api.MaxExpr)...)) {
		s, f := Print(e)
		if f != Check(e) || f != api.OK && s != "" {
			t.Fatalf("Print(%s): %q, %d", show(e), s, f)
		}
	}
}

func TestP5_3PrintOfMuch(t *testing.T) {
	long := strings.Repeat("ab", 10_000)
	if s, f := Print(node(api.EAlt, name(long), name(long))); s != long+"|"+long || f != api.OK {
		t.Errorf("Print of long names: %d bytes, %d", len(s), f)
	}
	want := "a" + strings.Repeat("*", 59)
	if s, f := Print(stars(59, name("a"))); s != want || f != api.OK {
		t.Errorf("Print of what is deep: %q, %d", s, f)
	}
	want = "a" + strings.Repeat(" a", api.MaxExpr-2)
	if s, f := Print(node(api.ESeq, names(api.MaxExpr-1)...)); s != want || f != api.OK {
		t.Errorf("Print of many: %q, %d", s, f)
	}
}

// withoutPair answers s without the bracket at i and its partner.
func withoutPair(s string, i int) string {
	open := 0
	for j := i; ; j++ {
		switch s[j] {
		case '(':
			open++
		case ')':
			open--
		}
		if open == 0 {
			return s[:i] + s[i+1:j] + s[j+1:]
		}
	}
}

func TestP5_4ParseUndoesPrintWithNoBracketToSpare(t *testing.T) {
	for _, e := range rightTrees(7) {
		s, f := Print(e)
		if f != api.OK {
			t.Fatalf("Print(%s): %d", show(e), f)
		}
		if strings.Contains(s, "| ") || strings.Contains(s, " |") || strings.Contains(s, "  ") || strings.Trim(s, " ") != s {
			t.Fatalf("Print(%s): %q has blanks to spare", show(e), s)
		}
		back, at, f := Parse(s)
		if f != api.OK || at != len(s) || !Same(back, e) {
			t.Fatalf("Parse(%q): %s, %d, %d, not %s", s, show(back), at, f, show(e))
		}
		for i := range len(s) {
			if s[i] != '(' {
				continue
			}
			if other, _, f := Parse(withoutPair(s, i)); f == api.OK && Same(other, e) {
				t.Fatalf("Print(%s): %q has brackets to spare", show(e), s)
			}
		}
	}
}

func TestP5_4ParseUndoesPrintAtTheLimits(t *testing.T) {
	for _, e := range []api.Expr{
		stars(59, name("a")),
		node(api.EAlt, names(100)...),
		node(api.EPlus, node(api.ESeq, names(99)...)),
		name(strings.Repeat("z", api.MaxExpr)),
	} {
		s, f := Print(e)
		if back, at, g := Parse(s); f != api.OK || g != api.OK || at != len(s) || !Same(back, e) {
			t.Errorf("Parse(%q): %d, %d, %d", s, at, f, g)
		}
	}
	s, f := Print(name(strings.Repeat("z", api.MaxExpr+1)))
	if _, at, g := Parse(s); f != api.OK || at != 0 || g != api.ErrLong {
		t.Errorf("Parse of what is too long: %d, %d, %d", at, f, g)
	}
}

func TestP5_4SameOfAllSmallTrees(t *testing.T) {
	all := allTrees(2)
	for _, a := range all {
		for _, b := range all {
			if Same(a, b) != (show(a) == show(b)) {
				t.Fatalf("Same(%s, %s): %t", show(a), show(b), Same(a, b))
			}
		}
		if !Same(a, deepCopy(a)) {
			t.Fatalf("Same(%s, its copy)", show(a))
		}
	}
}

func TestP5_4SameByHand(t *testing.T) {
	a, b := name("a"), name("b")
	if !Same(api.Expr{}, api.Expr{L: []api.Expr{}}) || !Same(api.Expr{K: api.EName, Name: "a", L: []api.Expr{}}, a) {
		t.Error("Same: nil and empty lists are the same")
	}
	for _, l := range [][2]api.Expr{
		{a, b}, {name("a"), name("ab")}, {a, {}}, {{K: math.MaxInt}, {K: math.MinInt}},
		{node(api.ESeq, a, b), node(api.ESeq, b, a)}, {node(api.ESeq, a, b), node(api.EAlt, a, b)},
		{node(api.ESeq, a, a), node(api.ESeq, a, a, a)}, {node(api.ESeq, a, a, a), node(api.ESeq, a, a)},
		{stars(2, a), stars(3, a)}, {stars(59, a), stars(59, b)}, {{Name: "a"}, {}},
	} {
		if Same(l[0], l[1]) || Same(l[1], l[0]) {
			t.Errorf("Same(%s, %s)", show(l[0]), show(l[1]))
		}
	}
	if !Same(stars(1<<16-1, a), stars(1<<16-1, a)) || Same(stars(1<<16-1, a), stars(1<<16-1, b)) {
		t.Error("Same of what is very deep")
	}
}

func TestP5_1CallsLeaveTheirArgumentsAlone(t *testing.T) {
	for _, e := range append(rightTrees(5), allTrees(2)...) {
		was, other := deepCopy(e), deepCopy(e)
		Check(e)
		Print(e)
		Same(e, other)
		if show(e) != show(was) || show(other) != show(was) {
			t.Fatalf("%s became %s and %s", show(was), show(e), show(other))
		}
	}
}

func TestP5_2RefusalTellsItsPlaceThroughWraps(t *testing.T) {
	err := errors.Join(errors.New("more"), refusal{7, api.ErrLong})
	if at, number := told(err); at != 7 || number != api.ErrLong {
		t.Errorf("told: %d, %d", at, number)
	}
	if got := (refusal{7, api.ErrLong}).Error(); got != "error 2 at 7" {
		t.Errorf("Error: %q", got)
	}
	if !errors.Is(refusal{0, api.ErrForm}, api.ErrForm) {
		t.Error("a refusal does not wrap its number")
	}
}
