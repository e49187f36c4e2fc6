package flat

import (
	"math"
	"slices"
	"strings"
	"testing"

	"emender/api"
)

// tokens reads a text: ( opens a quote, < a para, ) and > end, _ is a rule, ? of no kind; others are themselves.
func tokens(s string) []api.Token {
	var l []api.Token
	for _, c := range s {
		switch c {
		case '(':
			l = append(l, api.Token{K: api.TOpen, T: api.Quote})
		case '<':
			l = append(l, api.Token{K: api.TOpen, T: api.Para})
		case ')', '>':
			l = append(l, api.Token{K: api.TClose})
		case '_':
			l = append(l, api.Token{K: api.TLeaf, T: api.Rule})
		case '?':
			l = append(l, api.Token{K: 7})
		default:
			l = append(l, api.Token{N: int(c)})
		}
	}
	return l
}

// rows answers all texts of at most most letters of alphabet.
func rows(alphabet string, most int) []string {
	all := []string{""}
	last := all
	for range most {
		var next []string
		for _, s := range last {
			for _, c := range alphabet {
				next = append(next, s+string(c))
			}
		}
		all = append(all, next...)
		last = next
	}
	return all
}

// balanced tells whether s ends all that it opens, and nothing else.
func balanced(s string) bool {
	open := 0
	for _, c := range s {
		open += strings.Count("(<", string(c)) - strings.Count(")>", string(c))
		if open < 0 {
			return false
		}
	}
	return open == 0
}

// partnerOf looks for the partner as the one with which all between is balanced.
func partnerOf(s string, i int) int {
	for j := range s {
		first, last := min(i, j), max(i, j)
		if first != last && strings.Contains("(<", s[first:first+1]) && strings.Contains(")>", s[last:last+1]) && balanced(s[first+1:last]) {
			return j
		}
	}
	return -1
}

// openOf lists the places of what is open at at: what is opened ahead of it and not ended ahead of it.
func openOf(s string, at int) []int {
	var l []int
	for i := range max(0, min(at, len(s))) {
		if p := partnerOf(s, i); s[i] == '(' && (p < 0 || p >= at) {
			l = append(l, i)
		}
	}
	return l
}

func aroundOf(s string, at int) int {
	l := openOf(s, at)
	if len(l) == 0 {
		return -1
	}
	return l[len(l)-1]
}

func kidsOf(s string, i int) []int {
	var l []int
	for j := range s {
		if strings.Contains("(x_", s[j:j+1]) && aroundOf(s, j) == i {
			l = append(l, j)
		}
	}
	return l
}

var farOff = []int{math.MinInt, math.MinInt + 1, -1000, math.MaxInt - 1, math.MaxInt}

var right = []api.Token{
	{},
	{N: 'x'}, {N: 'x', M: 1}, {N: 'x', M: 2}, {N: 'x', M: 3}, {N: 'x', M: 4},
	{N: '\n'}, {N: 0xD7FF}, {N: 0xE000}, {N: 0xFFFD}, {N: 0xFFFF}, {N: 0x10000}, {N: 0x10FFFF},
	{K: api.TOpen, T: 1}, {K: api.TOpen, T: 15}, {K: api.TOpen, T: 1, N: 15}, {K: api.TOpen, T: 15, N: 7},
	{K: api.TLeaf, T: 1}, {K: api.TLeaf, T: 15}, {K: api.TLeaf, T: 1, N: 15}, {K: api.TLeaf, T: 15, N: 7},
	{K: api.TClose},
}

var wrong = []api.Token{
	{N: -1}, {N: 0xD800}, {N: 0xDABC}, {N: 0xDFFF}, {N: 0x110000}, {N: math.MinInt}, {N: math.MaxInt},
	{N: 1<<32 + 'x'}, {N: -1<<32 + 'x'},
	{N: 'x', T: 1}, {N: 'x', T: -1}, {N: 'x', T: 15},
	{N: 'x', M: -1}, {N: 'x', M: 5}, {N: 'x', M: 6}, {N: 'x', M: 7}, {N: 'x', M: 8},
	{K: api.TOpen}, {K: api.TOpen, T: 16}, {K: api.TOpen, T: -1}, {K: api.TOpen, T: math.MinInt}, {K: api.TOpen, T: math.MaxInt},
	{K: api.TOpen, T: 1, N: 16}, {K: api.TOpen, T: 1, N: -1}, {K: api.TOpen, T: 1, N: math.MaxInt},
	{K: api.TOpen, T: 1, M: 1}, {K: api.TOpen, T: 1, M: -1},
	{K: api.TLeaf}, {K: api.TLeaf, T: 16}, {K: api.TLeaf, T: -1},
	{K: api.TLeaf, T: 1, N: 16}, {K: api.TLeaf, T: 1, N: -1}, {K: api.TLeaf, T: 1, M: 4},
	{K: api.TClose, T: 1}, {K: api.TClose, N: 1}, {K: api.TClose, M: 1}, {K: api.TClose, T: -1},
	{K: -1}, {K: 4}, {K: 4, T: 1}, {K: math.MinInt}, {K: math.MaxInt},
}

func TestRight(t *testing.T) {
	for _, x := range right {
		if !Right(x) {
			t.Errorf("Right(%v) = false", x)
		}
	}
	for _, x := range wrong {
		if Right(x) {
			t.Errorf("Right(%v) = true", x)
		}
	}
}

func checks(t *testing.T, l []api.Token, place int, want api.Errno) {
	t.Helper()
	if got, e := Check(l); got != place || e != want {
		t.Errorf("Check(%v) = %d, %d; want %d, %d", l, got, e, place, want)
	}
}

func TestP4_1CheckOfOrdinaryTokens(t *testing.T) {
	for _, x := range []struct {
		s     string
		place int
		e     api.Errno
	}{
		{"", 0, api.OK},
		{"x", 1, api.OK},
		{"_", 1, api.OK},
		{"<>", 2, api.OK},
		{"(<ab>_)<c>", 10, api.OK},
		{">", 0, api.ErrForm},
		{"a>", 1, api.ErrForm},
		{"<a>>", 3, api.ErrForm},
		{"<a>><", 3, api.ErrForm},
		{"<a?", 2, api.ErrForm},
		{"<", 1, api.ErrShort},
		{"(<a>", 4, api.ErrShort},
		{"<a><", 4, api.ErrShort},
	} {
		checks(t, tokens(x.s), x.place, x.e)
	}
	checks(t, []api.Token{}, 0, api.OK)
}

func TestP4_1CheckFindsTheFirstWrongToken(t *testing.T) {
	for _, x := range wrong {
		checks(t, []api.Token{x}, 0, api.ErrForm)
		checks(t, slices.Concat(tokens("<a"), []api.Token{x}, tokens("b>>"), []api.Token{x}), 2, api.ErrForm)
	}
}

func TestP4_1CheckOfAllShortRows(t *testing.T) {
	for _, s := range rows("x()_?", 6) {
		place, want := len(s), api.OK
		if !balanced(s) {
			want = api.ErrShort
		}
		for i := range s {
			if s[i] == '?' || s[i] == ')' && partnerOf(s, i) < 0 {
				place, want = i, api.ErrForm
				break
			}
		}
		checks(t, tokens(s), place, want)
	}
}

func TestP4_1CheckLooksHowDeep(t *testing.T) {
	open, end := strings.Repeat("<", api.MaxDeep), strings.Repeat(">", api.MaxDeep)
	checks(t, tokens(open+"x"+end), 2*api.MaxDeep+1, api.OK)
	checks(t, tokens(open+"x_"+end[1:]+"<x>>"+open+end), 4*api.MaxDeep+5, api.OK)
	checks(t, tokens(open+"<x>"+end), api.MaxDeep, api.ErrDeep)
	checks(t, tokens(open+"x<"), api.MaxDeep+1, api.ErrDeep)
	checks(t, tokens(open), api.MaxDeep, api.ErrShort)
}

func TestP4_1CheckTellsWhatComesFirst(t *testing.T) {
	open := strings.Repeat("<", api.MaxDeep)
	checks(t, tokens(open+"?<"), api.MaxDeep, api.ErrForm)
	checks(t, tokens(open+"<?"), api.MaxDeep, api.ErrDeep)
	checks(t, append(tokens(open), api.Token{K: api.TOpen}), api.MaxDeep, api.ErrForm)
	checks(t, tokens(">"+open+"<"), 0, api.ErrForm)
}

func TestP4_1CheckLooksHowLong(t *testing.T) {
	full := strings.Repeat("x", api.MaxDoc)
	checks(t, tokens(full), api.MaxDoc, api.OK)
	checks(t, tokens("<"+full[2:]+">"), api.MaxDoc, api.OK)
	checks(t, tokens(full[1:]+">"), api.MaxDoc-1, api.ErrForm)
	checks(t, tokens(full[1:]+"<"), api.MaxDoc, api.ErrShort)
	checks(t, tokens(full+"x"), 0, api.ErrLong)
	checks(t, tokens(">"+full), 0, api.ErrLong)
	checks(t, tokens("?"+full+"<"), 0, api.ErrLong)
	checks(t, tokens(strings.Repeat("<", api.MaxDoc+1)), 0, api.ErrLong)
}

func TestP4_2OrdinaryPlaces(t *testing.T) {
	l := tokens("(<ab>_)<c>")
	deep := []int{0, 1, 2, 2, 2, 1, 1, 0, 1, 1, 0}
	around := []int{-1, 0, 1, 1, 1, 0, 0, -1, 7, 7, -1}
	for at := range deep {
		if got := Deep(l, at); got != deep[at] {
			t.Errorf("Deep at %d = %d, want %d", at, got, deep[at])
		}
		if got := Around(l, at); got != around[at] {
			t.Errorf("Around at %d = %d, want %d", at, got, around[at])
		}
	}
	for i, want := range []int{6, 4, -1, -1, 1, -1, 0, 9, -1, 7} {
		if got := Partner(l, i); got != want {
			t.Errorf("Partner of %d = %d, want %d", i, got, want)
		}
	}
	for i, want := range [][]int{{0, 7}, {1, 5}, {2, 3}, nil, nil, nil, nil, nil, {8}, nil, nil} {
		if got := Kids(l, i-1); !slices.Equal(got, want) {
			t.Errorf("Kids of %d = %v, want %v", i-1, got, want)
		}
	}
}

// TestP4_2AllShortRows holds the calls against what the words say, at all places and just beyond.
func TestP4_2AllShortRows(t *testing.T) {
	for _, s := range rows("x()_?", 6) {
		l := tokens(s)
		for at := -2; at <= len(s)+2; at++ {
			deep, around, partner := 0, -1, -1
			if 0 <= at && at <= len(s) {
				deep, around = len(openOf(s, at)), aroundOf(s, at)
			}
			if 0 <= at && at < len(s) {
				partner = partnerOf(s, at)
			}
			if got := Deep(l, at); got != deep {
				t.Fatalf("Deep(%q, %d) = %d, want %d", s, at, got, deep)
			}
			if got := Around(l, at); got != around {
				t.Fatalf("Around(%q, %d) = %d, want %d", s, at, got, around)
			}
			if got := Partner(l, at); got != partner {
				t.Fatalf("Partner(%q, %d) = %d, want %d", s, at, got, partner)
			}
		}
		for i := -2; i <= len(s)+1; i++ {
			var want []int
			if i == -1 || 0 <= i && i < len(s) && s[i] == '(' {
				want = kidsOf(s, i)
			}
			if got := Kids(l, i); !slices.Equal(got, want) {
				t.Fatalf("Kids(%q, %d) = %v, want %v", s, i, got, want)
			}
		}
	}
}

func TestP4_2PlacesFarOff(t *testing.T) {
	for _, s := range []string{"", "x", "<x>", "<x", ">x"} {
		l := tokens(s)
		for _, at := range farOff {
			if Deep(l, at) != 0 || Around(l, at) != -1 || Partner(l, at) != -1 || len(Kids(l, at)) != 0 {
				t.Errorf("%q at %d: %d, %d, %d, %v", s, at, Deep(l, at), Around(l, at), Partner(l, at), Kids(l, at))
			}
		}
	}
}

// TestP4_2DeeperAndLongerThanDocuments tries tokens that are no document, as they are above both limits.
func TestP4_2DeeperAndLongerThanDocuments(t *testing.T) {
	for _, n := range []int{api.MaxDeep - 1, api.MaxDeep, api.MaxDeep + 1, 2*api.MaxDeep + 1, 1000, api.MaxDoc + 5} {
		l := tokens(strings.Repeat("<", n) + "x" + strings.Repeat(">", n+3) + "<y>")
		for _, i := range []int{0, 1, n / 2, n - 2, n - 1} {
			if got := Partner(l, i); got != 2*n-i {
				t.Errorf("%d deep: Partner of %d = %d", n, i, got)
			}
			if got := Partner(l, 2*n-i); got != i {
				t.Errorf("%d deep: Partner of %d = %d", n, 2*n-i, got)
			}
			if Deep(l, i+1) != i+1 || Around(l, i+1) != i || Deep(l, 2*n-i) != i+1 || Around(l, 2*n-i) != i {
				t.Errorf("%d deep: %d, %d at %d; %d, %d at %d", n, Deep(l, i+1), Around(l, i+1), i+1, Deep(l, 2*n-i), Around(l, 2*n-i), 2*n-i)
			}
			if got := Kids(l, i); !slices.Equal(got, []int{i + 1}) {
				t.Errorf("%d deep: Kids of %d = %v", n, i, got)
			}
		}
		if got := Kids(l, -1); !slices.Equal(got, []int{0, 2*n + 4}) {
			t.Errorf("%d deep: Kids of -1 = %v", n, got)
		}
		if Deep(l, 2*n+4) != 0 || Around(l, 2*n+5) != 2*n+4 || Partner(l, 2*n+1) != -1 {
			t.Errorf("%d deep: behind all: %d, %d, %d", n, Deep(l, 2*n+4), Around(l, 2*n+5), Partner(l, 2*n+1))
		}
	}
}

// TestP4_2KindsCount tells that what is not right opens, ends and stands all the same, by its kind.
func TestP4_2KindsCount(t *testing.T) {
	l := []api.Token{{K: api.TOpen, T: 99}, {N: -5}, {K: api.TLeaf, M: 9}, {K: 9}, {K: api.TClose, N: 4}}
	if Deep(l, 2) != 1 || Around(l, 2) != 0 || Partner(l, 0) != 4 || Partner(l, 4) != 0 {
		t.Errorf("%d, %d, %d, %d", Deep(l, 2), Around(l, 2), Partner(l, 0), Partner(l, 4))
	}
	if got := Kids(l, 0); !slices.Equal(got, []int{1, 2}) {
		t.Errorf("Kids = %v", got)
	}
}

func TestP4_3Cut(t *testing.T) {
	l := tokens("(<ab>_)")
	for from := -2; from <= len(l)+2; from++ {
		for to := -2; to <= len(l)+2; to++ {
			got, e := Cut(l, from, to)
			if from < 0 || from > to || to > len(l) {
				if e != api.ErrArg || len(got) != 0 {
					t.Errorf("Cut from %d to %d = %v, %d", from, to, got, e)
				}
			} else if e != api.OK || !slices.Equal(got, l[from:to]) {
				t.Errorf("Cut from %d to %d = %v, %d", from, to, got, e)
			}
		}
	}
	for _, n := range farOff {
		for _, at := range []int{0, n} {
			if got, e := Cut(l, at, n); e != api.ErrArg || got != nil {
				t.Errorf("Cut from %d to %d = %v, %d", at, n, got, e)
			}
		}
	}
	if got, e := Cut(nil, 0, 0); len(got) != 0 || e != api.OK {
		t.Errorf("Cut of nothing = %v, %d", got, e)
	}
	if _, e := Cut(nil, 0, 1); e != api.ErrArg {
		t.Errorf("Cut behind nothing: %d", e)
	}
}

func TestP4_3CutIsNewMemory(t *testing.T) {
	l := tokens("<abc>")
	got, _ := Cut(l, 1, 3)
	got[0].N = 'z'
	got = append(got, api.Token{N: 'y'})
	if len(got) != 3 || !slices.Equal(l, tokens("<abc>")) {
		t.Errorf("what was cut has become %v", l)
	}
}

func TestP4_3Text(t *testing.T) {
	for _, x := range []struct {
		l    []api.Token
		want string
	}{
		{nil, ""},
		{[]api.Token{}, ""},
		{tokens("(<ab>_)<c>"), "abc"},
		{tokens("><x"), "x"},
		{tokens("zü€\U0001F600\n"), "zü€\U0001F600\n"},
		{[]api.Token{{}, {N: 0x7F}, {N: 0x80}, {N: 0x7FF}, {N: 0x800}}, "\x00\x7f\u0080\u07ff\u0800"},
		{[]api.Token{{N: 0xD7FF}, {N: 0xE000}, {N: 0xFFFD}, {N: 0xFFFF}, {N: 0x10000}, {N: 0x10FFFF}}, "\ud7ff\ue000\ufffd\uffff\U00010000\U0010ffff"},
		{[]api.Token{{N: 'a', M: 3}, {N: 'b', M: 4}, {N: 'c', M: 5}, {N: 'd', T: 1}}, "ab"},
		{wrong, ""},
		{[]api.Token{{K: api.TLeaf, T: 1, N: 9}, {K: api.TOpen, T: 1, N: 10}, {K: 4, N: 'x'}}, ""},
	} {
		if got := Text(x.l); got != x.want {
			t.Errorf("Text(%v) = %q, want %q", x.l, got, x.want)
		}
	}
}

func TestP4_3Same(t *testing.T) {
	all := rows("x(>", 3)
	for _, a := range all {
		for _, b := range all {
			if got := Same(tokens(a), tokens(b)); got != (a == b) {
				t.Errorf("Same(%q, %q) = %v", a, b, got)
			}
		}
	}
	if !Same(nil, []api.Token{}) || !Same([]api.Token{}, nil) || !Same(wrong, slices.Clone(wrong)) {
		t.Errorf("the same tokens are told as others")
	}
}

func TestP4_3SameLooksAtAllFields(t *testing.T) {
	one := api.Token{K: 1, T: 2, N: 3, M: 4}
	for _, other := range []api.Token{{K: 0, T: 2, N: 3, M: 4}, {K: 1, T: 1, N: 3, M: 4}, {K: 1, T: 2, N: 2, M: 4}, {K: 1, T: 2, N: 3, M: 3}} {
		if Same([]api.Token{one, one}, []api.Token{one, other}) {
			t.Errorf("Same: %v, %v", one, other)
		}
	}
}

// TestP4_4PartnersOfDocuments goes over all short documents, and over one that is as deep and as long as may be.
func TestP4_4PartnersOfDocuments(t *testing.T) {
	deepest := strings.Repeat("<", api.MaxDeep) + strings.Repeat(">", api.MaxDeep)
	for _, s := range append(rows("x(>", 8), strings.Repeat(deepest, api.MaxDoc/len(deepest))) {
		l := tokens(s)
		if _, e := Check(l); e != api.OK {
			continue
		}
		for i, x := range l {
			p := Partner(l, i)
			switch x.K {
			case api.TOpen:
				if p <= i || l[p].K != api.TClose || Partner(l, p) != i {
					t.Fatalf("%q: the partner of %d is %d", s, i, p)
				}
			case api.TClose:
				if p < 0 || p >= i || l[p].K != api.TOpen || Partner(l, p) != i {
					t.Fatalf("%q: the partner of %d is %d", s, i, p)
				}
			}
		}
	}
}

func TestWhatIsHandedInStays(t *testing.T) {
	l := slices.Concat(tokens("(<ab>_)>?<c"), wrong)
	before := slices.Clone(l)
	Check(l)
	Text(l)
	Same(l, before)
	for i := -1; i <= len(l); i++ {
		Deep(l, i)
		Partner(l, i)
		Around(l, i)
		Kids(l, i)
		Cut(l, 0, i)
	}
	if !slices.Equal(l, before) {
		t.Errorf("the tokens have become %v", l)
	}
}
