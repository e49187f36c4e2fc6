package diff

import (
	"math"
	"slices"
	"strings"
	"testing"

	"emender/api"
	"emender/flat"
	"emender/sample"
	"emender/step"
)

// The limits that the chapter names.
const (
	fullTokens = 400
	fullBlocks = 200
)

// likes are tokens of which each is another than all others, some of them by one field, some of them wrong.
var likes = []api.Token{
	{}, {N: 'x'}, {N: 'x', M: 1}, {N: 'x', M: 2}, {N: 'x', T: 1}, {N: -1}, {N: math.MaxInt}, {N: 1<<32 + 'x'},
	{K: api.TOpen}, {K: api.TOpen, T: 1}, {K: api.TOpen, T: 2}, {K: api.TOpen, T: 2, N: 1}, {K: api.TOpen, T: 2, N: 2},
	{K: api.TClose}, {K: api.TLeaf, T: 1}, {K: 9}, {K: -1}, {K: math.MinInt, T: math.MinInt, N: math.MinInt, M: math.MinInt},
}

// each goes over all pairs of texts of at most so many letters of an alphabet.
func each(alphabet string, mostA int, mostB int, do func(a, b string)) {
	letters := strings.Split(alphabet, "")
	for _, a := range sample.Texts(letters, mostA) {
		for _, b := range sample.Texts(letters, mostB) {
			do(a, b)
		}
	}
}

// mixed answers a text of n letters of an alphabet in no plain order.
func mixed(seed uint32, n int, alphabet string) string {
	var s strings.Builder
	for _, i := range sample.Mixed(seed, n, len(alphabet)) {
		s.WriteByte(alphabet[i])
	}
	return s.String()
}

// endsOf looks for the ends as texts.
func endsOf(a, b string) (int, int) {
	first := 0
	for n := range len(a) + 1 {
		if strings.HasPrefix(b, a[:n]) {
			first = n
		}
	}
	a, b = a[first:], b[first:]
	last := 0
	for n := range len(a) + 1 {
		if strings.HasSuffix(b, a[len(a)-n:]) {
			last = n
		}
	}
	return first, last
}

func TestP23_1Ends(t *testing.T) {
	for _, c := range []struct {
		a, b        string
		first, last int
	}{
		{"", "", 0, 0},
		{"", "a", 0, 0},
		{"a", "", 0, 0},
		{"a", "a", 1, 0},
		{"abc", "abc", 3, 0},
		{"abxc", "abyyc", 2, 1},
		{"aaa", "aa", 2, 0},
		{"aa", "aaa", 2, 0},
		{"abab", "ab", 2, 0},
		{"bab", "b", 1, 0},
		{"cab", "ab", 0, 2},
		{"ab", "cab", 0, 2},
		{"axa", "aya", 1, 1},
		{"axa", "aa", 1, 1},
		{"ab", "ba", 0, 0},
		{"!x!", "!!", 1, 1},
		{"<a>)", "<b>)", 1, 2},
	} {
		if first, last := Ends(sample.Tokens(c.a), sample.Tokens(c.b)); first != c.first || last != c.last {
			t.Errorf("Ends(%s, %s): %d, %d", c.a, c.b, first, last)
		}
	}
	each("ab", 7, 7, func(a, b string) {
		wantFirst, wantLast := endsOf(a, b)
		if first, last := Ends(sample.Tokens(a), sample.Tokens(b)); first != wantFirst || last != wantLast {
			t.Errorf("Ends(%s, %s): %d, %d, want %d, %d", a, b, first, last, wantFirst, wantLast)
		}
	})
}

func TestP23_1EndsOfMany(t *testing.T) {
	a := make([]api.Token, 1<<18)
	b := slices.Clone(a)
	if first, last := Ends(a, b); first != len(a) || last != 0 {
		t.Errorf("of the same: %d, %d", first, last)
	}
	b[1000].N = 1
	if first, last := Ends(a, b); first != 1000 || last != len(a)-1001 {
		t.Errorf("of one other: %d, %d", first, last)
	}
	if first, last := Ends(a, b[:2000]); first != 1000 || last != 999 {
		t.Errorf("of fewer: %d, %d", first, last)
	}
}

func TestP23_1AllFieldsCount(t *testing.T) {
	for i, x := range likes {
		for j, y := range likes {
			a, b := []api.Token{x}, []api.Token{y}
			same := 0
			if i == j {
				same = 1
			}
			if first, last := Ends(a, b); first != same || last != 0 {
				t.Errorf("Ends(%v, %v): %d, %d", x, y, first, last)
			}
			if l, e := Pairs(a, b); len(l) != same || e != api.OK {
				t.Errorf("Pairs(%v, %v): %v, %d", x, y, l, e)
			}
			if l, e := Edits(a, b); len(l) != 1-same || e != api.OK {
				t.Errorf("Edits(%v, %v): %v, %d", x, y, l, e)
			}
		}
	}
}

// allPairs answers all pairs of a and b, those that are not the longest too, of places from i and j on.
func allPairs(a, b string, i, j int) [][][2]int {
	all := [][][2]int{nil}
	for x := i; x < len(a); x++ {
		for y := j; y < len(b); y++ {
			if a[x] != b[y] {
				continue
			}
			for _, more := range allPairs(a, b, x+1, y+1) {
				all = append(all, append([][2]int{{x, y}}, more...))
			}
		}
	}
	return all
}

// before tells whether x is to be taken ahead of y: it is longer, or as long and less.
func before(x, y [][2]int) bool {
	if len(x) != len(y) {
		return len(x) > len(y)
	}
	return slices.CompareFunc(x, y, func(p, q [2]int) int { return slices.Compare(p[:], q[:]) }) < 0
}

// pairsOf takes the pairs out of all.
func pairsOf(a, b string) [][2]int {
	var best [][2]int
	for _, l := range allPairs(a, b, 0, 0) {
		if before(l, best) {
			best = l
		}
	}
	return best
}

// pairsByRest takes the pairs as the best of those with a first pair and those without, for longer texts than pairsOf.
func pairsByRest(a, b string) [][2]int {
	best := make([][][2]int, len(b)+1) // of a from i on, and of b from j on
	for i := len(a) - 1; i >= 0; i-- {
		next := make([][][2]int, len(b)+1)
		for j := len(b) - 1; j >= 0; j-- {
			next[j] = best[j]
			if before(next[j+1], next[j]) {
				next[j] = next[j+1]
			}
			if with := append([][2]int{{i, j}}, best[j+1]...); a[i] == b[j] && before(with, next[j]) {
				next[j] = with
			}
		}
		best = next
	}
	return best[0]
}

func TestP23_1Pairs(t *testing.T) {
	for _, c := range []struct {
		a, b string
		want [][2]int
	}{
		{"", "", nil},
		{"", "a", nil},
		{"a", "", nil},
		{"a", "b", nil},
		{"a", "a", [][2]int{{0, 0}}},
		{"abc", "bcd", [][2]int{{1, 0}, {2, 1}}},
		{"ab", "ba", [][2]int{{0, 1}}},
		{"aa", "a", [][2]int{{0, 0}}},
		{"a", "aa", [][2]int{{0, 0}}},
		{"aab", "ab", [][2]int{{0, 0}, {2, 1}}},
		{"ab", "aab", [][2]int{{0, 0}, {1, 2}}},
		{"abab", "baba", [][2]int{{0, 1}, {1, 2}, {2, 3}}},
		{"xab", "abx", [][2]int{{1, 0}, {2, 1}}},
		{"abcd", "cdab", [][2]int{{0, 2}, {1, 3}}},
		{"!a!", "!b!", [][2]int{{0, 0}, {2, 2}}},
		{"<a><b>", "<b>", [][2]int{{0, 0}, {4, 1}, {5, 2}}},
		{"b", "B", nil},
	} {
		if l, e := Pairs(sample.Tokens(c.a), sample.Tokens(c.b)); !slices.Equal(l, c.want) || e != api.OK {
			t.Errorf("Pairs(%s, %s): %v, %d, want %v", c.a, c.b, l, e, c.want)
		}
	}
}

// isPairs holds what Pairs answers against what is wanted.
func isPairs(t *testing.T, a, b string, want [][2]int) {
	t.Helper()
	if l, e := Pairs(sample.Tokens(a), sample.Tokens(b)); !slices.Equal(l, want) || e != api.OK {
		t.Errorf("Pairs(%s, %s): %v, %d, want %v", a, b, l, e, want)
	}
}

func TestP23_1PairsOfAllShort(t *testing.T) {
	each("ab", 5, 5, func(a, b string) { isPairs(t, a, b, pairsOf(a, b)) })
	each("abc", 4, 4, func(a, b string) { isPairs(t, a, b, pairsOf(a, b)) })
	each("ab", 7, 7, func(a, b string) { isPairs(t, a, b, pairsByRest(a, b)) })
	each("abcd", 4, 4, func(a, b string) { isPairs(t, a, b, pairsByRest(a, b)) })
}

func TestP23_1PairsOfLong(t *testing.T) {
	for seed := range uint32(60) {
		alphabet := "abcdefghijkl"[:1+seed%12]
		a, b := mixed(seed, int(seed), alphabet), mixed(seed+1000, 70-int(seed), alphabet)
		isPairs(t, a, b, pairsByRest(a, b))
	}
	a, b := mixed(1, fullTokens, "abcdef"), mixed(2, fullTokens, "abcdef")
	isPairs(t, a, b, pairsByRest(a, b))
}

func TestP23_1AtTheLimit(t *testing.T) {
	full := sample.Tokens(mixed(3, fullTokens, "abc"))
	over := sample.Tokens(mixed(3, fullTokens+1, "abc"))
	var all [][2]int
	for i := range fullTokens {
		all = append(all, [2]int{i, i})
	}
	if l, e := Pairs(full, full); !slices.Equal(l, all) || e != api.OK {
		t.Errorf("Pairs of what has no more: %v, %d", l, e)
	}
	if l, e := Edits(full, full); len(l) != 0 || e != api.OK {
		t.Errorf("Edits of what has no more: %v, %d", l, e)
	}
	if l, e := Edits(full, nil); !slices.Equal(l, []api.Range{{Old: fullTokens}}) || e != api.OK {
		t.Errorf("Edits of what has no more, and nothing: %v, %d", l, e)
	}
	for _, c := range [][2][]api.Token{
		{over, nil}, {nil, over}, {over, full}, {full, over}, {over, over}, {make([]api.Token, 1<<20), nil}, {nil, make([]api.Token, 1<<20)},
	} {
		if l, e := Pairs(c[0], c[1]); l != nil || e != api.ErrLong {
			t.Errorf("Pairs of %d and %d: %v, %d", len(c[0]), len(c[1]), l, e)
		}
		if l, e := Edits(c[0], c[1]); l != nil || e != api.ErrLong {
			t.Errorf("Edits of %d and %d: %v, %d", len(c[0]), len(c[1]), l, e)
		}
	}
}

// editsOf tells what is between pairs token by token: each lengthens the range that ends where it stands.
func editsOf(a, b string, pairs [][2]int) []api.Range {
	var l []api.Range
	i, j := 0, 0
	lengthen := func(old, new int) {
		last := len(l) - 1
		if last < 0 || l[last].At+l[last].Old != i {
			l = append(l, api.Range{At: i})
			last++
		}
		l[last].Old += old
		l[last].New += new
	}
	for i < len(a) || j < len(b) {
		switch {
		case slices.Contains(pairs, [2]int{i, j}):
			i, j = i+1, j+1
		case slices.ContainsFunc(pairs, func(p [2]int) bool { return p[0] == i }) || i == len(a):
			lengthen(0, 1)
			j++
		default:
			lengthen(1, 0)
			i++
		}
	}
	return l
}

func isEdits(t *testing.T, a, b string, want []api.Range) {
	t.Helper()
	if l, e := Edits(sample.Tokens(a), sample.Tokens(b)); !slices.Equal(l, want) || e != api.OK {
		t.Errorf("Edits(%s, %s): %v, %d, want %v", a, b, l, e, want)
	}
}

func TestP23_1Edits(t *testing.T) {
	isEdits(t, "", "", nil)
	isEdits(t, "ab", "ab", nil)
	isEdits(t, "", "ab", []api.Range{{New: 2}})
	isEdits(t, "ab", "", []api.Range{{Old: 2}})
	isEdits(t, "ab", "cde", []api.Range{{Old: 2, New: 3}})
	isEdits(t, "abc", "bcd", []api.Range{{Old: 1}, {At: 3, New: 1}})
	isEdits(t, "ab", "ba", []api.Range{{New: 1}, {At: 1, Old: 1}})
	isEdits(t, "xxayyb", "aczb", []api.Range{{Old: 2}, {At: 3, Old: 2, New: 2}})
	isEdits(t, "abcdef", "bxd", []api.Range{{Old: 1}, {At: 2, Old: 1, New: 1}, {At: 4, Old: 2}})
	isEdits(t, "acegi", "abcdefghi", []api.Range{{At: 1, New: 1}, {At: 2, New: 1}, {At: 3, New: 1}, {At: 4, New: 1}})
	isEdits(t, "<a>", "!a!", []api.Range{{Old: 1, New: 1}, {At: 2, Old: 1, New: 1}})
	each("abc", 5, 4, func(a, b string) { isEdits(t, a, b, editsOf(a, b, pairsByRest(a, b))) })
	each("ab", 7, 6, func(a, b string) { isEdits(t, a, b, editsOf(a, b, pairsByRest(a, b))) })
}

// TestP23_1EditsMakeB: with each range of a put in place from b, a is b.
func TestP23_1EditsMakeB(t *testing.T) {
	for seed := range uint32(40) {
		a, b := mixed(seed, fullTokens-int(seed), "abcde"), mixed(seed+500, 300+int(seed), "abcde")
		l, e := Edits(sample.Tokens(a), sample.Tokens(b))
		made, i := "", 0
		for _, r := range l {
			made += a[i:r.At]
			made += b[len(made) : len(made)+r.New]
			i = r.At + r.Old
		}
		if made+a[i:] != b || e != api.OK {
			t.Errorf("of %s the edits make %s, want %s, %d", a, made+a[i:], b, e)
		}
	}
}

// documents are all documents of at most most pieces of a text.
func documents(pieces string, most int) []string {
	var l []string
	for _, s := range sample.Texts(strings.Split(pieces, ""), most) {
		if _, e := flat.Check(sample.Tokens(s)); e == api.OK {
			l = append(l, s)
		}
	}
	return l
}

// patchOf tells the step between the ends.
func patchOf(a, b string) api.Step {
	first, last := endsOf(a, b)
	return sample.Replace(first, len(a)-last, b[first:len(b)-last])
}

func isPatch(t *testing.T, a, b string, want api.Step) {
	t.Helper()
	s, e := Patch(sample.Tokens(a), sample.Tokens(b))
	if !step.Same(s, want) || e != api.OK {
		t.Errorf("Patch(%s, %s): %v, %d, want %v", a, b, s, e, want)
	}
	if l, e := step.Apply(sample.Tokens(a), s); !flat.Same(l, sample.Tokens(b)) || e != api.OK {
		t.Errorf("Patch(%s, %s) makes %v, %d", a, b, l, e)
	}
}

func TestP23_2Patch(t *testing.T) {
	isPatch(t, "", "", sample.Replace(0, 0, ""))
	isPatch(t, "<a>", "<a>", sample.Replace(3, 3, ""))
	isPatch(t, "", "<a>", sample.Replace(0, 0, "<a>"))
	isPatch(t, "<a>", "", sample.Replace(0, 3, ""))
	isPatch(t, "<a>", "<ab>", sample.Replace(2, 2, "b"))
	isPatch(t, "<axb>", "<ab>", sample.Replace(2, 3, ""))
	isPatch(t, "<axb>", "<ayyb>", sample.Replace(2, 3, "yy"))
	isPatch(t, "<a>", "(<a>)", sample.Replace(0, 2, "(<a>")) // all that ends is one token
	isPatch(t, "<a>", "<a><a>", sample.Replace(3, 3, "<a>"))
	isPatch(t, "<a><b>", "<ab>", sample.Replace(2, 4, ""))
	isPatch(t, "<b>", "<B>", sample.Replace(1, 2, "B"))
	isPatch(t, "<a>_", "#a'_", sample.Replace(0, 1, "#"))
	all := documents("<a>_", 5)
	for _, a := range all {
		for _, b := range all {
			isPatch(t, a, b, patchOf(a, b))
		}
	}
}

// faults are what is no document, and flat's error of it.
func faults() []struct {
	l []api.Token
	e api.Errno
} {
	return []struct {
		l []api.Token
		e api.Errno
	}{
		{sample.Tokens("<"), api.ErrShort},
		{sample.Tokens(">"), api.ErrForm},
		{sample.Tokens("<a!>"), api.ErrForm},
		{[]api.Token{{K: 9}}, api.ErrForm},
		{make([]api.Token, api.MaxDoc+1), api.ErrLong},
		{sample.Tokens(strings.Repeat("(", api.MaxDeep+1)), api.ErrDeep},
	}
}

func TestFaultsOfDocuments(t *testing.T) {
	refused := func(a, b []api.Token, want api.Errno) {
		t.Helper()
		if s, e := Patch(a, b); !step.Same(s, api.Step{}) || e != want {
			t.Errorf("Patch(%.40v, %.40v): %v, %d, want %d", a, b, s, e, want)
		}
		if l, e := Rows(a, b); l != nil || e != want {
			t.Errorf("Rows(%.40v, %.40v): %v, %d, want %d", a, b, l, e, want)
		}
	}
	long := sample.Tokens(strings.Repeat("_", fullBlocks+1))
	for _, x := range faults() {
		for _, right := range [][]api.Token{nil, sample.Tokens("<a>"), long} {
			refused(x.l, right, x.e)
			refused(right, x.l, x.e)
		}
		for _, y := range faults() {
			refused(x.l, y.l, x.e)
		}
	}
}

// blocksOf answers the blocks of a text and their places: a block ends where nothing is open any more.
func blocksOf(s string) ([]string, []int) {
	var l []string
	var places []int
	from, open := 0, 0
	for i := range s {
		open += strings.Count("<({[#`", s[i:i+1]) - strings.Count(">)}]'", s[i:i+1])
		if open == 0 {
			l, places = append(l, s[from:i+1]), append(places, from)
			from = i + 1
		}
	}
	return l, places
}

// letters writes each block of a and b as a letter, the same ones as the same one.
func letters(a, b []string) (string, string) {
	var known []string
	write := func(l []string) string {
		var s strings.Builder
		for _, one := range l {
			if !slices.Contains(known, one) {
				known = append(known, one)
			}
			s.WriteByte(byte(slices.Index(known, one)))
		}
		return s.String()
	}
	return write(a), write(b)
}

// rowsOf tells the rows: a block of a that is in no pair goes ahead of one of b that comes.
func rowsOf(a, b string) []Row {
	ofA, atA := blocksOf(a)
	ofB, atB := blocksOf(b)
	pairs := pairsByRest(letters(ofA, ofB))
	var l []Row
	i, j := 0, 0
	for i < len(ofA) || j < len(ofB) {
		switch {
		case len(pairs) > 0 && pairs[0] == [2]int{i, j}:
			l = append(l, Row{0, atA[i], atB[j]})
			pairs = pairs[1:]
			i, j = i+1, j+1
		case i < len(ofA) && (len(pairs) == 0 || pairs[0][0] > i):
			l = append(l, Row{1, atA[i], -1})
			i++
		default:
			l = append(l, Row{2, -1, atB[j]})
			j++
		}
	}
	return l
}

func isRows(t *testing.T, a, b string, want []Row) {
	t.Helper()
	if l, e := Rows(sample.Tokens(a), sample.Tokens(b)); !slices.Equal(l, want) || e != api.OK {
		t.Errorf("Rows(%s, %s): %v, %d, want %v", a, b, l, e, want)
	}
}

func TestP23_3Rows(t *testing.T) {
	isRows(t, "", "", nil)
	isRows(t, "<a>", "<a>", []Row{{0, 0, 0}})
	isRows(t, "<a>", "", []Row{{1, 0, -1}})
	isRows(t, "", "<a>", []Row{{2, -1, 0}})
	isRows(t, "<a>", "<b>", []Row{{1, 0, -1}, {2, -1, 0}})
	isRows(t, "<a><b><c>", "<a><x><c><d>", []Row{{0, 0, 0}, {1, 3, -1}, {2, -1, 3}, {0, 6, 6}, {2, -1, 9}})
	isRows(t, "<a><b>", "<b><a>", []Row{{2, -1, 0}, {0, 0, 3}, {1, 3, -1}})
	isRows(t, "<a><b><c>", "<x><y><c>", []Row{{1, 0, -1}, {1, 3, -1}, {2, -1, 0}, {2, -1, 3}, {0, 6, 6}})
	isRows(t, "_<long>_", "_(<long>)_", []Row{{0, 0, 0}, {1, 1, -1}, {2, -1, 1}, {0, 7, 9}})
	isRows(t, "(<a><b>)", "(<a><c>)", []Row{{1, 0, -1}, {2, -1, 0}}) // a block stays with all in it, or not at all
	isRows(t, "<a>", "#a'", []Row{{1, 0, -1}, {2, -1, 0}})
	isRows(t, "<b>", "<B>", []Row{{1, 0, -1}, {2, -1, 0}})
	isRows(t, "ab_", "b_a", []Row{{1, 0, -1}, {0, 1, 0}, {0, 2, 1}, {2, -1, 2}}) // what no TOpen holds is a block alone
	isRows(t, "<><>", "<>", []Row{{0, 0, 0}, {1, 2, -1}})
	isRows(t, "<>", "<><>", []Row{{0, 0, 0}, {2, -1, 2}})
	isRows(t, "[{<a>}{<b>}]", "[{<a>}{<b>}]<a>", []Row{{0, 0, 0}, {2, -1, 12}})
}

func TestP23_3RowsOfAllShort(t *testing.T) {
	all := documents("<a>_", 5)
	for _, a := range all {
		for _, b := range all {
			isRows(t, a, b, rowsOf(a, b))
		}
	}
	pieces := []string{"<>", "<a>", "(<a>)", "_"}
	for _, a := range sample.Texts(pieces, 4) {
		for _, b := range sample.Texts(pieces, 3) {
			isRows(t, a, b, rowsOf(a, b))
		}
	}
}

// longDocument answers n blocks in no plain order, the last of which is so long that the document has all tokens that may be.
func longDocument(seed uint32, n int) string {
	pieces := []string{"<>", "<abc>", "(<ab><c>)", "_", "[{<a>}]", "#a'", "<B>"}
	var s strings.Builder
	for _, i := range sample.Mixed(seed, n-1, len(pieces)) {
		s.WriteString(pieces[i])
	}
	return s.String() + "<" + strings.Repeat("x", api.MaxDoc-2-s.Len()) + ">"
}

func TestP23_3RowsOfLong(t *testing.T) {
	for seed := range uint32(20) {
		a, b := longDocument(seed, fullBlocks-int(seed)), longDocument(seed+100, 1+10*int(seed))
		isRows(t, a, b, rowsOf(a, b))
	}
}

func TestP23_3AtTheLimit(t *testing.T) {
	full, over := strings.Repeat("<>", fullBlocks), strings.Repeat("<>", fullBlocks+1)
	isRows(t, full, full, rowsOf(full, full))
	isRows(t, full, "", rowsOf(full, ""))
	isRows(t, "", full, rowsOf("", full))
	nested := "(" + strings.Repeat("<>", 1000) + ")" // one block, whatever is in it
	isRows(t, nested, full, rowsOf(nested, full))
	for _, c := range [][2]string{{over, ""}, {"", over}, {over, full}, {full, over}, {over, over}, {strings.Repeat("_", api.MaxDoc), nested}} {
		if l, e := Rows(sample.Tokens(c[0]), sample.Tokens(c[1])); l != nil || e != api.ErrLong {
			t.Errorf("Rows(%.20s, %.20s): %v, %d", c[0], c[1], l, e)
		}
	}
}

// TestP23_2AtTheLimit: Patch asks for no more than that both are documents.
func TestP23_2AtTheLimit(t *testing.T) {
	a, b := strings.Repeat("<>", api.MaxDoc/2), strings.Repeat("_", api.MaxDoc)
	isPatch(t, a, b, patchOf(a, b))
	isPatch(t, a, "", patchOf(a, ""))
	isPatch(t, "", b, patchOf("", b))
	isPatch(t, a, a, sample.Replace(api.MaxDoc, api.MaxDoc, ""))
	deep := strings.Repeat("(", api.MaxDeep) + strings.Repeat(")", api.MaxDeep)
	isPatch(t, deep, "()", patchOf(deep, "()"))
}

// follows holds what rows and pairs say of two documents against what they are made of.
func follows(t *testing.T, a, b string) {
	t.Helper()
	l, e := Rows(sample.Tokens(a), sample.Tokens(b))
	ofA, ofB := "", ""
	for _, r := range l {
		if r.Kind != comes {
			ofA += blockAt(a, r.A)
		}
		if r.Kind != goes {
			ofB += blockAt(b, r.B)
		}
		if r.Kind == stays && blockAt(a, r.A) != blockAt(b, r.B) {
			t.Errorf("Rows(%s, %s): %v does not stay", a, b, r)
		}
	}
	if ofA != a || ofB != b || e != api.OK {
		t.Errorf("Rows(%s, %s): %v, %d: of a %s, of b %s", a, b, l, e, ofA, ofB)
	}
}

func blockAt(s string, at int) string {
	l, places := blocksOf(s)
	return l[slices.Index(places, at)]
}

func TestP23_4Follows(t *testing.T) {
	all := documents("<a>_", 5)
	for _, a := range all {
		for _, b := range all {
			follows(t, a, b)
		}
	}
	for seed := range uint32(6) {
		follows(t, longDocument(seed, 150), longDocument(seed+50, 190))
	}
}

func TestP23_4OfTheSameAllStays(t *testing.T) {
	all := documents("<(a)>_", 5)
	all = append(all, longDocument(7, fullBlocks))
	for _, a := range all {
		l, e := Rows(sample.Tokens(a), sample.Tokens(a))
		_, places := blocksOf(a)
		if len(l) != len(places) || e != api.OK {
			t.Errorf("Rows(%s, the same): %v, %d", a, l, e)
		}
		for i, r := range l {
			if r != (Row{A: places[i], B: places[i]}) {
				t.Errorf("Rows(%s, the same): %v", a, l)
			}
		}
		isPatch(t, a, a, sample.Replace(len(a), len(a), ""))
		if len(a) > fullTokens {
			continue
		}
		isEdits(t, a, a, nil)
		if l, _ := Pairs(sample.Tokens(a), sample.Tokens(a)); len(l) != len(a) {
			t.Errorf("Pairs(%s, the same): %v", a, l)
		}
	}
}

// TestNilAndEmpty: they are the same, to each call.
func TestNilAndEmpty(t *testing.T) {
	none := []api.Token{}
	for _, c := range [][2][]api.Token{{nil, nil}, {none, nil}, {nil, none}, {none, none}} {
		if first, last := Ends(c[0], c[1]); first != 0 || last != 0 {
			t.Errorf("Ends: %d, %d", first, last)
		}
		if l, e := Pairs(c[0], c[1]); len(l) != 0 || e != api.OK {
			t.Errorf("Pairs: %v, %d", l, e)
		}
		if l, e := Edits(c[0], c[1]); len(l) != 0 || e != api.OK {
			t.Errorf("Edits: %v, %d", l, e)
		}
		if s, e := Patch(c[0], c[1]); !step.Same(s, api.Step{}) || e != api.OK {
			t.Errorf("Patch: %v, %d", s, e)
		}
		if l, e := Rows(c[0], c[1]); len(l) != 0 || e != api.OK {
			t.Errorf("Rows: %v, %d", l, e)
		}
	}
}

// TestArgumentsStay: no call changes what it is given, the room behind it too, and what is answered is memory of its own.
func TestArgumentsStay(t *testing.T) {
	room := sample.Tokens("<a><b><c>_____")
	a, b := room[:9], sample.Tokens("<a><xyz><c><d>")
	keptRoom, keptB := slices.Clone(room), slices.Clone(b)
	Ends(a, b)
	Pairs(a, b)
	Edits(a, b)
	Rows(a, b)
	s, _ := Patch(a, b)
	for i := range s.Slice {
		s.Slice[i].N = -5
	}
	s.Slice = append(s.Slice, api.Token{N: -6})
	if !slices.Equal(room, keptRoom) || !slices.Equal(b, keptB) {
		t.Errorf("an argument is changed: %v, %v", room, b)
	}
	if again, _ := Patch(a, b); !step.Same(again, patchOf("<a><b><c>", "<a><xyz><c><d>")) {
		t.Errorf("Patch again: %v", again)
	}
}
