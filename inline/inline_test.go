package inline

import (
	"math"
	"slices"
	"strings"
	"testing"
	"unicode/utf8"

	"emender/api"
	"emender/flat"
	"emender/sample"
)

// text answers the tokens of s, each with the set that marks has below it.
func text(s string, marks string) []api.Token {
	var l []api.Token
	for i, r := range []rune(s) {
		l = append(l, api.Token{N: int(r), M: int(marks[i] - '0')})
	}
	return l
}

// plainParse reads a line as the chapter tells it, piece by piece.
func plainParse(s string) []api.Token {
	var l []api.Token
	strong, em, code := false, false, false
	set := func() int {
		n := 0
		if strong {
			n++
		}
		if em {
			n += 2
		}
		if code {
			n = 4
		}
		return n
	}
	for rest := []rune(s); len(rest) > 0; {
		used := 1
		switch {
		case rest[0] == '\\' && len(rest) == 1:
		case rest[0] == '\\':
			l = append(l, api.Token{N: int(rest[1]), M: set()})
			used = 2
		case rest[0] == '`':
			code = !code
		case !code && len(rest) > 1 && rest[0] == '*' && rest[1] == '*':
			strong = !strong
			used = 2
		case !code && rest[0] == '_':
			em = !em
		default:
			l = append(l, api.Token{N: int(rest[0]), M: set()})
		}
		rest = rest[used:]
	}
	return l
}

// plainPrint writes a line as the chapter tells it, with a token of the set 0 at the end.
func plainPrint(l []api.Token) string {
	s := ""
	was, ahead := 0, 0
	for i := 0; i <= len(l); i++ {
		t := api.Token{}
		if i < len(l) {
			t = l[i]
		}
		if t.M != was {
			if was == 4 {
				s += "`"
			}
			if t.M == 4 {
				s += "`"
				ahead = was
			} else {
				from := was
				if was == 4 {
					from = ahead
				}
				if from&1 != t.M&1 {
					s += "**"
				}
				if from&2 != t.M&2 {
					s += "_"
				}
			}
			was = t.M
		}
		if i == len(l) {
			break
		}
		if strings.ContainsRune("\\`*_", rune(t.N)) {
			s += "\\"
		}
		s += string(rune(t.N))
	}
	return s
}

// parses holds that Parse reads s as want.
func parses(t *testing.T, s string, want []api.Token) {
	t.Helper()
	got, n, e := Parse(s)
	if !flat.Same(got, want) || n != len(s) || e != api.OK {
		t.Errorf("Parse(%q): %v, %d, %d; want %v", s, got, n, e, want)
	}
}

// refuses holds that Parse refuses s at a place.
func refuses(t *testing.T, s string, place int, want api.Errno) {
	t.Helper()
	got, n, e := Parse(s)
	if len(got) != 0 || n != place || e != want {
		t.Errorf("Parse of %d bytes %.20q: %d tokens, %d, %d; want %d, %d", len(s), s, len(got), n, e, place, want)
	}
}

func prints(t *testing.T, l []api.Token, want string) {
	t.Helper()
	if got, e := Print(l); got != want || e != api.OK {
		t.Errorf("Print(%v): %q, %d; want %q", l, got, e, want)
	}
}

func TestP14_1Parse(t *testing.T) {
	for _, x := range []struct{ s, text, marks string }{
		{"", "", ""},
		{"abc", "abc", "000"},
		{"**a**b", "ab", "10"},
		{"_a_b", "ab", "20"},
		{"`a`b", "ab", "40"},
		{"**a_b**c_d", "abcd", "1320"},
		{"_a**b_c**d", "abcd", "2310"},
		{"**_a_**", "a", "3"},
		{"**_a", "a", "3"},
		{"**a`b`c**d", "abcd", "1410"},
		{"**_a`b`c_d**e", "abcde", "34310"},
		{"`**a_b`c", "**a_bc", "444440"},
		{"_`**`**a", "**a", "443"},
		{"``a", "a", "0"},
		{"`a``b`", "ab", "44"},
		{"****a", "a", "0"},
		{"***a", "*a", "11"},
		{"*****a", "*a", "00"},
		{"*a*", "*a*", "000"},
		{"*", "*", "0"},
		{"a*", "a*", "00"},
		{"**", "", ""},
		{"***", "*", "1"},
		{"_", "", ""},
		{"__a", "a", "0"},
		{"`", "", ""},
		{"*_*a", "**a", "022"},
		{"*`*`*", "***", "040"},
		{`\`, "", ""},
		{`a\`, "a", "0"},
		{`\\`, `\`, "0"},
		{`\\\`, `\`, "0"},
		{`\\\\`, `\\`, "00"},
		{`\a`, "a", "0"},
		{`\**a`, "**a", "000"},
		{`*\*a`, "**a", "000"},
		{`\***a`, "*a", "01"},
		{`**\**`, "**", "11"},
		{`\_a_b`, "_ab", "002"},
		{"\\`a`b", "`ab", "004"},
		{"`\\`a\\b\\*\\_\\\\`c", "`ab*_\\c", "4444440"},
		{"`a\\", "a", "4"},
		{"`a\\`", "a`", "44"},
		{`**\é\`, "é", "1"},
		{"é**€_\U0001F600**\uFFFD\x00", "é€\U0001F600\uFFFD\x00", "01322"},
		{"\\\uFFFD\uFFFD", "\uFFFD\uFFFD", "00"},
		{" \t\r\v\u2028\u0085\x7f", " \t\r\v\u2028\u0085\x7f", "0000000"},
	} {
		parses(t, x.s, text(x.text, x.marks))
	}
}

func TestP14_1ParseOfAllShortLines(t *testing.T) {
	for _, s := range sample.Texts([]string{`\`, "`", "*", "_", "a", "€"}, 6) {
		parses(t, s, plainParse(s))
	}
}

func TestP14_1ParseRefusesWhatIsNoLine(t *testing.T) {
	for _, bad := range []string{
		"\n", "\x80", "\xbf", "\xc0", "\xc0\x80", "\xc1\xbf", "\xc2", "\xc2a", "\xff", "\xfe",
		"\xe0\x80\x80", "\xe2", "\xe2\x82", "\xe2\x82a", "\xe2a\x82", "\xef\xbf", "\xef\xbfa", "\xef\xbf\n",
		"\xed\xa0\x80", "\xed\xbf\xbf", "\xf0\x80\x80\x80", "\xf0\x9f\x98", "\xf0\x9f\x98a", "\xf4\x90\x80\x80", "\xf8\x88\x80\x80\x80",
	} {
		for _, ahead := range []string{"", "a", `\`, "`", "**_`a", "€", "\uFFFD", "\U0010FFFF"} {
			for _, behind := range []string{"", "a", "\n", "\xff", "€\n"} {
				if bad == "\n" || !utf8.ValidString(bad+behind) {
					refuses(t, ahead+bad+behind, len(ahead), api.ErrForm)
				}
			}
		}
	}
	refuses(t, "a\n\xff", 1, api.ErrForm)
	refuses(t, "a\xff\n", 1, api.ErrForm)
	refuses(t, "a\r\n", 2, api.ErrForm)
}

func TestP14_1ParseLooksHowLong(t *testing.T) {
	full := strings.Repeat("x", api.MaxText)
	got, n, e := Parse(full)
	if len(got) != api.MaxText || n != api.MaxText || e != api.OK {
		t.Errorf("Parse at the limit: %d tokens, %d, %d", len(got), n, e)
	}
	refuses(t, full+"x", 0, api.ErrLong)
	refuses(t, "\n"+full, 0, api.ErrLong)
	refuses(t, full+"\xff", 0, api.ErrLong)
	refuses(t, full[1:]+"\n", api.MaxText-1, api.ErrForm)
	refuses(t, full[1:]+"\xe2", api.MaxText-1, api.ErrForm)
	wide := strings.Repeat("€", api.MaxText/3)
	if got, n, e := Parse(wide); len(got) != api.MaxText/3 || n != len(wide) || e != api.OK {
		t.Errorf("Parse of wide code points: %d tokens, %d, %d", len(got), n, e)
	}
	refuses(t, wide+"€", 0, api.ErrLong)
}

func TestP14_2Print(t *testing.T) {
	for _, x := range []struct{ text, marks, s string }{
		{"", "", ""},
		{"abc", "000", "abc"},
		{"ab", "10", "**a**b"},
		{"ab", "11", "**ab**"},
		{"ab", "20", "_a_b"},
		{"ab", "40", "`a`b"},
		{"ab", "44", "`ab`"},
		{"a", "3", "**_a**_"},
		{"ab", "12", "**a**_b_"},
		{"ab", "21", "_a**_b**"},
		{"ab", "13", "**a_b**_"},
		{"ab", "31", "**_a_b**"},
		{"ab", "32", "**_a**b_"},
		{"aba", "141", "**a`b`a**"},
		{"abc", "142", "**a`b`**_c_"},
		{"abc", "143", "**a`b`_c**_"},
		{"abc", "140", "**a`b`**c"},
		{"ab", "34", "**_a`b`**_"},
		{"ab", "14", "**a`b`**"},
		{"abc", "341", "**_a`b`_c**"},
		{"abcde", "14240", "**a`b`**_c`d`_e"},
		{"ab", "43", "`a`**_b**_"},
		{`\*_` + "`", "0000", `\\\*\_` + "\\`"},
		{`\*_` + "`", "4444", "`" + `\\\*\_` + "\\``"},
		{"**", "00", `\*\*`},
		{"*a", "10", `**\***a`},
		{"_a", "20", `_\__a`},
		{"#- >", "0000", "#- >"},
		{"é€\U0001F600\uFFFD\x00", "01200", "é**€**_\U0001F600_\uFFFD\x00"},
	} {
		prints(t, text(x.text, x.marks), x.s)
	}
	prints(t, []api.Token{}, "")
	prints(t, []api.Token{{N: 9}, {N: 11}, {N: 13}, {N: 0x10FFFF}, {N: 0xD7FF}, {N: 0xE000}}, "\t\v\r\U0010FFFF\uD7FF\uE000")
}

// alphabet has a code point and one to escape, in all sets.
func alphabet() []api.Token {
	var l []api.Token
	for set := range 5 {
		l = append(l, api.Token{N: 'a', M: set}, api.Token{N: '*', M: set})
	}
	return l
}

func TestP14_2PrintOfAllShortTexts(t *testing.T) {
	for _, l := range sample.Rows(alphabet(), 4) {
		prints(t, l, plainPrint(l))
	}
}

func TestP14_2PrintRefusesWhatIsNoText(t *testing.T) {
	for _, bad := range []api.Token{
		{N: 10}, {N: 10, M: 4},
		{N: -1}, {N: 0xD800}, {N: 0xDFFF}, {N: 0x110000}, {N: 1<<32 + 'x'}, {N: math.MinInt}, {N: math.MaxInt},
		{N: 'x', T: 1}, {N: 'x', T: -1}, {N: 'x', M: -1}, {N: 'x', M: 5}, {N: 'x', M: 6}, {N: 'x', M: 7}, {N: 'x', M: 8},
		{K: api.TOpen, T: api.Para}, {K: api.TOpen}, {K: api.TClose}, {K: api.TLeaf, T: api.Rule}, {K: 4}, {K: -1, N: 'x'},
	} {
		for _, l := range [][]api.Token{{bad}, {{N: 'x'}, bad}, {bad, {N: 'x'}}, {{N: 'x', M: 1}, bad, {N: 'x', M: 4}}} {
			if got, e := Print(l); got != "" || e != api.ErrArg {
				t.Errorf("Print(%v): %q, %d", l, got, e)
			}
		}
	}
}

func TestP14_2PrintHasNoLimit(t *testing.T) {
	prints(t, slices.Repeat([]api.Token{{N: '*'}}, 2*api.MaxText), strings.Repeat(`\*`, 2*api.MaxText))
}

// undone holds that Parse reads what Print writes of l as l.
func undone(t *testing.T, l []api.Token) {
	t.Helper()
	s, e := Print(l)
	if e != api.OK {
		t.Errorf("Print(%v): %d", l, e)
	}
	parses(t, s, l)
}

func TestP14_3ParseUndoesPrint(t *testing.T) {
	for _, l := range sample.Rows(alphabet(), 4) {
		undone(t, l)
	}
	for set := range 5 {
		for _, s := range sample.Texts([]string{`\`, "`", "*", "_", "€"}, 4) {
			l := []api.Token{}
			for _, r := range s {
				l = append(l, api.Token{N: int(r), M: set})
			}
			undone(t, l)
		}
		for n := range 0x110000 {
			if one := (api.Token{N: n, M: set}); n != 10 && flat.Right(one) && (n < 0x3000 || n%251 == 0 || n > 0x10FF00) {
				undone(t, []api.Token{one})
			}
		}
	}
}

func TestNothingIsChangedOrShared(t *testing.T) {
	l := text("a*b", "143")
	was := slices.Clone(l)
	Print(l)
	if !slices.Equal(l, was) {
		t.Errorf("Print changed its argument: %v", l)
	}
	one, _, _ := Parse("**a**")
	two, _, _ := Parse("**a**")
	one[0].N = 'z'
	if two[0].N != 'a' {
		t.Error("two answers of Parse share memory")
	}
}
