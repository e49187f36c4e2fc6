package block

import (
	"math"
	"slices"
	"strings"
	"testing"

	"emender/api"
	"emender/flat"
	"emender/sample"
	"emender/schema"
)

// enclosed answers a block of the type t with n, and what stands in it.
func enclosed(t int, n int, inner ...[]api.Token) []api.Token {
	l := []api.Token{sample.Open(t, n)}
	return append(append(l, slices.Concat(inner...)...), api.Token{K: api.TClose})
}

// plain answers text without marks.
func plain(s string) []api.Token {
	var l []api.Token
	for _, r := range s {
		l = append(l, api.Token{N: int(r)})
	}
	return l
}

func para(s string) []api.Token           { return enclosed(api.Para, 0, plain(s)) }
func heading(n int, s string) []api.Token { return enclosed(api.Head, n, plain(s)) }
func code(s string) []api.Token           { return enclosed(api.Block, 0, plain(s)) }
func line() []api.Token                   { return []api.Token{{K: api.TLeaf, T: api.Rule}} }
func quoted(l ...[]api.Token) []api.Token { return enclosed(api.Quote, 0, l...) }
func entry(l ...[]api.Token) []api.Token  { return enclosed(api.Item, 0, l...) }
func dots(l ...[]api.Token) []api.Token   { return enclosed(api.List, 0, l...) }
func counts(l ...[]api.Token) []api.Token { return enclosed(api.List, 1, l...) }

// parses holds that Parse reads s as what l are in a row.
func parses(t *testing.T, s string, l ...[]api.Token) {
	t.Helper()
	got, e := Parse(s)
	if want := slices.Concat(l...); !flat.Same(got, want) || e != api.OK {
		t.Errorf("Parse(%q): %v, %d; want %v", s, got, e, want)
	}
}

// refuses holds that Parse refuses s.
func refuses(t *testing.T, s string, want api.Errno) {
	t.Helper()
	if got, e := Parse(s); len(got) != 0 || e != want {
		t.Errorf("Parse of %d bytes %.20q: %d tokens, %d; want %d", len(s), s, len(got), e, want)
	}
}

// prints holds that Print writes what l are in a row as s.
func prints(t *testing.T, s string, l ...[]api.Token) {
	t.Helper()
	if got, e := Print(slices.Concat(l...)); got != s || e != api.OK {
		t.Errorf("Print(%v): %q, %d; want %q", slices.Concat(l...), got, e, s)
	}
}

func TestP15_1ParseOfLines(t *testing.T) {
	parses(t, "", para(""))
	parses(t, "\n", para(""))
	parses(t, "\n\n\n", para(""))
	parses(t, " ", para(""))
	parses(t, "   \n \n", para(""))
	parses(t, "--", para(""))
	parses(t, "--\n--\n", para(""))
	parses(t, "a", para("a"))
	parses(t, "a\n", para("a"))
	parses(t, "a\n\n", para("a"))
	parses(t, "\na", para("a"))
	parses(t, "a\nb", para("a"), para("b"))
	parses(t, "a\n\n \n--\nb\n", para("a"), para("b"))
	parses(t, "\t", para("\t"))
	parses(t, "\r\n\r", para("\r"), para("\r"))
	parses(t, "a\u2028b\u0085\x00", para("a\u2028b\u0085\x00"))
	parses(t, "\uFFFD€\U0010FFFF", para("\uFFFD€\U0010FFFF"))
	parses(t, " a", para(" a"))
	parses(t, "  a ", para("  a "))
	parses(t, " --", para(" --"))
	parses(t, " ---", para(" ---"))
	parses(t, "-- ", para("-- "))
	parses(t, "--- ", para("--- "))
	parses(t, "----", para("----"))
	parses(t, "--a", para("--a"))
	parses(t, "-", para("-"))
	parses(t, "-a", para("-a"))
	parses(t, " - a", para(" - a"))
	parses(t, "---", line())
	parses(t, "---\n---\na\n---\n", line(), line(), para("a"), line())
}

func TestP15_1ParseOfText(t *testing.T) {
	parses(t, "BE**b**_e_`c`**_d", enclosed(api.Para, 0, plain("BE"), sample.Tokens("BECD")))
	parses(t, "# **b**_e_", enclosed(api.Head, 1, sample.Tokens("BE")))
	parses(t, "**a\nb", enclosed(api.Para, 0, []api.Token{{N: 'a', M: api.Strong}}), para("b"))
	parses(t, "\\", para(""))
	parses(t, "**", para(""))
	parses(t, "``", para(""))
	parses(t, "\\ ", para(" "))
	parses(t, "\\# a", para("# a"))
	parses(t, "\\> a", para("> a"))
	parses(t, "\\- a", para("- a"))
	parses(t, "\\---", para("---"))
	parses(t, "\\1. a", para("1. a"))
	parses(t, "\\```", enclosed(api.Para, 0, plain("`")))
	parses(t, "\\\n\\\n", para(""), para(""))
}

func TestP15_1ParseOfHeads(t *testing.T) {
	for n := 1; n <= 6; n++ {
		row := strings.Repeat("#", n)
		parses(t, row+" a", heading(n, "a"))
		parses(t, row+" ", heading(n, ""))
		parses(t, row+"  a # ", heading(n, " a # "))
		parses(t, row+" # a", heading(n, "# a"))
		parses(t, row+" > a", heading(n, "> a"))
		parses(t, row, para(row))
		parses(t, row+"a", para(row+"a"))
		parses(t, row+"\ta", para(row+"\ta"))
		parses(t, " "+row+" a", para(" "+row+" a"))
	}
	parses(t, "####### a", para("####### a"))
	parses(t, "# a\n## b\nc", heading(1, "a"), heading(2, "b"), para("c"))
}

func TestP15_1ParseOfQuotes(t *testing.T) {
	parses(t, "> a", quoted(para("a")))
	parses(t, ">a", quoted(para("a")))
	parses(t, ">  a", quoted(para(" a")))
	parses(t, ">", quoted(para("")))
	parses(t, "> ", quoted(para("")))
	parses(t, ">   \n>\n> --", quoted(para("")))
	parses(t, "> a\n>b\n>\n> c", quoted(para("a"), para("b"), para("c")))
	parses(t, "> a\nb\n> c", quoted(para("a")), para("b"), quoted(para("c")))
	parses(t, "> a\n\n> b", quoted(para("a")), quoted(para("b")))
	parses(t, "> a\n--\n> b", quoted(para("a")), quoted(para("b")))
	parses(t, "> a\n > b", quoted(para("a")), para(" > b"))
	parses(t, ">> a\n> > b\n> c", quoted(quoted(para("a"), para("b")), para("c")))
	parses(t, "> > a\n> --\n> > b", quoted(quoted(para("a")), quoted(para("b"))))
	parses(t, "> a\n> > b\n> c", quoted(para("a"), quoted(para("b")), para("c")))
	parses(t, "> # a\n> ---\n>---", quoted(heading(1, "a"), line(), line()))
	parses(t, "> - a\n>   b\n>- c", quoted(dots(entry(para("a"), para("b")), entry(para("c")))))
	parses(t, "> ```\n> > a\n>\n>b\n> ```\n> c", quoted(code("> a\n\nb"), para("c")))
	parses(t, "> ```\n> a\nb", quoted(code("a")), para("b"))
}

func TestP15_1ParseOfLists(t *testing.T) {
	parses(t, "- a", dots(entry(para("a"))))
	parses(t, "- a\n- b", dots(entry(para("a")), entry(para("b"))))
	parses(t, "- ", dots(entry(para(""))))
	parses(t, "-  ", dots(entry(para(""))))
	parses(t, "- \n-  \n- --", dots(entry(para("")), entry(para("")), entry(para(""))))
	parses(t, "-  a", dots(entry(para(" a"))))
	parses(t, "- a\n  b\n   c\n  \n  d", dots(entry(para("a"), para("b"), para(" c"), para("d"))))
	parses(t, "- a\nb", dots(entry(para("a"))), para("b"))
	parses(t, "- a\n b", dots(entry(para("a"))), para(" b"))
	parses(t, "- a\n\n- b", dots(entry(para("a"))), dots(entry(para("b"))))
	parses(t, "- a\n \n- b", dots(entry(para("a"))), dots(entry(para("b"))))
	parses(t, "- a\n\n  b", dots(entry(para("a"))), para("  b"))
	parses(t, "- a\n--\n- b", dots(entry(para("a"))), dots(entry(para("b"))))
	parses(t, "- a\n---\n- b", dots(entry(para("a"))), line(), dots(entry(para("b"))))
	parses(t, "- a\n-\n- b", dots(entry(para("a"))), para("-"), dots(entry(para("b"))))
	parses(t, "- ---\n  ---", dots(entry(line(), line())))
	parses(t, "- - a\n  - b\n- c", dots(entry(dots(entry(para("a")), entry(para("b")))), entry(para("c"))))
	parses(t, "- a\n  - b\n    c\n  d", dots(entry(para("a"), dots(entry(para("b"), para("c"))), para("d"))))
	parses(t, "- > a\n  > b\n> c", dots(entry(quoted(para("a"), para("b")))), quoted(para("c")))
	parses(t, "- # a\n  ```\n  - b\n  \n    c\n  ```\n  d", dots(entry(heading(1, "a"), code("- b\n\n  c"), para("d"))))
	parses(t, "- ```\n  a\n\n  b", dots(entry(code("a"))), para("  b"))
	parses(t, "1. a\n   b\n1. c", counts(entry(para("a"), para("b")), entry(para("c"))))
	parses(t, "1. a\n  b", counts(entry(para("a"))), para("  b"))
	parses(t, "1. ", counts(entry(para(""))))
	parses(t, "1. 1. a\n   1. b\n1. c", counts(entry(counts(entry(para("a")), entry(para("b")))), entry(para("c"))))
	parses(t, "1. - a\n     b\n   - c", counts(entry(dots(entry(para("a"), para("b")), entry(para("c"))))))
	parses(t, "- 1. a\n     b\n  1. c", dots(entry(counts(entry(para("a"), para("b")), entry(para("c"))))))
	parses(t, "- a\n1. b\n- c", dots(entry(para("a"))), counts(entry(para("b"))), dots(entry(para("c"))))
	parses(t, "- a\n   b", dots(entry(para("a"), para(" b"))))
	for _, s := range []string{"1.", "1.a", "1 a", "1) a", "2. a", "0. a", "11. a", " 1. a", "1 . a", "* a", "+ a"} {
		parses(t, s, para(s))
	}
}

func TestP15_1ParseOfCode(t *testing.T) {
	parses(t, "```\na\n```", code("a"))
	parses(t, "```\n```", code(""))
	parses(t, "```\n\n```", code(""))
	parses(t, "```\n\n\n```", code("\n"))
	parses(t, "```", code(""))
	parses(t, "```\n", code(""))
	parses(t, "```\n\n", code(""))
	parses(t, "```\n\n\n", code("\n"))
	parses(t, "```\na\n", code("a"))
	parses(t, "```\na\nb", code("a\nb"))
	parses(t, "```\n **a** \n\n> \\b\n--\n---\n# `c`\n```\nd", code(" **a** \n\n> \\b\n--\n---\n# `c`"), para("d"))
	parses(t, "```\na\n`````\nb", code("a"), para("b"))
	parses(t, "````\na\n```\n ````\n````a\n````\nb", code("a\n```\n ````\n````a"), para("b"))
	parses(t, "````\n`\n``\n```\n", code("`\n``\n```"))
	parses(t, "```\n```\n```\n```", code(""), code(""))
	parses(t, "```\n\uFFFD\r\x00€\n```", code("\uFFFD\r\x00€"))
	parses(t, "a\n```\n- b\n```\n- c", para("a"), code("- b"), dots(entry(para("c"))))
	parses(t, "``", para(""))
	parses(t, "``` ", enclosed(api.Para, 0, []api.Token{{N: ' ', M: api.Code}}))
	parses(t, "```go", enclosed(api.Para, 0, []api.Token{{N: 'g', M: api.Code}, {N: 'o', M: api.Code}}))
	parses(t, " ````", para(" "))
}

// plainBlocks reads lines as the chapter tells them, with marks and deepness left aside.
func plainBlocks(lines []string) []api.Token {
	var l []api.Token
	for i := 0; i < len(lines); {
		s, from := lines[i], i
		i++
		hashes := strings.IndexFunc(s+"x", func(r rune) bool { return r != '#' })
		switch {
		case strings.Count(s, " ") == len(s) || s == "--":
		case s == "---":
			l = append(l, line()...)
		case s[0] == '>':
			for i < len(lines) && strings.Index(lines[i], ">") == 0 {
				i++
			}
			var inner []string
			for _, s := range lines[from:i] {
				s = s[1:]
				if len(s) > 0 && s[0] == ' ' {
					s = s[1:]
				}
				inner = append(inner, s)
			}
			l = append(l, quoted(plainBlocks(inner))...)
		case strings.Index(s, "- ") == 0:
			var list [][]api.Token
			list, i = plainItems(lines, from, "- ", "  ")
			l = append(l, dots(list...)...)
		case strings.Index(s, "1. ") == 0:
			var list [][]api.Token
			list, i = plainItems(lines, from, "1. ", "   ")
			l = append(l, counts(list...)...)
		case len(s) >= 3 && strings.Count(s, "`") == len(s):
			for i < len(lines) && !(len(lines[i]) >= len(s) && strings.Count(lines[i], "`") == len(lines[i])) {
				i++
			}
			l = append(l, code(strings.Join(lines[from+1:i], "\n"))...)
			i++
		case 1 <= hashes && hashes <= 6 && len(s) > hashes && s[hashes] == ' ':
			l = append(l, heading(hashes, s[hashes+1:])...)
		default:
			l = append(l, para(s)...)
		}
	}
	if len(l) == 0 {
		return para("")
	}
	return l
}

// plainItems reads the Items of the List that begins at the line at, and tells the line behind it.
func plainItems(lines []string, at int, sign string, blanks string) ([][]api.Token, int) {
	var list [][]api.Token
	for at < len(lines) && strings.Index(lines[at], sign) == 0 {
		inner := []string{lines[at][len(sign):]}
		for at++; at < len(lines) && strings.Index(lines[at], blanks) == 0; at++ {
			inner = append(inner, lines[at][len(blanks):])
		}
		list = append(list, entry(plainBlocks(inner)))
	}
	return list, at
}

// plainDocument reads a text as the chapter tells it, with marks left aside.
func plainDocument(s string) []api.Token {
	lines := strings.Split(s, "\n")
	if len(lines) > 1 && lines[len(lines)-1] == "" {
		lines = lines[:len(lines)-1]
	}
	return plainBlocks(lines)
}

func TestP15_1ParseOfAllShortTexts(t *testing.T) {
	for _, s := range sample.Texts([]string{">", " ", "-", "1.", "#", "a", "\n"}, 6) {
		parses(t, s, plainDocument(s))
	}
	for _, s := range sample.Texts([]string{"> ", "- ", "  ", "1. ", "   ", "--", "# ", "a", "\n"}, 5) {
		parses(t, s, plainDocument(s))
	}
	for _, s := range sample.Texts([]string{"\n", "\n> ", "\n- ", "\n  ", "\n1. ", "\n   ", "\na", "> ", "a"}, 5) {
		parses(t, s, plainDocument(s))
	}
}

// hasTicksInText tells whether a Para or a Head has a tick, which is read as a sign there.
func hasTicksInText(l []api.Token) bool {
	for i, one := range l {
		if one.K == api.TRune && one.N == '`' && l[flat.Around(l, i)].T != api.Block {
			return true
		}
	}
	return false
}

func TestP15_1ParseOfAllShortTextsWithCode(t *testing.T) {
	for _, s := range sample.Texts([]string{"```", "`", "\n", "> ", "- ", "  ", "a"}, 6) {
		if want := plainDocument(s); !hasTicksInText(want) {
			parses(t, s, want)
		}
	}
}

func TestP15_1ParseRefusesWhatIsNoText(t *testing.T) {
	for _, bad := range []string{"\xff", "\x80", "\xc0\x80", "\xe2\x82", "\xed\xa0\x80", "\xf4\x90\x80\x80", "a\n\xffb", "```\n\xe2\n\x82\xac", "> \xff", "\xc3\n\xa9"} {
		refuses(t, bad, api.ErrForm)
		refuses(t, strings.Repeat(">", 40)+"\n"+bad, api.ErrForm)
		refuses(t, strings.Repeat("---\n", api.MaxDoc+1)+bad, api.ErrForm)
	}
	full := "> " + strings.Repeat(" ", api.MaxText-2)
	parses(t, full, quoted(para("")))
	refuses(t, full+" ", api.ErrLong)
	refuses(t, full+"\n", api.ErrLong)
	refuses(t, full[1:]+"\xff", api.ErrForm)
	refuses(t, full+"\xff", api.ErrLong)
	refuses(t, strings.Repeat(">", api.MaxText+1), api.ErrLong)
	refuses(t, strings.Repeat(">", api.MaxText), api.ErrDeep)
	wide := strings.Repeat(" ", api.MaxText%3) + strings.Repeat("€", api.MaxText/3)
	refuses(t, wide, api.ErrLong)
}

// deep answers what stands in n Quotes.
func deep(n int, inner []api.Token) []api.Token {
	for range n {
		inner = quoted(inner)
	}
	return inner
}

func TestP15_1ParseLooksHowDeep(t *testing.T) {
	signs := func(n int) string { return strings.Repeat(">", n) }
	for _, x := range []struct {
		s    string
		deep int // how deep it is itself
		want []api.Token
	}{
		{"", 1, para("")},
		{"a", 1, para("a")},
		{"# a", 1, heading(1, "a")},
		{"```", 1, code("")},
		{"---", 0, line()},
		{"- ", 3, dots(entry(para("")))},
		{"- ---", 2, dots(entry(line()))},
		{"1. # a", 3, counts(entry(heading(1, "a")))},
		{"- - ---", 4, dots(entry(dots(entry(line()))))},
		{"- > ---", 3, dots(entry(quoted(line())))},
	} {
		most := api.MaxDeep - x.deep
		parses(t, signs(most)+" "+x.s, deep(most, x.want))
		refuses(t, signs(most+1)+" "+x.s, api.ErrDeep)
		refuses(t, "a\n"+signs(most+1)+" "+x.s+"\nb", api.ErrDeep)
	}
	refuses(t, signs(33)+" ---", api.ErrDeep)
	// Quotes side by side are no deeper than one.
	parses(t, signs(31)+"\n--\n"+signs(31), deep(31, para("")), deep(31, para("")))
	refuses(t, strings.Repeat("- ", 16), api.ErrDeep)
	parses(t, strings.Repeat("- ", 16)+"---", slices.Concat(slices.Repeat(dots(entry())[:2], 16), line(), slices.Repeat([]api.Token{{K: api.TClose}}, 32)))
}

func TestP15_1ParseLooksHowManyTokens(t *testing.T) {
	rules := func(n int) string { return strings.Repeat("---\n", n) }
	parses(t, rules(api.MaxDoc), slices.Repeat(line(), api.MaxDoc))
	refuses(t, rules(api.MaxDoc+1), api.ErrLong)
	text := strings.Repeat("x", api.MaxDoc-2)
	parses(t, text, para(text))
	refuses(t, text+"x", api.ErrLong)
	parses(t, "```\n"+text+"\n```", code(text))
	refuses(t, "```\nx"+text, api.ErrLong)
	parses(t, text+"\n   \n--\n", para(text))
	// What is too deep comes behind what is too long, and counts first.
	refuses(t, rules(api.MaxDoc+1)+strings.Repeat(">", 32), api.ErrDeep)
	refuses(t, strings.Repeat(">", 32)+"\n"+rules(api.MaxDoc+1), api.ErrDeep)
	parses(t, rules(api.MaxDoc-64)+strings.Repeat(">", 31), slices.Repeat(line(), api.MaxDoc-64), deep(31, para("")))
	refuses(t, rules(api.MaxDoc-63)+strings.Repeat(">", 31), api.ErrLong)
	refuses(t, rules(api.MaxDoc-64)+strings.Repeat(">", 32), api.ErrDeep)
}

func TestP15_2PrintOfTexts(t *testing.T) {
	prints(t, "---\n", line())
	prints(t, "---\n---\n", line(), line())
	for n := 1; n <= 6; n++ {
		prints(t, strings.Repeat("#", n)+" a\n", heading(n, "a"))
		prints(t, strings.Repeat("#", n)+" \n", heading(n, ""))
	}
	prints(t, "#  a\n# # \n# - \n# 1\n", heading(1, " a"), heading(1, "# "), heading(1, "- "), heading(1, "1"))
	prints(t, "\\\n", para(""))
	prints(t, "\\\n\\\n", para(""), para(""))
	prints(t, "a\n", para("a"))
	prints(t, "a\nb\n", para("a"), para("b"))
	for _, s := range []string{" ", "  ", " a", "#", "# a", ">", "> a", "-", "--", "---", "- a", "0", "1", "1. a", "2", "3", "4", "5", "6", "7", "8", "9a", "9", "-€"} {
		prints(t, "\\"+s+"\n", para(s))
	}
	for _, s := range []string{"a", "a ", "a#>-1", "\t", "\r", "+", ".", "/", ":", "=", "!", "\"", "\u0660", "\u00a0", "\u2013", "€", "\x00", "\U0010FFFF"} {
		prints(t, s+"\n", para(s))
	}
	prints(t, "\\`\\`\\`\n\\\\\n\\*\n\\_\n", para("```"), para("\\"), para("*"), para("_"))
	prints(t, "**b**_e`c`**d**_x\n", enclosed(api.Para, 0, sample.Tokens("BECDx")))
	prints(t, "## **b**\n", enclosed(api.Head, 2, sample.Tokens("B")))
	prints(t, "`1`\n** **\n", enclosed(api.Para, 0, []api.Token{{N: '1', M: api.Code}}), enclosed(api.Para, 0, []api.Token{{N: ' ', M: api.Strong}}))
}

func TestP15_2PrintOfCode(t *testing.T) {
	prints(t, "```\na\n```\n", code("a"))
	prints(t, "```\n\n```\n", code(""))
	prints(t, "```\n\n\n```\n", code("\n"))
	prints(t, "```\na\n\n```\n", code("a\n"))
	prints(t, "```\n\na\n```\n", code("\na"))
	prints(t, "```\n *_\\# \n> b\n```\n", code(" *_\\# \n> b"))
	prints(t, "```\n`\n```\n", code("`"))
	prints(t, "```\n``a\n```\n", code("``a"))
	prints(t, "````\n```\n````\n", code("```"))
	prints(t, "````\n```a\n````\n", code("```a"))
	prints(t, "`````\na\n````\n``\n`````\n", code("a\n````\n``"))
	prints(t, "```\na````\n ````\n```\n", code("a````\n ````"))
	prints(t, "```\n`a````\n```\n", code("`a````"))
	prints(t, "```\na\n```\n```\nb\n```\n", code("a"), code("b"))
	prints(t, "````\n```\n````\n```\na\n```\n", code("```"), code("a"))
}

func TestP15_2PrintOfQuotesAndLists(t *testing.T) {
	a, b, c := para("a"), para("b"), para("c")
	prints(t, "> a\n", quoted(a))
	prints(t, "> \\\n> ---\n", quoted(para(""), line()))
	prints(t, "> a\n> b\nc\n", quoted(a, b), c)
	prints(t, "> > a\n> b\n", quoted(quoted(a), b))
	prints(t, "> a\n--\n> b\n--\n> c\n", quoted(a), quoted(b), quoted(c))
	prints(t, "> > a\n> --\n> > b\n", quoted(quoted(a), quoted(b)))
	prints(t, "> > a\n--\n> b\n", quoted(quoted(a)), quoted(b))
	prints(t, "> a\n---\n> b\n", quoted(a), line(), quoted(b))
	prints(t, "> ```\n> a\n> \n> ```\n", quoted(code("a\n")))
	prints(t, "- a\n", dots(entry(a)))
	prints(t, "- a\n  b\n- c\n", dots(entry(a, b), entry(c)))
	prints(t, "1. a\n   b\n1. c\n", counts(entry(a, b), entry(c)))
	prints(t, "- \\\n1. \\\n", dots(entry(para(""))), counts(entry(para(""))))
	prints(t, "- a\n--\n- b\n", dots(entry(a)), dots(entry(b)))
	prints(t, "1. a\n--\n1. b\n", counts(entry(a)), counts(entry(b)))
	prints(t, "- a\n1. b\n- c\n", dots(entry(a)), counts(entry(b)), dots(entry(c)))
	prints(t, "- a\n> b\n- c\n", dots(entry(a)), quoted(b), dots(entry(c)))
	prints(t, "- - a\n  - b\n  --\n  - c\n", dots(entry(dots(entry(a), entry(b)), dots(entry(c)))))
	prints(t, "- > a\n  --\n  > b\n- > c\n", dots(entry(quoted(a), quoted(b)), entry(quoted(c))))
	prints(t, "1. 1. a\n      b\n   1. c\n", counts(entry(counts(entry(a, b), entry(c)))))
	prints(t, "- 1. a\n     b\n  c\n", dots(entry(counts(entry(a, b)), c)))
	prints(t, "- ---\n  # a\n", dots(entry(line(), heading(1, "a"))))
	prints(t, "- ```\n  a\n  \n  b\n  ```\n", dots(entry(code("a\n\nb"))))
	prints(t, "> - a\n>   b\n> --\n> - c\n", quoted(dots(entry(a, b)), dots(entry(c))))
	prints(t, "# a\n# b\na\na\n", heading(1, "a"), heading(1, "b"), a, a)
}

func TestP15_2PrintRefuses(t *testing.T) {
	for _, x := range []struct {
		l    []api.Token
		want api.Errno
	}{
		{nil, api.ErrValid},
		{[]api.Token{}, api.ErrValid},
		{sample.Tokens("a"), api.ErrValid},
		{sample.Tokens("()"), api.ErrValid},
		{sample.Tokens("[]"), api.ErrValid},
		{sample.Tokens("[<>]"), api.ErrValid},
		{sample.Tokens("[{}]"), api.ErrValid},
		{sample.Tokens("{<>}"), api.ErrValid},
		{sample.Tokens("<(<>)>"), api.ErrValid},
		{sample.Tokens("<\n>"), api.ErrValid},
		{sample.Tokens("#\n>"), api.ErrValid},
		{sample.Tokens("`B'"), api.ErrValid},
		{enclosed(api.Head, 0), api.ErrValid},
		{enclosed(api.Head, 7), api.ErrValid},
		{enclosed(api.List, 2, entry(para(""))), api.ErrValid},
		{enclosed(api.Rule, 0), api.ErrValid},
		{enclosed(8, 0), api.ErrValid},
		{[]api.Token{{K: api.TLeaf, T: api.Para}}, api.ErrValid},
		{sample.Tokens("<!>"), api.ErrForm},
		{sample.Tokens("<>>"), api.ErrForm},
		{sample.Tokens("a!"), api.ErrForm},
		{[]api.Token{{N: math.MaxInt}}, api.ErrForm},
		{sample.Tokens("<"), api.ErrShort},
		{sample.Tokens("(<>"), api.ErrShort},
		{deep(32, para("")), api.ErrDeep},
		{deep(33, line()), api.ErrDeep},
		{slices.Repeat(line(), api.MaxDoc+1), api.ErrLong},
		{slices.Repeat(sample.Tokens("!"), api.MaxDoc+1), api.ErrLong},
	} {
		if got, e := Print(x.l); got != "" || e != x.want {
			t.Errorf("Print(%.60v): %q, %d; want %d", x.l, got, e, x.want)
		}
	}
	for _, l := range sample.Rows(sample.Tokens("<(>_a`"), 5) {
		_, want := schema.House().Check(l)
		if _, e := Print(l); e != want {
			t.Errorf("Print(%v): %d; want %d", l, e, want)
		}
	}
}

func TestP15_2PrintHasNoLimit(t *testing.T) {
	prints(t, strings.Repeat(strings.Repeat("> ", 32)+"---\n", 1984), deep(32, slices.Repeat(line(), 1984)))
	prints(t, strings.Repeat("---\n", api.MaxDoc), slices.Repeat(line(), api.MaxDoc))
}

// somes answers blocks of all types; those that hold others do so in each way, so many deep.
func somes(most int) [][]api.Token {
	l := [][]api.Token{line(), para(""), para("a"), para("- a"), heading(2, ""), code(""), code("```\n  > -"), enclosed(api.Para, 0, sample.Tokens("BE"))}
	if most == 0 {
		return l
	}
	for _, a := range somes(most - 1) {
		l = append(l, quoted(a), quoted(para("x"), a), dots(entry(a)), counts(entry(a), entry(a, a)))
	}
	return l
}

// undone holds that Parse reads what Print writes of l as l.
func undone(t *testing.T, l []api.Token) {
	t.Helper()
	s, e := Print(l)
	if e != api.OK {
		t.Errorf("Print(%v): %d", l, e)
	}
	parses(t, s, l)
}

func TestP15_3ParseUndoesPrint(t *testing.T) {
	for _, a := range somes(3) {
		undone(t, a)
	}
	for _, a := range somes(2) {
		for _, b := range somes(1) {
			undone(t, slices.Concat(a, b))
			undone(t, slices.Concat(b, a))
			undone(t, dots(entry(a, b), entry(b)))
			undone(t, quoted(b, a))
		}
	}
	for _, s := range sample.Texts([]string{" ", "#", ">", "-", "1.", "`", "\\", "a"}, 4) {
		undone(t, para(s))
		undone(t, heading(3, s))
		undone(t, counts(entry(para(s)), entry(code(s+"\n"+s))))
	}
	for _, s := range sample.Texts([]string{"`", "\n", "a", " "}, 6) {
		undone(t, code(s))
	}
	undone(t, deep(31, para("")))
	undone(t, deep(32, line()))
	undone(t, slices.Repeat(line(), api.MaxDoc))
}

func TestP15_3ParseUndoesPrintOfAllShortDocuments(t *testing.T) {
	for _, l := range sample.Rows(sample.Tokens("<(>_a` "), 6) {
		if _, e := schema.House().Check(l); e == api.OK {
			undone(t, l)
		}
	}
}

func TestP15_3WhatIsParsedIsValid(t *testing.T) {
	for _, s := range sample.Texts([]string{"\n", "> ", "- ", "1. ", "   ", "```", "**", "# ", "\\"}, 5) {
		l, e := Parse(s)
		if n, f := schema.House().Check(l); n != len(l) || e != api.OK || f != api.OK {
			t.Errorf("Parse(%q): %v, %d; %d", s, l, e, f)
		}
	}
}

func TestNothingIsChangedOrShared(t *testing.T) {
	l := slices.Concat(quoted(code("a\n`")), dots(entry(para("- b"))))
	was := slices.Clone(l)
	Print(l)
	if !slices.Equal(l, was) {
		t.Errorf("Print changed its argument: %v", l)
	}
	one, _ := Parse("> a")
	two, _ := Parse("> a")
	one[2].N = 'z'
	if two[2].N != 'a' {
		t.Error("two answers of Parse share memory")
	}
}
