package script

import (
	"strconv"
	"strings"

	"emender/api"
)

const (
	blank      = " "
	calm       = "calm"
	mostWords  = 5 // of a line
	mostNumber = 999999999
	mostRounds = 100 // that a line asks for
)

// shape is what the lines with one word look like: the letters of the fields whose numbers stand behind the word, and the act that it stands for.
type shape struct {
	word   string
	fields string
	k      int
	b      int
}

func shapes() []shape {
	return []shape{
		{"insert", "acn", api.AEdit, api.CInsert},
		{"delete", "acd", api.AEdit, api.CDelete},
		{"split", "ac", api.AEdit, api.CSplit},
		{"join", "ac", api.AEdit, api.CJoin},
		{"block", "acdn", api.AEdit, api.CBlock},
		{"mark", "acdn", api.AEdit, api.CMark},
		{"wrap", "acdn", api.AEdit, api.CWrap},
		{"lift", "ac", api.AEdit, api.CLift},
		{"submit", "a", api.ASubmit, 0},
		{"ask", "a", api.AAsk, 0},
		{"deliver", "a", api.ADeliver, 0},
		{"drop", "a", api.ADrop, 0},
		{"twice", "a", api.ATwice, 0},
		{"crash", "a", api.ACrash, 0},
		{"sync", "", api.ASync, 0},
	}
}

// start makes a the act of such a line, and answers where its numbers go.
func (s shape) start(a *api.Act) []*int {
	a.K, a.B = s.k, s.b
	var to []*int
	for _, letter := range s.fields {
		to = append(to, field(a, letter))
	}
	return to
}

// line answers the line of this shape that has the numbers of a.
func (s shape) line(a api.Act) string {
	line := s.word
	for _, letter := range s.fields {
		line += blank + strconv.Itoa(*field(&a, letter))
	}
	return line
}

func field(a *api.Act, letter rune) *int {
	switch letter {
	case 'a':
		return &a.A
	case 'c':
		return &a.C
	case 'd':
		return &a.D
	}
	return &a.N
}

func sameNumbers(a api.Act, b api.Act) bool {
	return a.A == b.A && a.C == b.C && a.D == b.D && a.N == b.N
}

// rounds answers how many rounds a line asks for, if it asks for calm.
func rounds(line string) (int, bool) {
	word, numbers := split(line)
	n := 0
	ok := word == calm && fill(numbers, &n) && n <= mostRounds
	return n, ok
}

// split answers a line's first word and those behind it. Of a line with too many words the last ones are left as one, which is no number.
func split(line string) (string, []string) {
	words := strings.SplitN(line, blank, mostWords)
	return words[0], words[1:]
}

// fill puts the numbers that words are to where they go, if there are just as many.
func fill(words []string, to ...*int) bool {
	if len(words) != len(to) {
		return false
	}
	for i, word := range words {
		n, ok := number(word)
		if !ok {
			return false
		}
		*to[i] = n
	}
	return true
}

// number answers the number that the word is. There is but one way to write each.
func number(word string) (int, bool) {
	n, err := strconv.Atoi(word)
	return n, err == nil && strconv.Itoa(n) == word && -mostNumber <= n && n <= mostNumber
}
