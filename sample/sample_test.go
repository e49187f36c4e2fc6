package sample

import (
	"slices"
	"testing"

	"emender/api"
)

func TestTokens(t *testing.T) {
	want := []api.Token{
		{K: 1, T: 1}, {K: 1, T: 2, N: 1}, {K: 1, T: 3}, {K: 1, T: 4}, {K: 1, T: 5}, {K: 1, T: 6},
		{K: 2}, {K: 2}, {K: 2}, {K: 2}, {K: 2}, {K: 3, T: 7}, {N: -1},
		{N: 'b', M: 1}, {N: 'e', M: 2}, {N: 'd', M: 3}, {N: 'c', M: 4}, {N: 'x'}, {N: 10}, {N: 0x20AC},
	}
	if got := Tokens("<#(`[{>)']}_!BEDCx\n€"); !slices.Equal(got, want) {
		t.Errorf("Tokens: %v", got)
	}
}

func TestRows(t *testing.T) {
	var all []string
	for _, row := range Rows(Tokens("ab"), 2) {
		s := ""
		for _, one := range row {
			s += string(rune(one.N))
		}
		all = append(all, s)
	}
	if want := []string{"", "a", "b", "aa", "ab", "ba", "bb"}; !slices.Equal(all, want) {
		t.Errorf("Rows: %q", all)
	}
}

func TestTexts(t *testing.T) {
	if got, want := Texts([]string{"a", "bc"}, 2), []string{"", "a", "bc", "aa", "abc", "bca", "bcbc"}; !slices.Equal(got, want) {
		t.Errorf("Texts: %q", got)
	}
}
