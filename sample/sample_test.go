package sample

import (
	"reflect"
	"slices"
	"testing"

	"emender/api"
)

func TestTokens(t *testing.T) {
	want := []api.Token{
		{K: 1, T: 1}, {K: 1, T: 2, N: 1}, {K: 1, T: 3}, {K: 1, T: 4}, {K: 1, T: 5}, {K: 1, T: 6},
		{K: 2}, {K: 2}, {K: 2}, {K: 2}, {K: 2}, {K: 3, T: 7}, {N: -1},
		{N: 'b', M: 1}, {N: 'e', M: 2}, {N: 'd', M: 3}, {N: 'c', M: 4}, {N: 'x'}, {N: 10}, {N: 0x20AC},
	}
	if got := Tokens("<#(`[{>)']}_!BEDCx\n€"); !slices.Equal(got, want) {
		t.Errorf("Tokens: %v", got)
	}
}

func TestSteps(t *testing.T) {
	x := api.Token{N: 'x'}
	if got, want := Replace(1, 2, "x"), (api.Step{From: 1, To: 2, Slice: []api.Token{x}}); !reflect.DeepEqual(got, want) {
		t.Errorf("Replace: %v", got)
	}
	want := api.Step{K: 1, From: 1, To: 4, GapFrom: 2, GapTo: 3, Insert: 2, Slice: []api.Token{{N: '€'}, x, {K: 2}}}
	if got := Around(1, 2, 3, 4, "€x", ">"); !reflect.DeepEqual(got, want) {
		t.Errorf("Around: %v", got)
	}
}

func TestRows(t *testing.T) {
	var all []string
	for _, row := range Rows(Tokens("ab"), 2) {
		s := ""
		for _, one := range row {
			s += string(rune(one.N))
		}
		all = append(all, s)
	}
	if want := []string{"", "a", "b", "aa", "ab", "ba", "bb"}; !slices.Equal(all, want) {
		t.Errorf("Rows: %q", all)
	}
}

func TestTexts(t *testing.T) {
	if got, want := Texts([]string{"a", "bc"}, 2), []string{"", "a", "bc", "aa", "abc", "bca", "bcbc"}; !slices.Equal(got, want) {
		t.Errorf("Texts: %q", got)
	}
}

func TestMixed(t *testing.T) {
	l := Mixed(7, 200, 5)
	if len(l) != 200 || slices.Min(l) != 0 || slices.Max(l) != 4 || slices.IsSorted(l) {
		t.Errorf("Mixed: %v", l)
	}
	if !slices.Equal(l, Mixed(7, 200, 5)) || slices.Equal(l, Mixed(8, 200, 5)) {
		t.Error("Mixed: the seed does not tell the numbers")
	}
	if l := Mixed(7, 0, 5); len(l) != 0 {
		t.Errorf("Mixed of none: %v", l)
	}
}
