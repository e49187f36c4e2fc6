package mark

import (
	"math"
	"slices"
	"testing"

	"emender/api"
)

var (
	marks   = []int{api.Strong, api.Em, api.Code}
	sets    = []int{0, 1, 2, 3, 4}
	noMarks = []int{math.MinInt, -4, -2, -1, 0, 3, 5, 6, 7, 8, 16, 1<<32 + 1, math.MaxInt}
	wrong   = []int{math.MinInt, math.MinInt + 1, -8, -4, -1, 5, 6, 7, 8, 9, 12, 1 << 32, math.MaxInt}
)

// pairs are all right sets with all marks, what comes of Add and Take, and what Has tells.
var pairs = []struct {
	set, m, add, take int
	has               bool
}{
	{0, api.Strong, 1, 0, false},
	{0, api.Em, 2, 0, false},
	{0, api.Code, 4, 0, false},
	{1, api.Strong, 1, 0, true},
	{1, api.Em, 3, 1, false},
	{1, api.Code, 4, 1, false},
	{2, api.Strong, 3, 2, false},
	{2, api.Em, 2, 0, true},
	{2, api.Code, 4, 2, false},
	{3, api.Strong, 3, 2, true},
	{3, api.Em, 3, 1, true},
	{3, api.Code, 4, 3, false},
	{4, api.Strong, 4, 4, false},
	{4, api.Em, 4, 4, false},
	{4, api.Code, 4, 0, true},
}

func TestMarksAreThoseOfApi(t *testing.T) {
	if strong != api.Strong || em != api.Em || code != api.Code {
		t.Errorf("the marks are %d, %d, %d", strong, em, code)
	}
}

func TestP3_1Right(t *testing.T) {
	for _, s := range sets {
		if !Right(s) {
			t.Errorf("Right(%d) = false", s)
		}
	}
	for _, s := range wrong {
		if Right(s) {
			t.Errorf("Right(%d) = true", s)
		}
	}
}

func TestP3_1AddTakeHasOfAllPairs(t *testing.T) {
	if len(pairs) != len(sets)*len(marks) {
		t.Fatalf("%d pairs", len(pairs))
	}
	for _, x := range pairs {
		if got, e := Add(x.set, x.m); got != x.add || e != api.OK {
			t.Errorf("Add(%d, %d) = %d, %d; want %d", x.set, x.m, got, e, x.add)
		}
		if got, e := Take(x.set, x.m); got != x.take || e != api.OK {
			t.Errorf("Take(%d, %d) = %d, %d; want %d", x.set, x.m, got, e, x.take)
		}
		if got := Has(x.set, x.m); got != x.has {
			t.Errorf("Has(%d, %d) = %v", x.set, x.m, got)
		}
	}
}

// refused looks whether Add, Take and Has answer nothing but the error want.
func refused(t *testing.T, set, m int, want api.Errno) {
	t.Helper()
	if got, e := Add(set, m); got != 0 || e != want {
		t.Errorf("Add(%d, %d) = %d, %d; want 0, %d", set, m, got, e, want)
	}
	if got, e := Take(set, m); got != 0 || e != want {
		t.Errorf("Take(%d, %d) = %d, %d; want 0, %d", set, m, got, e, want)
	}
	if Has(set, m) {
		t.Errorf("Has(%d, %d) = true", set, m)
	}
}

func TestP3_1WhatIsNoMarkIsRefusedFirst(t *testing.T) {
	for _, m := range noMarks {
		for _, s := range slices.Concat(sets, wrong) {
			refused(t, s, m, api.ErrArg)
		}
	}
}

func TestP3_1WrongSetsAreRefused(t *testing.T) {
	for _, s := range wrong {
		for _, m := range marks {
			refused(t, s, m, api.ErrForm)
		}
	}
}

func TestP3_1Within(t *testing.T) {
	for _, x := range []struct{ set, most, want int }{
		{0, 7, 0}, {0, 0, 0},
		{1, 0, 0}, {1, 1, 1}, {1, 2, 0}, {1, 7, 1},
		{2, 1, 0}, {2, 2, 2}, {2, 3, 2},
		{3, 0, 0}, {3, 1, 1}, {3, 2, 2}, {3, 3, 3}, {3, 4, 0}, {3, 5, 1}, {3, 6, 2}, {3, 7, 3},
		{4, 0, 0}, {4, 3, 0}, {4, 4, 4}, {4, 5, 4}, {4, 7, 4},
	} {
		if got := Within(x.set, x.most); got != x.want {
			t.Errorf("Within(%d, %d) = %d, want %d", x.set, x.most, got, x.want)
		}
	}
}

func TestP3_1WithinLooksAtTheLowestThreeBits(t *testing.T) {
	for _, x := range []struct{ most, low int }{
		{8, 0}, {9, 1}, {15, 7}, {1<<40 + 6, 6},
		{-1, 7}, {-2, 6}, {-5, 3}, {-8, 0},
		{math.MaxInt, 7}, {math.MinInt, 0}, {math.MinInt + 5, 5},
	} {
		for _, s := range sets {
			if got, want := Within(s, x.most), Within(s, x.low); got != want {
				t.Errorf("Within(%d, %d) = %d, want %d", s, x.most, got, want)
			}
		}
	}
}

func TestP3_1WithinOfWrongSets(t *testing.T) {
	for _, s := range wrong {
		for _, most := range []int{math.MinInt, -1, 0, 1, 2, 3, 4, 7, 15, math.MaxInt} {
			if got := Within(s, most); got != 0 {
				t.Errorf("Within(%d, %d) = %d", s, most, got)
			}
		}
	}
}

func TestP3_1List(t *testing.T) {
	for _, x := range []struct {
		set  int
		want []int
	}{
		{0, nil},
		{1, []int{api.Strong}},
		{2, []int{api.Em}},
		{3, []int{api.Strong, api.Em}},
		{4, []int{api.Code}},
	} {
		if l := List(x.set); !slices.Equal(l, x.want) {
			t.Errorf("List(%d) = %v, want %v", x.set, l, x.want)
		}
	}
	for _, s := range wrong {
		if l := List(s); len(l) != 0 {
			t.Errorf("List(%d) = %v", s, l)
		}
	}
}

func TestListIsNewMemory(t *testing.T) {
	a := List(3)
	a[0], a[1] = 9, 9
	if b := List(3); !slices.Equal(b, []int{1, 2}) {
		t.Errorf("List(3) = %v behind a change of another answer", b)
	}
}

func TestP3_2WhatIsAddedIsThere(t *testing.T) {
	for _, s := range sets {
		for _, m := range marks {
			got, e := Add(s, m)
			if e != api.OK || !Right(got) {
				t.Errorf("Add(%d, %d) = %d, %d", s, m, got, e)
			}
			if !Has(s, api.Code) && !Has(got, m) {
				t.Errorf("Add(%d, %d) = %d lacks what was added", s, m, got)
			}
			if again, _ := Add(got, m); again != got {
				t.Errorf("Add(%d, %d) = %d the second time, %d the first", s, m, again, got)
			}
		}
	}
}

func TestP3_2WhatIsTakenIsNot(t *testing.T) {
	for _, s := range sets {
		for _, m := range marks {
			got, e := Take(s, m)
			if e != api.OK || !Right(got) || Has(got, m) {
				t.Errorf("Take(%d, %d) = %d, %d", s, m, got, e)
			}
			for _, other := range marks {
				if other != m && Has(got, other) != Has(s, other) {
					t.Errorf("Take(%d, %d) = %d: %d is touched", s, m, got, other)
				}
			}
		}
	}
}

func TestP3_2ListsAreTheirSets(t *testing.T) {
	for _, s := range sets {
		built := 0
		for _, m := range List(s) {
			built, _ = Add(built, m)
		}
		if built != s {
			t.Errorf("List(%d) leads to %d", s, built)
		}
	}
}
