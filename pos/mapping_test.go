package pos

import (
	"math"
	"testing"

	"emender/api"
)

// mapping answers the mapping of maps, in which each pair is mirrors.
func mapping(t *testing.T, maps [][]api.Range, mirrors ...[2]int) *Mapping {
	t.Helper()
	m := New()
	for _, r := range maps {
		if e := m.Add(r); e != api.OK {
			t.Fatalf("Add(%v): %d", r, e)
		}
	}
	for _, x := range mirrors {
		if e := m.Mirror(x[0], x[1]); e != api.OK {
			t.Fatalf("Mirror(%d, %d): %d", x[0], x[1], e)
		}
	}
	return m
}

// plainly says in the chapter's words where p goes through maps; mirrors has what undoes a map.
func plainly(maps [][]api.Range, mirrors map[int]int, from, p, side int) api.Spot {
	if from == len(maps) {
		return api.Spot{At: p, In: -1}
	}
	s := plain(maps[from], p, side)
	if j, ok := mirrors[from]; ok && s.In >= 0 && s.In < len(maps[j]) {
		r := maps[j][s.In]
		return plainly(maps, mirrors, j+1, r.At+moved(maps[j], s.In)+min(s.Off, r.New), side)
	}
	rest := plainly(maps, mirrors, from+1, s.At, side)
	rest.Gone = rest.Gone || s.Gone
	return rest
}

func TestNewAndAdd(t *testing.T) {
	m := New()
	if m.Len() != 0 {
		t.Errorf("Len: %d", m.Len())
	}
	if s, e := m.Map(0, 5, 1); s != (api.Spot{At: 5, In: -1}) || e != api.OK {
		t.Errorf("Map: %v, %d", s, e)
	}
	for _, wrong := range [][]api.Range{
		ranges(5, 3, 1, 7, 0, 0),
		ranges(-1, 0, 0),
		ranges(0, 0, 0, 1, 0, 0, 2, 0, 0, 3, 0, 0, 4, 0, 0),
	} {
		if e := m.Add(wrong); e != api.ErrForm || m.Len() != 0 {
			t.Errorf("Add(%v): %d, %d maps", wrong, e, m.Len())
		}
	}
	for i, r := range [][]api.Range{nil, {}, ranges(5, 3, 1)} {
		if e := m.Add(r); e != api.OK || m.Len() != i+1 {
			t.Errorf("Add(%v): %d, %d maps", r, e, m.Len())
		}
	}
	if New().Len() != 0 {
		t.Error("a new mapping has maps")
	}
}

func TestAddUpToMost(t *testing.T) {
	m := New()
	for i := range 4096 {
		if e := m.Add(ranges(0, 0, 1)); e != api.OK {
			t.Fatalf("Add %d: %d", i, e)
		}
	}
	if e := m.Add(nil); e != api.ErrForm || m.Len() != 4096 {
		t.Errorf("Add: %d, %d maps", e, m.Len())
	}
	if s, e := m.Map(0, 3, 1); s != (api.Spot{At: 4099, In: -1}) || e != api.OK {
		t.Errorf("Map: %v, %d", s, e)
	}
	if e := m.Mirror(0, 4095); e != api.OK {
		t.Errorf("Mirror: %d", e)
	}
}

func TestAddCopies(t *testing.T) {
	m, r := New(), ranges(5, 3, 1)
	m.Add(r)
	r[0] = api.Range{At: 0, New: 9}
	if s, _ := m.Map(0, 6, 1); s.At != 6 {
		t.Errorf("Map: %v", s)
	}
}

func TestMirror(t *testing.T) {
	m := mapping(t, [][]api.Range{nil, nil, nil, nil, nil})
	for _, x := range [][2]int{{-1, 0}, {0, 0}, {2, 1}, {0, 5}, {5, 6}, {-2, -1}, {math.MinInt, 1}, {0, math.MaxInt}, {math.MaxInt, math.MaxInt}} {
		if e := m.Mirror(x[0], x[1]); e != api.ErrArg {
			t.Errorf("Mirror(%d, %d): %d", x[0], x[1], e)
		}
	}
	for _, x := range []struct {
		i, j int
		want api.Errno
	}{
		{1, 3, api.OK},
		{1, 3, api.ErrArg},
		{0, 1, api.ErrArg},
		{1, 2, api.ErrArg},
		{2, 3, api.ErrArg},
		{3, 4, api.ErrArg},
		{0, 4, api.OK},
		{2, 4, api.ErrArg},
		{0, 2, api.ErrArg},
	} {
		if e := m.Mirror(x.i, x.j); e != x.want {
			t.Errorf("Mirror(%d, %d): %d; want %d", x.i, x.j, e, x.want)
		}
	}
}

func TestMappingMap(t *testing.T) {
	cut, back := ranges(5, 3, 1), ranges(5, 1, 3)
	row := [][]api.Range{cut, ranges(0, 0, 2), back}
	two := [2]int{0, 2}
	for _, x := range []struct {
		maps          [][]api.Range
		mirrors       [][2]int
		from, p, side int
		want          api.Spot
	}{
		{row, nil, 0, 6, 1, api.Spot{At: 10, Gone: true, In: -1}},
		{row, nil, 0, 6, -1, api.Spot{At: 9, Gone: true, In: -1}},
		{row, nil, 0, 9, 1, api.Spot{At: 11, In: -1}},
		{row, nil, 3, 6, 1, api.Spot{At: 6, In: -1}},
		{row, nil, 2, 6, 1, api.Spot{At: 8, In: -1}},
		// What is recovered leaves out all up to the mirror.
		{row, [][2]int{two}, 0, 6, 1, api.Spot{At: 6, In: -1}},
		{row, [][2]int{two}, 0, 7, -1, api.Spot{At: 7, In: -1}},
		{row, [][2]int{two}, 0, 5, 1, api.Spot{At: 5, In: -1}},
		{row, [][2]int{two}, 0, 8, -1, api.Spot{At: 8, In: -1}},
		// What is told in no range goes through all.
		{row, [][2]int{two}, 0, 5, -1, api.Spot{At: 9, In: -1}},
		{row, [][2]int{two}, 0, 8, 1, api.Spot{At: 10, In: -1}},
		{row, [][2]int{two}, 0, 9, 1, api.Spot{At: 11, In: -1}},
		// A mirror that is ahead is none to go on behind.
		{[][]api.Range{back, ranges(5, 3, 0)}, [][2]int{{0, 1}}, 1, 6, 1, api.Spot{At: 5, Gone: true, In: -1}},
		// Off is at most New of the mirror.
		{[][]api.Range{cut, ranges(4, 0, 1)}, [][2]int{{0, 1}}, 0, 7, 1, api.Spot{At: 5, In: -1}},
		{[][]api.Range{cut, ranges(4, 0, 0)}, [][2]int{{0, 1}}, 0, 7, 1, api.Spot{At: 4, In: -1}},
		// The mirror has no such range.
		{[][]api.Range{cut, nil}, [][2]int{{0, 1}}, 0, 6, 1, api.Spot{At: 6, Gone: true, In: -1}},
		{[][]api.Range{ranges(0, 0, 1, 5, 3, 1), ranges(0, 1, 0)}, [][2]int{{0, 1}}, 0, 6, 1, api.Spot{At: 6, Gone: true, In: -1}},
		{[][]api.Range{ranges(0, 0, 1, 5, 3, 1), ranges(0, 1, 0, 6, 1, 3)}, [][2]int{{0, 1}}, 0, 6, 1, api.Spot{At: 6, In: -1}},
		// What is gone and recovered may be gone again, and what was gone stays so.
		{[][]api.Range{cut, back, ranges(4, 4, 0)}, [][2]int{{0, 1}}, 0, 6, 1, api.Spot{At: 4, Gone: true, In: -1}},
		{[][]api.Range{ranges(6, 2, 3), cut, back}, [][2]int{{1, 2}}, 0, 7, -1, api.Spot{At: 6, Gone: true, In: -1}},
		{[][]api.Range{cut, ranges(2, 1, 0), back, ranges(0, 0, 4)}, [][2]int{two}, 0, 6, 1, api.Spot{At: 10, In: -1}},
	} {
		m := mapping(t, x.maps, x.mirrors...)
		for range 2 {
			if s, e := m.Map(x.from, x.p, x.side); s != x.want || e != api.OK {
				t.Errorf("Map(%d, %d, %d) of %v, %v: %v, %d; want %v", x.from, x.p, x.side, x.maps, x.mirrors, s, e, x.want)
			}
		}
	}
}

func TestMappingMapRefuses(t *testing.T) {
	most := api.MaxText
	grow, shrink := ranges(0, 0, 1), ranges(0, 1, 0)
	for _, x := range []struct {
		maps    [][]api.Range
		mirrors [][2]int
		from, p int
	}{
		{[][]api.Range{nil}, nil, -1, 0},
		{[][]api.Range{nil}, nil, 2, 0},
		{[][]api.Range{nil}, nil, math.MaxInt, 0},
		{[][]api.Range{nil}, nil, math.MinInt, 0},
		{[][]api.Range{nil}, nil, 0, -1},
		{[][]api.Range{nil}, nil, 1, -1},
		{[][]api.Range{nil}, nil, 1, most + 1},
		{nil, nil, 0, math.MaxInt},
		{nil, nil, 0, math.MinInt},
		{[][]api.Range{grow}, nil, 0, most},
		{[][]api.Range{grow, shrink}, nil, 0, most},
		{[][]api.Range{ranges(5, 3, 1), ranges(0, 0, most, 5, 1, 3)}, [][2]int{{0, 1}}, 0, most - 1},
		{[][]api.Range{ranges(0, 0, 0, 5, 3, 1), ranges(0, 0, most, 5, 1, 3)}, [][2]int{{0, 1}}, 0, 6},
		{[][]api.Range{ranges(0, 0, 0, 5, 3, 1), ranges(0, 0, most, 5, 1, 3), ranges(0, most, 0)}, [][2]int{{0, 1}}, 0, 6},
	} {
		m := mapping(t, x.maps, x.mirrors...)
		if s, e := m.Map(x.from, x.p, 1); s != (api.Spot{}) || e != api.ErrArg {
			t.Errorf("Map(%d, %d) of %v: %v, %d", x.from, x.p, x.maps, s, e)
		}
	}
}

func TestMappingMapUpToMost(t *testing.T) {
	most := api.MaxText
	m := mapping(t, [][]api.Range{ranges(0, 0, 1), ranges(0, 1, 0)})
	if s, e := m.Map(0, most-1, 1); s != (api.Spot{At: most - 1, In: -1}) || e != api.OK {
		t.Errorf("Map: %v, %d", s, e)
	}
	if s, e := m.Map(2, most, 1); s != (api.Spot{At: most, In: -1}) || e != api.OK {
		t.Errorf("Map: %v, %d", s, e)
	}
	// A place that is recovered never stands where its map would have sent it.
	m = mapping(t, [][]api.Range{ranges(0, 0, most, 5, 3, 1), ranges(0, most, 0, most, 1, 3)}, [2]int{0, 1})
	if s, e := m.Map(0, 6, 1); s != (api.Spot{At: 1, In: -1}) || e != api.OK {
		t.Errorf("Map: %v, %d", s, e)
	}
}

func TestMappingMapOfAllSmallMaps(t *testing.T) {
	small := [][]api.Range{
		nil,
		ranges(0, 0, 2), ranges(1, 3, 0), ranges(1, 0, 3), ranges(0, 2, 1), ranges(0, 1, 2), ranges(2, 2, 2),
		ranges(0, 1, 0, 2, 2, 1), ranges(0, 0, 1, 1, 1, 2), ranges(1, 0, 1, 1, 2, 0), ranges(0, 2, 0, 2, 0, 2),
		ranges(0, 0, 2, 0, 2, 0, 3, 2, 1),
	}
	for _, mirrors := range [][][2]int{nil, {{0, 1}}, {{0, 2}}, {{1, 2}}} {
		undo := map[int]int{}
		for _, x := range mirrors {
			undo[x[0]] = x[1]
		}
		for n := range len(small) * len(small) * len(small) {
			maps := [][]api.Range{small[n%12], small[n/12%12], small[n/144]}
			m := mapping(t, maps, mirrors...)
			for k := range 4 * 6 * 2 {
				from, p, side := k%4, k/4%6, k/24-1
				want := plainly(maps, undo, from, p, side)
				if s, e := m.Map(from, p, side); s != want || e != api.OK {
					t.Fatalf("Map(%d, %d, %d) of %v, %v: %v, %d; want %v", from, p, side, maps, mirrors, s, e, want)
				}
			}
		}
	}
}

func TestMappingThatNoCallMade(t *testing.T) {
	var none *Mapping
	for _, m := range []*Mapping{none, {}, new(Mapping)} {
		for range 2 {
			if e := m.Add(nil); e != api.ErrZero {
				t.Errorf("Add: %d", e)
			}
			if e := m.Add(ranges(-1, 0, 0)); e != api.ErrZero {
				t.Errorf("Add: %d", e)
			}
			if e := m.Mirror(0, 1); e != api.ErrZero {
				t.Errorf("Mirror: %d", e)
			}
			for _, from := range []int{0, -1, 1} {
				if s, e := m.Map(from, 0, 1); s != (api.Spot{}) || e != api.ErrZero {
					t.Errorf("Map: %v, %d", s, e)
				}
			}
			if n := m.Len(); n != 0 {
				t.Errorf("Len: %d", n)
			}
		}
	}
}
