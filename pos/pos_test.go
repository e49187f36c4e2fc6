package pos

import (
	"math"
	"reflect"
	"slices"
	"testing"

	"emender/api"
)

// ranges answers the map of its numbers, At, Old and New of each range.
func ranges(l ...int) []api.Range {
	var m []api.Range
	for one := range slices.Chunk(l, 3) {
		m = append(m, api.Range{At: one[0], Old: one[1], New: one[2]})
	}
	return m
}

// rightMaps answers all right maps of at most most ranges, with places below places and numbers below sizes.
func rightMaps(most, places, sizes int) [][]api.Range {
	all := [][]api.Range{nil}
	last := all
	for range most {
		var next [][]api.Range
		for _, m := range last {
			first := 0
			if len(m) > 0 {
				first = m[len(m)-1].At + m[len(m)-1].Old
			}
			for at := first; at < places; at++ {
				for n := range sizes * sizes {
					next = append(next, append(slices.Clone(m), api.Range{At: at, Old: n / sizes, New: n % sizes}))
				}
			}
		}
		all = append(all, next...)
		last = next
	}
	return all
}

// moved answers d of the range i of m.
func moved(m []api.Range, i int) int {
	d := 0
	for _, r := range m[:i] {
		d += r.New - r.Old
	}
	return d
}

// plain says in the chapter's words where p goes through m.
func plain(m []api.Range, p, side int) api.Spot {
	i := slices.IndexFunc(m, func(r api.Range) bool { return r.At <= p && p <= r.At+r.Old })
	if i < 0 {
		ahead := 0
		for ahead < len(m) && m[ahead].At < p {
			ahead++
		}
		return api.Spot{At: p + moved(m, ahead), In: -1}
	}
	r := m[i]
	left := r.At + moved(m, i)
	right := left + r.New
	spot := api.Spot{At: right, In: i, Off: p - r.At, Gone: r.At < p && p < r.At+r.Old}
	if r.Old == 0 && side < 0 || r.Old > 0 && p == r.At || spot.Gone && side < 0 {
		spot.At = left
	}
	if p == r.At && side < 0 || p == r.At+r.Old && side >= 0 {
		spot.In, spot.Off = -1, 0
	}
	return spot
}

func TestRight(t *testing.T) {
	most := api.MaxText
	for _, m := range [][]api.Range{
		nil,
		{},
		ranges(0, 0, 0),
		ranges(most, most, most),
		ranges(5, 3, 1, 8, 0, 2),
		ranges(5, 0, 3, 5, 0, 2, 5, 1, 0, 6, 0, 0),
		ranges(0, 1, 0, 1, 1, 0, 2, 1, 0, 3, 1, 0),
		ranges(0, most, 0, most, 0, 0),
	} {
		if !Right(m) {
			t.Errorf("Right(%v): false", m)
		}
	}
	for _, m := range [][]api.Range{
		ranges(-1, 0, 0),
		ranges(0, -1, 0),
		ranges(0, 0, -1),
		ranges(most+1, 0, 0),
		ranges(0, most+1, 0),
		ranges(0, 0, most+1),
		ranges(5, 3, 1, 7, 0, 0),
		ranges(5, 0, 0, 4, 0, 0),
		ranges(5, 3, 9, 8, 0, 0, 7, 0, 0),
		ranges(0, 0, 0, 1, 0, 0, 2, 0, 0, 3, 0, 0, 4, 0, 0),
		ranges(math.MaxInt, math.MaxInt, math.MaxInt),
		ranges(math.MinInt, 0, 0),
		ranges(0, math.MaxInt, 0, 5, 0, 0),
		ranges(0, 0, math.MinInt, 5, 0, 0),
	} {
		if Right(m) {
			t.Errorf("Right(%v): true", m)
		}
	}
}

func TestMap(t *testing.T) {
	most := api.MaxText
	for _, x := range []struct {
		m       []api.Range
		p, side int
		want    api.Spot
	}{
		{nil, 0, 0, api.Spot{At: 0, In: -1}},
		{nil, most, -1, api.Spot{At: most, In: -1}},
		{ranges(5, 3, 1), 6, 1, api.Spot{At: 6, Gone: true, In: 0, Off: 1}},
		{ranges(5, 3, 1), 6, 0, api.Spot{At: 6, Gone: true, In: 0, Off: 1}},
		{ranges(5, 3, 1), 7, math.MinInt, api.Spot{At: 5, Gone: true, In: 0, Off: 2}},
		{ranges(5, 3, 1), 7, math.MaxInt, api.Spot{At: 6, Gone: true, In: 0, Off: 2}},
		{ranges(5, 3, 1), 5, 1, api.Spot{At: 5, In: 0, Off: 0}},
		{ranges(5, 3, 1), 5, -1, api.Spot{At: 5, In: -1}},
		{ranges(5, 3, 1), 8, 1, api.Spot{At: 6, In: -1}},
		{ranges(5, 3, 1), 8, -1, api.Spot{At: 6, In: 0, Off: 3}},
		{ranges(5, 3, 1), 9, 1, api.Spot{At: 7, In: -1}},
		{ranges(2, 0, 3), 2, -1, api.Spot{At: 2, In: -1}},
		{ranges(2, 0, 3), 2, 0, api.Spot{At: 5, In: -1}},
		{ranges(2, 0, 3), 3, -1, api.Spot{At: 6, In: -1}},
		// What touches is in the first of them.
		{ranges(5, 3, 1, 8, 0, 2), 8, 1, api.Spot{At: 6, In: -1}},
		{ranges(5, 3, 1, 8, 0, 2), 8, -1, api.Spot{At: 6, In: 0, Off: 3}},
		{ranges(5, 3, 1, 8, 0, 2), 9, 1, api.Spot{At: 9, In: -1}},
		{ranges(5, 0, 3, 5, 2, 1), 5, 1, api.Spot{At: 8, In: -1}},
		{ranges(5, 0, 3, 5, 2, 1), 5, -1, api.Spot{At: 5, In: -1}},
		{ranges(5, 0, 3, 5, 2, 1), 6, -1, api.Spot{At: 8, Gone: true, In: 1, Off: 1}},
		{ranges(5, 0, 3, 5, 2, 1), 6, 1, api.Spot{At: 9, Gone: true, In: 1, Off: 1}},
		{ranges(1, 1, 0, 3, 1, 4, 6, 2, 0, 9, 2, 7), 10, -1, api.Spot{At: 9, Gone: true, In: 3, Off: 1}},
		{ranges(1, 1, 0, 3, 1, 4, 6, 2, 0, 9, 2, 7), 10, 1, api.Spot{At: 16, Gone: true, In: 3, Off: 1}},
		{ranges(1, 1, 0, 3, 1, 4, 6, 2, 0, 9, 2, 7), 12, 1, api.Spot{At: 17, In: -1}},
		// A map alone may send a place above MaxText.
		{ranges(0, 0, most), most, 1, api.Spot{At: 2 * most, In: -1}},
		{ranges(0, most, 0), most, 1, api.Spot{At: 0, In: -1}},
		{ranges(most, most, most), most, -1, api.Spot{At: most, In: -1}},
	} {
		if s, e := Map(x.m, x.p, x.side); s != x.want || e != api.OK {
			t.Errorf("Map(%v, %d, %d): %v, %d; want %v", x.m, x.p, x.side, s, e, x.want)
		}
	}
}

func TestMapRefuses(t *testing.T) {
	wrong := ranges(5, 3, 1, 7, 0, 0)
	for _, x := range []struct {
		m    []api.Range
		p    int
		want api.Errno
	}{
		{wrong, 0, api.ErrForm},
		{wrong, -1, api.ErrForm},
		{ranges(-1, 0, 0), 0, api.ErrForm},
		{nil, -1, api.ErrArg},
		{nil, api.MaxText + 1, api.ErrArg},
		{ranges(5, 3, 1), math.MinInt, api.ErrArg},
		{ranges(5, 3, 1), math.MaxInt, api.ErrArg},
	} {
		if s, e := Map(x.m, x.p, 1); s != (api.Spot{}) || e != x.want {
			t.Errorf("Map(%v, %d): %v, %d; want %d", x.m, x.p, s, e, x.want)
		}
	}
}

func TestMapOfAllSmallMaps(t *testing.T) {
	for _, m := range rightMaps(3, 5, 3) {
		if !Right(m) {
			t.Fatalf("Right(%v): false", m)
		}
		for p := range 9 {
			for side := -1; side <= 1; side++ {
				if s, e := Map(m, p, side); s != plain(m, p, side) || e != api.OK {
					t.Fatalf("Map(%v, %d, %d): %v, %d; want %v", m, p, side, s, e, plain(m, p, side))
				}
			}
		}
	}
}

// changed answers the row 0, 1, .. of that length, changed as m says; what comes is -1.
func changed(m []api.Range, length int) []int {
	var row []int
	last := 0
	for _, r := range m {
		for ; last < r.At; last++ {
			row = append(row, last)
		}
		for range r.New {
			row = append(row, -1)
		}
		last += r.Old
	}
	for ; last < length; last++ {
		row = append(row, last)
	}
	return row
}

func TestPlaceKeepsItsNeighbours(t *testing.T) {
	const length = 8
	for _, m := range rightMaps(3, 5, 3) {
		row := changed(m, length)
		for p := range length {
			if slices.ContainsFunc(m, func(r api.Range) bool { return r.At <= p && p <= r.At+r.Old }) {
				continue
			}
			s, _ := Map(m, p, 1)
			if row[s.At] != p || p > 0 && row[s.At-1] != p-1 {
				t.Fatalf("Map(%v, %d): %v in %v", m, p, s, row)
			}
		}
	}
}

func TestPlaceComesBack(t *testing.T) {
	for _, m := range rightMaps(3, 5, 3) {
		back, e := Invert(m)
		if e != api.OK {
			t.Fatalf("Invert(%v): %d", m, e)
		}
		for p := range 9 {
			if slices.ContainsFunc(m, func(r api.Range) bool { return r.At <= p && p <= r.At+r.Old }) {
				continue
			}
			for side := -1; side <= 1; side++ {
				there, _ := Map(m, p, side)
				if here, e := Map(back, there.At, side); here != (api.Spot{At: p, In: -1}) || e != api.OK {
					t.Fatalf("%d through %v and back: %v, %d", p, m, here, e)
				}
			}
		}
	}
}

func TestPlacesKeepTheirOrder(t *testing.T) {
	for _, m := range rightMaps(3, 5, 3) {
		for side := -1; side <= 1; side++ {
			last := 0
			for p := range 9 {
				s, _ := Map(m, p, side)
				if s.At < last {
					t.Fatalf("Map(%v, %d, %d): %v, ahead of %d", m, p, side, s, last)
				}
				last = s.At
			}
		}
	}
}

func TestInvert(t *testing.T) {
	most := api.MaxText
	for _, x := range []struct{ m, want []api.Range }{
		{nil, nil},
		{ranges(), nil},
		{ranges(5, 3, 1), ranges(5, 1, 3)},
		{ranges(2, 0, 3, 5, 2, 0), ranges(2, 3, 0, 8, 0, 2)},
		{ranges(5, 3, 1, 8, 0, 2), ranges(5, 1, 3, 6, 2, 0)},
		{ranges(1, 1, 0, 3, 1, 4, 6, 2, 0, 9, 2, 7), ranges(1, 0, 1, 2, 4, 1, 8, 0, 2, 9, 7, 2)},
		{ranges(0, 0, 1, most-1, 0, 0), ranges(0, 1, 0, most, 0, 0)},
		{ranges(0, most, 0, most, most, most), ranges(0, 0, most, 0, most, most)},
	} {
		b, e := Invert(x.m)
		if !slices.Equal(b, x.want) || e != api.OK {
			t.Errorf("Invert(%v): %v, %d; want %v", x.m, b, e, x.want)
		}
		if again, e := Invert(b); !slices.Equal(again, x.m) || e != api.OK {
			t.Errorf("Invert(%v): %v, %d; want %v", b, again, e, x.m)
		}
	}
	for _, m := range [][]api.Range{
		ranges(5, 3, 1, 7, 0, 0),
		ranges(0, 0, -1),
		ranges(0, 0, 1, most, 0, 0),
		ranges(0, 0, most, most, 0, 0),
		ranges(0, 0, most, 0, 0, most, 0, 0, most, most, most, most),
		ranges(0, 0, 0, 1, 0, 0, 2, 0, 0, 3, 0, 0, 4, 0, 0),
	} {
		if b, e := Invert(m); b != nil || e != api.ErrForm {
			t.Errorf("Invert(%v): %v, %d", m, b, e)
		}
	}
}

func TestRecover(t *testing.T) {
	most := api.MaxText
	m := ranges(2, 0, 3, 5, 1, 2)
	for _, x := range []struct {
		m             []api.Range
		in, off, want int
	}{
		{m, 0, 0, 2},
		{m, 0, 3, 5},
		{m, 1, 0, 8},
		{m, 1, 1, 9},
		{m, 1, 2, 10},
		{ranges(4, 3, 0), 0, 0, 4},
		{ranges(1, 1, 0, 3, 1, 4, 6, 2, 0, 9, 2, 7), 3, 7, 16},
		{ranges(0, 0, most, most, 0, most), 1, most, 3 * most},
	} {
		if p, e := Recover(x.m, x.in, x.off); p != x.want || e != api.OK {
			t.Errorf("Recover(%v, %d, %d): %d, %d; want %d", x.m, x.in, x.off, p, e, x.want)
		}
	}
	for _, x := range []struct {
		m       []api.Range
		in, off int
		want    api.Errno
	}{
		{ranges(5, 3, 1, 7, 0, 0), 0, 0, api.ErrForm},
		{ranges(5, 3, 1, 7, 0, 0), -1, -1, api.ErrForm},
		{nil, 0, 0, api.ErrArg},
		{m, -1, 0, api.ErrArg},
		{m, 2, 0, api.ErrArg},
		{m, math.MaxInt, 0, api.ErrArg},
		{m, math.MinInt, 0, api.ErrArg},
		{m, 0, -1, api.ErrArg},
		{m, 0, 4, api.ErrArg},
		{m, 1, 3, api.ErrArg},
		{m, 0, math.MinInt, api.ErrArg},
		{m, 0, math.MaxInt, api.ErrArg},
	} {
		if p, e := Recover(x.m, x.in, x.off); p != 0 || e != x.want {
			t.Errorf("Recover(%v, %d, %d): %d, %d; want %d", x.m, x.in, x.off, p, e, x.want)
		}
	}
}

func TestWhatIsHandedInStays(t *testing.T) {
	m := ranges(2, 0, 3, 5, 1, 2)
	b, _ := Invert(m)
	Map(m, 5, 1)
	Recover(m, 1, 1)
	b[0] = api.Range{At: 77}
	if want := ranges(2, 0, 3, 5, 1, 2); !reflect.DeepEqual(m, want) {
		t.Errorf("%v; want %v", m, want)
	}
}
