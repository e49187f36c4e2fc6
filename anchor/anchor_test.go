package anchor

import (
	"math"
	"slices"
	"testing"

	"emender/api"
	"emender/pos"
	"emender/sample"
)

func answers(t *testing.T, e api.Errno, want api.Errno) {
	t.Helper()
	if e != want {
		t.Errorf("the answer is %d, want %d", e, want)
	}
}

// with answers a new set of these notes.
func with(t *testing.T, l ...Note) *Set {
	t.Helper()
	s := New()
	for _, n := range l {
		answers(t, s.Add(n.Id, n.From, n.To), api.OK)
	}
	return s
}

// has holds all notes of a set against those that are wanted, in order.
func has(t *testing.T, s *Set, want ...Note) {
	t.Helper()
	if l := s.List(); !slices.Equal(l, want) {
		t.Errorf("the notes are %v, want %v", l, want)
	}
}

// sends holds what Send answers against how many go.
func sends(t *testing.T, s *Set, m []api.Range, gone int) {
	t.Helper()
	if n, e := s.Send(m); n != gone || e != api.OK {
		t.Errorf("Send(%v): %d, %d; want %d", m, n, e, gone)
	}
}

// wrongPlaces are pairs that no note stands between.
func wrongPlaces() [][2]int {
	return [][2]int{
		{0, 0}, {3, 3}, {3, 2}, {-1, 0}, {-1, 3}, {-5, -2},
		{0, api.MaxDoc + 1}, {api.MaxDoc, api.MaxDoc}, {api.MaxDoc, api.MaxDoc + 1}, {api.MaxDoc + 1, api.MaxDoc},
		{math.MinInt, math.MaxInt}, {math.MaxInt, math.MinInt}, {math.MinInt, 1}, {0, math.MaxInt},
	}
}

func TestP25_1Add(t *testing.T) {
	s := New()
	has(t, s)
	answers(t, s.Add(3, 2, 5), api.OK)
	answers(t, s.Add(1, 2, 5), api.OK)
	answers(t, s.Add(0, 0, 1), api.OK)
	answers(t, s.Add(-7, 0, api.MaxDoc), api.OK)
	answers(t, s.Add(math.MaxInt, api.MaxDoc-1, api.MaxDoc), api.OK)
	answers(t, s.Add(math.MinInt, 4, 9), api.OK)
	has(t, s, Note{0, 0, 1}, Note{-7, 0, api.MaxDoc}, Note{1, 2, 5}, Note{3, 2, 5}, Note{math.MinInt, 4, 9}, Note{math.MaxInt, api.MaxDoc - 1, api.MaxDoc})
}

func TestP25_1AddRefuses(t *testing.T) {
	s := with(t, Note{1, 2, 5})
	for _, p := range wrongPlaces() {
		answers(t, s.Add(2, p[0], p[1]), api.ErrArg)
		answers(t, s.Add(1, p[0], p[1]), api.ErrArg) // ahead of the number's error
	}
	answers(t, s.Add(1, 2, 5), api.ErrForm)
	answers(t, s.Add(1, 0, 1), api.ErrForm)
	has(t, s, Note{1, 2, 5})
}

func TestP25_1AddUpToTheLimit(t *testing.T) {
	s := New()
	for i := range 200 {
		answers(t, s.Add(i, i, i+1), api.OK)
	}
	answers(t, s.Add(200, 0, 1), api.ErrLong)
	answers(t, s.Add(0, 0, 1), api.ErrForm) // ahead of the limit's error
	answers(t, s.Add(200, 1, 1), api.ErrArg)
	if l := s.List(); len(l) != 200 || l[199] != (Note{199, 199, 200}) {
		t.Errorf("the notes are %v", l)
	}
	answers(t, s.Take(7), api.OK)
	answers(t, s.Add(200, 0, 1), api.OK)
	answers(t, s.Add(7, 0, 1), api.ErrLong)
	sends(t, s, []api.Range{{At: 10, Old: 1}}, 1)
	answers(t, s.Add(7, 0, 1), api.OK)
	answers(t, s.Add(10, 0, 1), api.ErrLong)
}

func TestP25_1Take(t *testing.T) {
	s := with(t, Note{3, 2, 5}, Note{1, 4, 8}, Note{-2, 0, 1})
	for _, id := range []int{0, 2, -1, math.MinInt, math.MaxInt} {
		answers(t, s.Take(id), api.ErrNone)
	}
	answers(t, s.Take(3), api.OK)
	has(t, s, Note{-2, 0, 1}, Note{1, 4, 8})
	answers(t, s.Take(3), api.ErrNone)
	answers(t, s.Take(-2), api.OK)
	answers(t, s.Take(1), api.OK)
	has(t, s)
	answers(t, s.Take(1), api.ErrNone)
	answers(t, s.Add(3, 6, 7), api.OK)
	has(t, s, Note{3, 6, 7})
}

// TestP25_1Send: where the note 5 to 9 goes.
func TestP25_1Send(t *testing.T) {
	for _, x := range []struct {
		m        []api.Range
		from, to int
	}{
		{nil, 5, 9},
		{[]api.Range{}, 5, 9},
		{[]api.Range{{}}, 5, 9},
		{[]api.Range{{At: 0, New: 4}}, 9, 13},
		{[]api.Range{{At: 5, New: 4}}, 9, 13}, // what comes at its ends stays outside
		{[]api.Range{{At: 9, New: 4}}, 5, 9},
		{[]api.Range{{At: 6, New: 4}}, 5, 13},
		{[]api.Range{{At: 8, New: 4}}, 5, 13},
		{[]api.Range{{At: 10, New: 4}}, 5, 9},
		{[]api.Range{{At: 0, Old: 5}}, 0, 4},
		{[]api.Range{{At: 1, Old: 3, New: 1}}, 3, 7},
		{[]api.Range{{At: 3, Old: 2, New: 4}}, 7, 11}, // what ends where it begins
		{[]api.Range{{At: 3, Old: 3, New: 4}}, 7, 10}, // its begin is taken out
		{[]api.Range{{At: 3, Old: 3}}, 3, 6},
		{[]api.Range{{At: 5, Old: 1, New: 2}}, 5, 10}, // what comes in its own tokens' place stays within
		{[]api.Range{{At: 5, Old: 4, New: 1}}, 5, 6},
		{[]api.Range{{At: 5, Old: 4, New: 9}}, 5, 14},
		{[]api.Range{{At: 6, Old: 2}}, 5, 7},
		{[]api.Range{{At: 8, Old: 1, New: 3}}, 5, 11},
		{[]api.Range{{At: 8, Old: 2, New: 3}}, 5, 8}, // its end is taken out
		{[]api.Range{{At: 9, Old: 2, New: 3}}, 5, 9},
		{[]api.Range{{At: 5, Old: 5, New: 3}}, 0, 0}, // of all that is taken out nothing is left
		{[]api.Range{{At: 4, Old: 5, New: 3}}, 0, 0},
		{[]api.Range{{At: 5, Old: 4}}, 0, 0},
		{[]api.Range{{At: 4, Old: 6}}, 0, 0},
		{[]api.Range{{At: 0, Old: 20, New: 20}}, 0, 0},
		{[]api.Range{{At: 0, New: 1}, {At: 5, New: 1}, {At: 7, New: 1}, {At: 9, New: 1}}, 7, 12},
		{[]api.Range{{At: 3, Old: 3, New: 1}, {At: 8, Old: 3, New: 1}}, 4, 6},
		{[]api.Range{{At: 3, Old: 3, New: 1}, {At: 6, Old: 2}, {At: 8, Old: 3, New: 1}}, 0, 0},
		{[]api.Range{{At: 9, Old: api.MaxText, New: api.MaxText}}, 5, 9},
	} {
		s := with(t, Note{4, 5, 9})
		if x.from == x.to {
			sends(t, s, x.m, 1)
			has(t, s)
			continue
		}
		sends(t, s, x.m, 0)
		has(t, s, Note{4, x.from, x.to})
	}
}

func TestP25_1SendMany(t *testing.T) {
	s := with(t, Note{1, 0, 3}, Note{2, 1, 2}, Note{3, 2, 4}, Note{4, 3, 4}, Note{5, 2, 3}, Note{6, 4, 9})
	sends(t, s, []api.Range{{At: 1, Old: 2}}, 2)
	has(t, s, Note{1, 0, 1}, Note{3, 1, 2}, Note{4, 1, 2}, Note{6, 2, 7})
	sends(t, s, []api.Range{{At: 0, Old: 2, New: 5}}, 3) // each of those has an end that is taken out
	has(t, s, Note{6, 5, 10})
}

func TestP25_1TheChaptersExample(t *testing.T) {
	s := with(t, Note{1, 2, 5})
	sends(t, s, []api.Range{{At: 3, Old: 0, New: 4}}, 0)
	has(t, s, Note{1, 2, 9})
}

// wrongMaps are no maps.
func wrongMaps() [][]api.Range {
	return [][]api.Range{
		{{At: -1}}, {{Old: -1}}, {{New: -1}},
		{{At: api.MaxText + 1}}, {{Old: api.MaxText + 1}}, {{New: api.MaxText + 1}},
		{{At: 5}, {At: 4}}, {{At: 5, Old: 2}, {At: 6}},
		make([]api.Range, 5),
		{{At: math.MinInt, Old: math.MaxInt, New: math.MaxInt}},
		{{At: math.MaxInt, Old: math.MaxInt, New: math.MinInt}},
	}
}

func TestP25_1SendRefusesWrongMaps(t *testing.T) {
	l := []Note{{1, 2, 5}, {2, 3, 2048}}
	for _, m := range wrongMaps() {
		for _, s := range []*Set{New(), with(t, l...)} {
			before := s.List()
			if n, e := s.Send(m); n != 0 || e != api.ErrForm {
				t.Errorf("Send(%v): %d, %d", m, n, e)
			}
			has(t, s, before...)
		}
	}
}

func TestP25_1SendUpToMaxDoc(t *testing.T) {
	l := []Note{{1, 2, 5}, {3, 1990, 2040}, {2, 2000, 2010}}
	s := with(t, l...)
	for _, m := range [][]api.Range{
		{{At: 0, New: 9}},
		{{At: 2039, New: 9}},
		{{At: 2039, Old: 1, New: 10}},
		{{At: 0, New: api.MaxText}},
		{{At: 2, Old: 3}, {At: 2039, New: 12}},
		{{At: 2, Old: 3}, {At: 1980, New: 12}},
	} {
		if n, e := s.Send(m); n != 0 || e != api.ErrForm {
			t.Errorf("Send(%v): %d, %d", m, n, e)
		}
		has(t, s, l...)
	}
	sends(t, s, []api.Range{{At: 2040, New: api.MaxText}}, 0)
	has(t, s, l...)
	sends(t, s, []api.Range{{At: 2, Old: 3}, {At: 1980, New: 11}}, 1)
	has(t, s, Note{3, 1998, 2048}, Note{2, 2008, 2018})
	answers(t, s.Take(3), api.OK)
	sends(t, s, []api.Range{{At: 0, New: 30}}, 0)
	has(t, s, Note{2, 2038, 2048})
	if n, e := s.Send([]api.Range{{At: 0, New: 1}}); n != 0 || e != api.ErrForm {
		t.Errorf("Send: %d, %d", n, e)
	}
}

// TestP25_1SendOfWhatGoes: the places of what goes count too, up to the same limit.
func TestP25_1SendOfWhatGoes(t *testing.T) {
	s := with(t, Note{2, 2000, 2010})
	if n, e := s.Send([]api.Range{{At: 1995, Old: 20, New: 54}}); n != 0 || e != api.ErrForm {
		t.Errorf("Send: %d, %d", n, e)
	}
	has(t, s, Note{2, 2000, 2010})
	sends(t, s, []api.Range{{At: 1995, Old: 20, New: 53}}, 1)
	has(t, s)
}

// TestP25_2List: those of one begin are by their end, and of one end by their number.
func TestP25_2List(t *testing.T) {
	s := with(t, Note{9, 3, 4}, Note{8, 3, 5}, Note{2, 3, 4}, Note{7, 0, 9}, Note{-3, 3, 4}, Note{10, 4, 5}, Note{1, 2, 9})
	has(t, s, Note{7, 0, 9}, Note{1, 2, 9}, Note{-3, 3, 4}, Note{2, 3, 4}, Note{9, 3, 4}, Note{8, 3, 5}, Note{10, 4, 5})
	has(t, s, s.List()...)
}

func TestP25_2At(t *testing.T) {
	s := with(t, Note{3, 2, 5}, Note{1, 4, 8}, Note{-9, 2, 3}, Note{2, 9, 10}, Note{7, 2047, 2048})
	for _, x := range []struct {
		place int
		want  []int
	}{
		{0, nil}, {1, nil}, {2, []int{-9, 3}}, {3, []int{3}}, {4, []int{1, 3}}, {5, []int{1}}, {7, []int{1}},
		{8, nil}, {9, []int{2}}, {10, nil}, {2046, nil}, {2047, []int{7}}, {2048, nil}, {2049, nil},
		{-1, nil}, {math.MinInt, nil}, {math.MaxInt, nil},
	} {
		if got := s.At(x.place); !slices.Equal(got, x.want) {
			t.Errorf("At(%d): %v, want %v", x.place, got, x.want)
		}
	}
}

func TestP25_2Spans(t *testing.T) {
	for _, x := range []struct {
		notes []Note
		want  [][2]int
	}{
		{nil, nil},
		{[]Note{{1, 2, 5}}, [][2]int{{2, 5}}},
		{[]Note{{1, 2, 5}, {2, 5, 6}}, [][2]int{{2, 6}}},
		{[]Note{{1, 5, 6}, {2, 2, 5}}, [][2]int{{2, 6}}},
		{[]Note{{1, 2, 5}, {2, 6, 7}}, [][2]int{{2, 5}, {6, 7}}},
		{[]Note{{1, 6, 7}, {2, 2, 5}}, [][2]int{{2, 5}, {6, 7}}},
		{[]Note{{1, 0, 2048}, {2, 6, 7}, {3, 9, 10}}, [][2]int{{0, 2048}}},
		{[]Note{{1, 2, 9}, {2, 2, 4}, {3, 3, 5}, {4, 9, 10}}, [][2]int{{2, 10}}},
		{[]Note{{1, 2, 5}, {2, 2, 5}, {3, 4, 8}, {4, 9, 10}}, [][2]int{{2, 8}, {9, 10}}},
		{[]Note{{1, 2, 9}, {2, 3, 4}, {3, 8, 12}}, [][2]int{{2, 12}}},
	} {
		if got := with(t, x.notes...).Spans(); !slices.Equal(got, x.want) {
			t.Errorf("Spans of %v: %v, want %v", x.notes, got, x.want)
		}
	}
}

// TestP25_3: a set that no call made comes ahead of all that is wrong.
func TestP25_3NoSet(t *testing.T) {
	for _, s := range []*Set{nil, {}, new(Set)} {
		for _, x := range [][3]int{{1, 2, 5}, {1, 5, 2}, {1, -1, math.MaxInt}} {
			answers(t, s.Add(x[0], x[1], x[2]), api.ErrZero)
		}
		answers(t, s.Take(1), api.ErrZero)
		for _, m := range append(wrongMaps(), nil, []api.Range{{At: 1, New: 2}}) {
			if n, e := s.Send(m); n != 0 || e != api.ErrZero {
				t.Errorf("Send: %d, %d", n, e)
			}
		}
		if a, l, p := s.At(0), s.List(), s.Spans(); a != nil || l != nil || p != nil {
			t.Errorf("At %v, List %v, Spans %v", a, l, p)
		}
	}
}

// smallMaps are all maps of up to two ranges in seven tokens, of which none touches the other.
func smallMaps() [][]api.Range {
	ones := []api.Range{}
	for at := range 7 {
		for old := range 7 - at {
			for come := range 3 {
				ones = append(ones, api.Range{At: at, Old: old, New: come})
			}
		}
	}
	all := [][]api.Range{nil}
	for _, a := range ones {
		all = append(all, []api.Range{a})
		for _, b := range ones {
			if a.At+a.Old < b.At {
				all = append(all, []api.Range{a, b})
			}
		}
	}
	return all
}

// changed answers what comes of seven tokens, 0 to 6: those that come at range i are 100 and i.
func changed(m []api.Range) []int {
	var l []int
	end := 0
	for i, r := range m {
		for ; end < r.At; end++ {
			l = append(l, end)
		}
		l = append(l, slices.Repeat([]int{100 + i}, r.New)...)
		end += r.Old
	}
	for ; end < 7; end++ {
		l = append(l, end)
	}
	return l
}

// stays answers what a note of the seven tokens covers then: of its own what is not taken out, and what came within it.
func stays(n Note, m []api.Range) []int {
	return slices.DeleteFunc(changed(m), func(token int) bool {
		if token < 100 {
			return token < n.From || n.To <= token
		}
		r := m[token-100]
		if r.Old == 0 {
			return r.At <= n.From || n.To <= r.At
		}
		return r.At < n.From || n.To < r.At+r.Old
	})
}

// TestP25_4CoversNoMore: all notes of seven tokens, through all small maps.
func TestP25_4CoversNoMore(t *testing.T) {
	var all []Note
	for from := range 7 {
		for to := from + 1; to <= 7; to++ {
			all = append(all, Note{len(all), from, to})
		}
	}
	for _, m := range smallMaps() {
		s := with(t, all...)
		gone, _ := s.Send(m)
		left := s.List()
		if gone+len(left) != len(all) {
			t.Fatalf("%v: %d go, %d stay", m, gone, len(left))
		}
		for _, n := range left {
			if got, want := changed(m)[n.From:n.To], stays(all[n.Id], m); !slices.Equal(got, want) {
				t.Fatalf("%v: %v covers %v, want %v", m, all[n.Id], got, want)
			}
			all[n.Id].Id = -1
		}
		for i, n := range all {
			if n.Id >= 0 && len(stays(n, m)) > 0 {
				t.Fatalf("%v: %v goes", m, n)
			}
			all[i].Id = i
		}
		keepsOrder(t, all, left, m)
	}
}

// keepsOrder holds the places of all pairs of notes against those ahead of the change.
func keepsOrder(t *testing.T, before []Note, left []Note, m []api.Range) {
	t.Helper()
	for _, a := range left {
		for _, b := range left {
			was, other := before[a.Id], before[b.Id]
			if was.From <= other.From && a.From > b.From || was.To <= other.To && a.To > b.To || was.To <= other.From && a.To > b.From {
				t.Fatalf("%v: %v and %v are %v and %v", m, was, other, a, b)
			}
		}
	}
}

// plain is a set in the chapter's words: notes in a row, as they were added.
type plain struct {
	notes []Note
}

func (p *plain) has(id int) bool {
	return slices.ContainsFunc(p.notes, func(n Note) bool { return n.Id == id })
}

func (p *plain) add(n Note) api.Errno {
	switch {
	case n.From < 0 || n.From >= n.To || n.To > 2048:
		return api.ErrArg
	case p.has(n.Id):
		return api.ErrForm
	case len(p.notes) == 200:
		return api.ErrLong
	}
	p.notes = append(p.notes, n)
	return api.OK
}

func (p *plain) take(id int) api.Errno {
	if !p.has(id) {
		return api.ErrNone
	}
	p.notes = slices.DeleteFunc(p.notes, func(n Note) bool { return n.Id == id })
	return api.OK
}

func (p *plain) send(m []api.Range) (int, api.Errno) {
	if !pos.Right(m) {
		return 0, api.ErrForm
	}
	var sent []Note
	for _, n := range p.notes {
		from, _ := pos.Map(m, n.From, 1)
		to, _ := pos.Map(m, n.To, -1)
		if from.At > 2048 || to.At > 2048 {
			return 0, api.ErrForm
		}
		if from.At < to.At {
			sent = append(sent, Note{n.Id, from.At, to.At})
		}
	}
	gone := len(p.notes) - len(sent)
	p.notes = sent
	return gone, api.OK
}

// at answers the numbers of those that cover a token.
func (p *plain) at(place int) []int {
	var ids []int
	for _, n := range p.notes {
		if n.From <= place && place < n.To {
			ids = append(ids, n.Id)
		}
	}
	slices.Sort(ids)
	return ids
}

// list takes the notes one by one, each time the first of all that are left.
func (p *plain) list() []Note {
	left := slices.Clone(p.notes)
	var l []Note
	for len(left) > 0 {
		first := 0
		for i, n := range left {
			m := left[first]
			if n.From < m.From || n.From == m.From && (n.To < m.To || n.To == m.To && n.Id < m.Id) {
				first = i
			}
		}
		l = append(l, left[first])
		left = slices.Delete(left, first, first+1)
	}
	return l
}

// spans goes over all tokens that there may be.
func (p *plain) spans() [][2]int {
	var covered [2049]bool
	for _, n := range p.notes {
		for i := n.From; i < n.To; i++ {
			covered[i] = true
		}
	}
	var l [][2]int
	from := 0
	for i := range covered {
		if i > 0 && covered[i-1] && !covered[i] {
			l = append(l, [2]int{from, i})
		}
		if covered[i] && (i == 0 || !covered[i-1]) {
			from = i
		}
	}
	return l
}

// isLike holds all that a set tells against the chapter's words.
func isLike(t *testing.T, s *Set, p *plain, places []int) {
	t.Helper()
	if got, want := s.List(), p.list(); !slices.Equal(got, want) {
		t.Fatalf("List: %v, want %v", got, want)
	}
	if got, want := s.Spans(), p.spans(); !slices.Equal(got, want) {
		t.Fatalf("Spans: %v, want %v", got, want)
	}
	for _, place := range places {
		if got, want := s.At(place), p.at(place); !slices.Equal(got, want) {
			t.Fatalf("At(%d): %v, want %v", place, got, want)
		}
	}
}

// act is one call: with a map a Send, else of a note without places a Take, else an Add.
type act struct {
	n Note
	m []api.Range
}

// do does a call at a set and in the chapter's words.
func (a act) do(t *testing.T, s *Set, p *plain) {
	t.Helper()
	switch {
	case a.m != nil:
		n, e := s.Send(a.m)
		if want, wantE := p.send(a.m); n != want || e != wantE {
			t.Fatalf("Send(%v): %d, %d; want %d, %d", a.m, n, e, want, wantE)
		}
	case a.n.From == 0 && a.n.To == 0:
		answers(t, s.Take(a.n.Id), p.take(a.n.Id))
	default:
		answers(t, s.Add(a.n.Id, a.n.From, a.n.To), p.add(a.n))
	}
}

// TestShortRows: all rows of up to five of these calls.
func TestShortRows(t *testing.T) {
	acts := []act{
		{n: Note{1, 1, 4}}, {n: Note{2, 4, 6}}, {n: Note{3, 1, 3}}, {n: Note{1, 2, 2047}}, {n: Note{4, 5, 5}},
		{n: Note{Id: 1}}, {n: Note{Id: 3}},
		{m: []api.Range{{At: 4, New: 2}}}, {m: []api.Range{{At: 1, Old: 2}}}, {m: []api.Range{{At: 3, Old: 3, New: 1}}},
	}
	for _, row := range sample.Rows(acts, 5) {
		s, p := New(), &plain{}
		for _, a := range row {
			a.do(t, s, p)
		}
		if len(row) == 5 || len(row) < 3 {
			isLike(t, s, p, []int{-1, 0, 1, 2, 3, 4, 5, 6, 7, 8})
		}
	}
}

// mixedMap answers a map of up to three ranges, some at the ends of what there may be.
func mixedMap(l []int) []api.Range {
	m := make([]api.Range, l[0]%4)
	end := 0
	for i := range m {
		m[i] = api.Range{At: end + l[3*i+1]%700, Old: l[3*i+2] % 40, New: l[3*i+3] % 42}
		if l[10]%7 == i {
			m[i].Old = 0
		}
		end = m[i].At + m[i].Old
	}
	if l[11]%300 == 0 && len(m) > 0 {
		m[0].New = -1
	}
	return m
}

// TestLongRows: mixed calls, up to the limits.
func TestLongRows(t *testing.T) {
	for seed := range uint32(6) {
		s, p := New(), &plain{}
		l := sample.Mixed(seed+1, 14*1500, 1<<20)
		for i := 0; i < len(l); i += 14 {
			x := l[i : i+14]
			a := act{n: Note{x[1] % 400, x[2]%2060 - 3, 0}}
			a.n.To = a.n.From + x[3]%(30+x[4]%300)
			if x[0]%9 == 0 {
				a = act{m: mixedMap(x[2:])}
			} else if x[0]%9 == 1 {
				a = act{n: Note{Id: x[1] % 400}}
			}
			a.do(t, s, p)
			isLike(t, s, p, []int{x[12] % 2050, x[13] % 2050})
		}
	}
}

// TestWhatIsHandedInStays: a map is not changed and not kept, what is answered is new each time.
func TestWhatIsHandedInStays(t *testing.T) {
	s := with(t, Note{1, 2, 5}, Note{2, 3, 9}, Note{3, 12, 13})
	m := []api.Range{{At: 3, Old: 1, New: 4}, {At: 20}}
	was := slices.Clone(m)
	sends(t, s, m, 0)
	if !slices.Equal(m, was) {
		t.Errorf("the map is %v", m)
	}
	clear(m)
	want := []Note{{1, 2, 8}, {2, 3, 12}, {3, 15, 16}}
	has(t, s, want...)
	clear(s.List())
	clear(s.At(4))
	clear(s.Spans())
	has(t, s, want...)
	if ids, spans := s.At(4), s.Spans(); !slices.Equal(ids, []int{1, 2}) || !slices.Equal(spans, [][2]int{{2, 12}, {15, 16}}) {
		t.Errorf("At %v, Spans %v", ids, spans)
	}
}

// TestSetsStandAlone: two sets share nothing.
func TestSetsStandAlone(t *testing.T) {
	a, b := New(), New()
	answers(t, a.Add(1, 2, 5), api.OK)
	has(t, b)
	answers(t, b.Add(1, 3, 4), api.OK)
	answers(t, b.Take(1), api.OK)
	sends(t, b, []api.Range{{At: 0, New: 7}}, 0)
	has(t, a, Note{1, 2, 5})
}

// TestEmptyIsNil: a set without notes answers none.
func TestEmptyIsNil(t *testing.T) {
	s := with(t, Note{1, 2, 5})
	sends(t, s, []api.Range{{At: 0, Old: 9}}, 1)
	if a, l, p := s.At(2), s.List(), s.Spans(); a != nil || l != nil || p != nil {
		t.Errorf("At %v, List %v, Spans %v", a, l, p)
	}
	sends(t, s, nil, 0)
	answers(t, s.Add(1, 2, 5), api.OK)
}
