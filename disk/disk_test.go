package disk

import (
	"bytes"
	"math"
	"slices"
	"testing"

	"emender/api"
	"emender/sample"
)

// made answers an empty disk of at most most bytes.
func made(t *testing.T, most int) *Disk {
	t.Helper()
	d, e := New(most)
	if d == nil || e != api.OK {
		t.Fatalf("New(%d): %v, %d", most, d, e)
	}
	return d
}

// holding answers a disk of at most most bytes that holds sure, and behind it loose, which is not sure.
func holding(t *testing.T, most int, sure string, loose string) *Disk {
	t.Helper()
	d := made(t, most)
	done(t, d.Append([]byte(sure)))
	done(t, d.Sync())
	done(t, d.Append([]byte(loose)))
	is(t, d, sure, loose)
	return d
}

func done(t *testing.T, e api.Errno) {
	t.Helper()
	refused(t, e, api.OK)
}

func refused(t *testing.T, e api.Errno, want api.Errno) {
	t.Helper()
	if e != want {
		t.Errorf("the answer is %d, want %d", e, want)
	}
}

// is holds a disk against what it should hold.
func is(t *testing.T, d *Disk, sure string, loose string) {
	t.Helper()
	if string(d.Bytes()) != sure+loose || d.Len() != len(sure+loose) || d.Sure() != len(sure) {
		t.Errorf("the disk is %.40q of %d, sure %d; want %.40q and %.40q", d.Bytes(), d.Len(), d.Sure(), sure, loose)
	}
}

func TestP17_1New(t *testing.T) {
	for _, most := range []int{0, 1, 2, 1 << 16, api.MaxDisk - 1, api.MaxDisk} {
		is(t, made(t, most), "", "")
	}
	for _, most := range []int{-1, math.MinInt, api.MaxDisk + 1, math.MaxInt} {
		if d, e := New(most); d != nil || e != api.ErrArg {
			t.Errorf("New(%d): %v, %d", most, d, e)
		}
	}
}

func TestP17_1NewIsAnother(t *testing.T) {
	d, other := made(t, 3), made(t, 3)
	done(t, d.Append([]byte("abc")))
	is(t, d, "", "abc")
	is(t, other, "", "")
}

func TestP17_1Append(t *testing.T) {
	d := made(t, 5)
	for _, x := range []struct {
		b, then string
		want    api.Errno
	}{
		{"abcdef", "", api.ErrFull},
		{"", "", api.OK},
		{"ab", "ab", api.OK},
		{"cdef", "ab", api.ErrFull},
		{"c", "abc", api.OK},
		{"defghijkl", "abc", api.ErrFull},
		{"de", "abcde", api.OK},
		{"", "abcde", api.OK},
		{"f", "abcde", api.ErrFull},
	} {
		refused(t, d.Append([]byte(x.b)), x.want)
		is(t, d, "", x.then)
	}
	done(t, d.Append(nil))
	is(t, d, "", "abcde")
}

func TestP17_1AppendWithoutRoom(t *testing.T) {
	d := made(t, 0)
	done(t, d.Append(nil))
	done(t, d.Append([]byte{}))
	refused(t, d.Append([]byte{0}), api.ErrFull)
	done(t, d.Sync())
	done(t, d.Crash(3))
	done(t, d.Cut(0))
	is(t, d, "", "")
}

func TestP17_1AppendUpToMaxDisk(t *testing.T) {
	all := make([]byte, api.MaxDisk)
	for i := range all {
		all[i] = byte(i ^ i>>8)
	}
	d := made(t, api.MaxDisk)
	refused(t, d.Append(append(all, 1)), api.ErrFull)
	is(t, d, "", "")
	done(t, d.Append(all))
	is(t, d, "", string(all))
	refused(t, d.Append([]byte{1}), api.ErrFull)
	done(t, d.Crash(api.MaxDisk-1))
	is(t, d, string(all[:api.MaxDisk-1]), "")
	refused(t, d.Append([]byte{1, 2}), api.ErrFull)
	done(t, d.Append([]byte{7}))
	is(t, d, string(all[:api.MaxDisk-1]), "\x07")
}

func TestP17_1AppendByteByByte(t *testing.T) {
	d := made(t, api.MaxDisk)
	var all []byte
	for i := range api.MaxDisk {
		b := byte(i * i >> 4)
		if e := d.Append([]byte{b}); e != api.OK {
			t.Fatalf("Append of byte %d: %d", i, e)
		}
		all = append(all, b)
	}
	is(t, d, "", string(all))
	refused(t, d.Append([]byte{1}), api.ErrFull)
}

func TestP17_1Sync(t *testing.T) {
	d := made(t, 9)
	done(t, d.Sync())
	is(t, d, "", "")
	done(t, d.Append([]byte("abc")))
	is(t, d, "", "abc")
	done(t, d.Sync())
	is(t, d, "abc", "")
	done(t, d.Append([]byte("de")))
	is(t, d, "abc", "de")
	done(t, d.Sync())
	done(t, d.Sync())
	is(t, d, "abcde", "")
}

func TestP17_1Crash(t *testing.T) {
	for _, x := range []struct {
		sure, loose string
		keep        int
		then        string
	}{
		{"\x01\x02\x03", "\x04\x05", 1, "\x01\x02\x03\x04"},
		{"abc", "de", 0, "abc"},
		{"abc", "de", 2, "abcde"},
		{"abc", "de", 3, "abcde"},
		{"abc", "de", 4, "abcde"},
		{"abc", "de", math.MaxInt, "abcde"},
		{"abc", "de", math.MaxInt - 3, "abcde"},
		{"abc", "", 0, "abc"},
		{"abc", "", 1, "abc"},
		{"", "de", 0, ""},
		{"", "de", 1, "d"},
		{"", "de", 2, "de"},
		{"", "", 0, ""},
		{"", "", math.MaxInt, ""},
	} {
		d := holding(t, 5, x.sure, x.loose)
		done(t, d.Crash(x.keep))
		is(t, d, x.then, "")
	}
}

func TestP17_1CrashRefuses(t *testing.T) {
	for _, keep := range []int{-1, -3, math.MinInt} {
		d := holding(t, 5, "abc", "de")
		refused(t, d.Crash(keep), api.ErrArg)
		is(t, d, "abc", "de")
		refused(t, made(t, 0).Crash(keep), api.ErrArg)
	}
}

func TestP17_1Cut(t *testing.T) {
	for n := range 6 {
		d := holding(t, 5, "abc", "de")
		done(t, d.Cut(n))
		is(t, d, "abcde"[:n], "")
	}
	d := made(t, 5)
	done(t, d.Cut(0))
	is(t, d, "", "")
}

func TestP17_1CutRefuses(t *testing.T) {
	for _, n := range []int{-1, math.MinInt, 6, 7, 9, math.MaxInt} {
		d := holding(t, 9, "abc", "de")
		refused(t, d.Cut(n), api.ErrArg)
		is(t, d, "abc", "de")
	}
	refused(t, made(t, 5).Cut(1), api.ErrArg)
}

func TestP17_1RoomIsBackBehindCuts(t *testing.T) {
	d := holding(t, 5, "abc", "de")
	done(t, d.Crash(0))
	refused(t, d.Append([]byte("xyz")), api.ErrFull)
	done(t, d.Append([]byte("xy")))
	is(t, d, "abc", "xy")
	done(t, d.Cut(1))
	refused(t, d.Append([]byte("vwxyz")), api.ErrFull)
	done(t, d.Append([]byte("wxyz")))
	is(t, d, "a", "wxyz")
}

func TestP17_1Copy(t *testing.T) {
	d := holding(t, 6, "abc", "de")
	c := d.Copy()
	is(t, c, "abc", "de")
	refused(t, c.Append([]byte("fg")), api.ErrFull)
	done(t, c.Append([]byte("f")))
	is(t, c, "abc", "def")
	is(t, c.Copy(), "abc", "def")
	is(t, d, "abc", "de")
	empty := made(t, 0).Copy()
	if empty == nil {
		t.Fatal("a disk without room has no copy")
	}
	is(t, empty, "", "")
	refused(t, empty.Append([]byte{1}), api.ErrFull)
	done(t, empty.Sync())
}

// Acts that change a disk of which abc are sure, and de are not.
func changes() []func(*Disk) api.Errno {
	return []func(*Disk) api.Errno{
		func(d *Disk) api.Errno { return d.Append([]byte("x")) },
		(*Disk).Sync,
		func(d *Disk) api.Errno { return d.Crash(0) },
		func(d *Disk) api.Errno { return d.Crash(1) },
		func(d *Disk) api.Errno { return d.Cut(0) },
		func(d *Disk) api.Errno { return d.Cut(2) },
		func(d *Disk) api.Errno { d.Cut(0); return d.Append([]byte("vwxyz")) },
		func(d *Disk) api.Errno { d.Crash(0); return d.Append([]byte("yz")) },
	}
}

func TestP17_1CopiesGoTheirOwnWays(t *testing.T) {
	for _, change := range changes() {
		d := holding(t, 9, "abc", "de")
		c := d.Copy()
		done(t, change(d))
		is(t, c, "abc", "de")

		d = holding(t, 9, "abc", "de")
		c = d.Copy()
		done(t, change(c))
		is(t, d, "abc", "de")
	}
	d := holding(t, 9, "abc", "de")
	c := d.Copy()
	done(t, d.Append([]byte("x")))
	done(t, c.Append([]byte("y")))
	is(t, d, "abc", "dex")
	is(t, c, "abc", "dey")
}

func TestP17_1ListsAreNotShared(t *testing.T) {
	in := []byte("abc")
	wide := in[:2]
	d := made(t, 9)
	done(t, d.Append(wide))
	if string(in) != "abc" {
		t.Errorf("Append changed what was handed in: %q", in)
	}
	in[0] = 'x'
	is(t, d, "", "ab")
	done(t, d.Append([]byte("c")))
	if string(in) != "xbc" {
		t.Errorf("Append changed what was handed in ahead: %q", in)
	}
	out, again := d.Bytes(), d.Bytes()
	out[1] = 'y'
	is(t, d, "", "abc")
	if string(again) != "abc" {
		t.Errorf("two answers share memory: %q", again)
	}
	for _, change := range changes() {
		d = holding(t, 9, "abc", "de")
		out = d.Bytes()
		done(t, change(d))
		if string(out) != "abcde" {
			t.Errorf("what was answered has changed: %q", out)
		}
	}
}

func TestP17_1AnswersHaveNoRoom(t *testing.T) {
	d := made(t, 100)
	for n := range 40 {
		done(t, d.Append([]byte{byte(n)}))
		if b := d.Bytes(); cap(b) != len(b) {
			t.Errorf("Bytes of %d have room for %d", len(b), cap(b))
		}
		if c := d.Copy(); cap(c.bytes) != len(c.bytes) {
			t.Errorf("a copy of %d has room for %d", len(c.bytes), cap(c.bytes))
		}
	}
}

func TestP17_2DiskThatNoCallMade(t *testing.T) {
	var none *Disk
	for _, d := range []*Disk{none, {}, new(Disk)} {
		for range 2 {
			for _, b := range [][]byte{nil, {}, {1}, make([]byte, api.MaxDisk+1)} {
				refused(t, d.Append(b), api.ErrZero)
			}
			refused(t, d.Sync(), api.ErrZero)
			for _, n := range []int{0, 1, -1, math.MinInt, math.MaxInt} {
				refused(t, d.Crash(n), api.ErrZero)
				refused(t, d.Cut(n), api.ErrZero)
			}
			is(t, d, "", "")
			if c := d.Copy(); c != nil {
				t.Errorf("Copy: %v", c)
			}
		}
	}
}

// spoken is a disk as the chapter's words tell it: each byte knows whether it is sure.
type spoken struct {
	most int
	l    []spot
}

type spot struct {
	b    byte
	sure bool
}

func (s *spoken) add(b []byte) api.Errno {
	if len(s.l)+len(b) > s.most {
		return api.ErrFull
	}
	for _, one := range b {
		s.l = append(s.l, spot{one, false})
	}
	return api.OK
}

func (s *spoken) sync() api.Errno {
	for i := range s.l {
		s.l[i].sure = true
	}
	return api.OK
}

func (s *spoken) crash(keep int) api.Errno {
	if keep < 0 {
		return api.ErrArg
	}
	var stay []spot
	for _, one := range s.l {
		if !one.sure && keep == 0 {
			break
		}
		if !one.sure {
			keep--
		}
		stay = append(stay, spot{one.b, true})
	}
	s.l = stay
	return api.OK
}

func (s *spoken) cut(n int) api.Errno {
	if n < 0 || n > len(s.l) {
		return api.ErrArg
	}
	s.l = slices.Clone(s.l[:n])
	return s.sync()
}

// parts answers the bytes that are sure, and the others.
func (s *spoken) parts() (string, string) {
	var sure, loose []byte
	for _, one := range s.l {
		if one.sure {
			sure = append(sure, one.b)
		} else {
			loose = append(loose, one.b)
		}
	}
	return string(sure), string(loose)
}

const (
	actAppend = iota
	actSync
	actCrash
	actCut
	actCopy
)

type act struct {
	k int
	n int
}

// pair is a disk beside what the words tell of it; each byte that is appended is another one.
type pair struct {
	d    *Disk
	s    spoken
	next byte
}

// do does one act at both, and tells what both answer.
func (p *pair) do(a act) (api.Errno, api.Errno) {
	switch a.k {
	case actAppend:
		b := make([]byte, a.n)
		for i := range b {
			p.next++
			b[i] = p.next
		}
		return p.d.Append(b), p.s.add(b)
	case actSync:
		return p.d.Sync(), p.s.sync()
	case actCrash:
		return p.d.Crash(a.n), p.s.crash(a.n)
	case actCut:
		return p.d.Cut(a.n), p.s.cut(a.n)
	}
	p.d = p.d.Copy()
	return api.OK, api.OK
}

// agree tells whether both hold the same.
func (p *pair) agree() bool {
	sure, loose := p.s.parts()
	return string(p.d.Bytes()) == sure+loose && p.d.Len() == len(sure+loose) && p.d.Sure() == len(sure)
}

func TestP17_1AsTheWordsTell(t *testing.T) {
	acts := []act{
		{actAppend, 0}, {actAppend, 1}, {actAppend, 2}, {actSync, 0},
		{actCrash, -1}, {actCrash, 0}, {actCrash, 1}, {actCrash, math.MaxInt},
		{actCut, -1}, {actCut, 0}, {actCut, 1}, {actCut, 3}, {actCopy, 0},
	}
	rows := sample.Rows(acts, 4)
	for most := range 5 {
		for _, row := range rows {
			p := &pair{d: made(t, most), s: spoken{most: most}}
			for _, a := range row {
				if got, want := p.do(a); got != want {
					t.Fatalf("most %d, %v: the answer of %v is %d, want %d", most, row, a, got, want)
				}
			}
			if !p.agree() {
				t.Fatalf("most %d, %v: %v, sure %d; want %v", most, row, p.d.Bytes(), p.d.Sure(), p.s.l)
			}
		}
	}
}

func TestP17_1LongRowsAsTheWordsTell(t *testing.T) {
	for _, most := range []int{0, 1, 7, 64, 1000, 5000} {
		p := &pair{d: made(t, most), s: spoken{most: most}}
		kinds, sizes := sample.Mixed(uint32(most), 1500, 9), sample.Mixed(uint32(most)+1, 1500, most/3+2)
		for i, k := range kinds {
			a := act{k: actAppend, n: sizes[i]}
			switch k {
			case 0, 1:
				a.k = actSync
			case 2:
				a.k = actCrash
			case 3:
				a.k, a.n = actCut, p.d.Len()-sizes[i]/4
			case 4:
				a.k = actCopy
			}
			if got, want := p.do(a); got != want || !p.agree() {
				t.Fatalf("most %d: the answer of act %d, %v, is %d, want %d", most, i, a, got, want)
			}
		}
	}
}

func TestP17_3WhatIsSureStays(t *testing.T) {
	acts := []act{{actAppend, 1}, {actAppend, 3}, {actSync, 0}, {actCrash, 0}, {actCrash, 2}, {actCopy, 0}}
	for _, row := range sample.Rows(acts, 5) {
		p := &pair{d: made(t, 8), s: spoken{most: 8}}
		var sure []byte
		for _, a := range row {
			p.do(a)
			if !bytes.HasPrefix(p.d.Bytes(), sure) || p.d.Sure() < len(sure) {
				t.Fatalf("%v: %v was sure, %v is left, sure %d", row, sure, p.d.Bytes(), p.d.Sure())
			}
			sure = p.d.Bytes()[:p.d.Sure()]
		}
	}
}

func TestP17_3CrashByCrash(t *testing.T) {
	d := holding(t, 9, "abc", "defg")
	done(t, d.Crash(2))
	is(t, d, "abcde", "")
	done(t, d.Append([]byte("xy")))
	refused(t, d.Crash(-1), api.ErrArg)
	done(t, d.Crash(0))
	done(t, d.Crash(0))
	is(t, d, "abcde", "")
}
