package quad

import (
	"bytes"
	"math"
	"slices"
	"testing"

	"emender/api"
)

// written are numbers with their bytes: 0, the least and the greatest of each length, and some between.
var written = []struct {
	n uint64
	b string
}{
	{0, "\x00"},
	{1, "\x01"},
	{100, "\x64"},
	{1<<7 - 1, "\x7f"},
	{1 << 7, "\x80\x01"},
	{300, "\xac\x02"},
	{1<<14 - 1, "\xff\x7f"},
	{1 << 14, "\x80\x80\x01"},
	{1<<21 - 1, "\xff\xff\x7f"},
	{1 << 21, "\x80\x80\x80\x01"},
	{1<<28 - 1, "\xff\xff\xff\x7f"},
	{1 << 28, "\x80\x80\x80\x80\x01"},
	{1<<35 - 1, "\xff\xff\xff\xff\x7f"},
	{1 << 35, "\x80\x80\x80\x80\x80\x01"},
	{1<<42 - 1, "\xff\xff\xff\xff\xff\x7f"},
	{1 << 42, "\x80\x80\x80\x80\x80\x80\x01"},
	{1<<49 - 1, "\xff\xff\xff\xff\xff\xff\x7f"},
	{1 << 49, "\x80\x80\x80\x80\x80\x80\x80\x01"},
	{1<<56 - 1, "\xff\xff\xff\xff\xff\xff\xff\x7f"},
	{1 << 56, "\x80\x80\x80\x80\x80\x80\x80\x80\x01"},
	{1<<63 - 1, "\xff\xff\xff\xff\xff\xff\xff\xff\x7f"},
	{1 << 63, "\x80\x80\x80\x80\x80\x80\x80\x80\x80\x01"},
	{math.MaxUint64, "\xff\xff\xff\xff\xff\xff\xff\xff\xff\x01"},
	{0x0123456789abcdef, "\xef\x9b\xaf\xcd\xf8\xac\xd1\x91\x01"},
}

// wrong are bytes in which no whole number begins at 0, with the place that is told.
var wrong = []struct {
	b  string
	at int
	e  api.Errno
}{
	{"", 0, api.ErrShort},
	{"\x80", 1, api.ErrShort},
	{"\xff\xff", 2, api.ErrShort},
	{"\x80\x80\x80\x80\x80\x80\x80\x80\x80", 9, api.ErrShort},
	{"\xff\xff\xff\xff\xff\xff\xff\xff\xff", 9, api.ErrShort},
	{"\x80\x00", 1, api.ErrForm},
	{"\xff\x00\x05", 1, api.ErrForm},
	{"\x80\x80\x00", 2, api.ErrForm},
	{"\x80\x80\x80\x80\x80\x80\x80\x80\x80\x00", 9, api.ErrForm},
	{"\xff\xff\xff\xff\xff\xff\xff\xff\xff\x02", 9, api.ErrForm},
	{"\x80\x80\x80\x80\x80\x80\x80\x80\x80\x7f", 9, api.ErrForm},
	{"\x80\x80\x80\x80\x80\x80\x80\x80\x80\x80", 9, api.ErrForm},
	{"\x80\x80\x80\x80\x80\x80\x80\x80\x80\x81\x01", 9, api.ErrForm},
	{"\xff\xff\xff\xff\xff\xff\xff\xff\xff\xff\xff", 9, api.ErrForm},
}

func TestP1_1PutWritesOneNumber(t *testing.T) {
	for _, x := range written {
		if b := Put(nil, x.n); string(b) != x.b {
			t.Errorf("Put(nil, %d) = %x, want %x", x.n, b, x.b)
		}
	}
}

func TestP1_1PutWritesBehind(t *testing.T) {
	for _, x := range []struct {
		b    string
		l    []uint64
		want string
	}{
		{"", nil, ""},
		{"", []uint64{}, ""},
		{"\x80\xff", nil, "\x80\xff"},
		{"\x80\x00", []uint64{5}, "\x80\x00\x05"},
		{"\x09", []uint64{0, 300, math.MaxUint64}, "\x09\x00\xac\x02\xff\xff\xff\xff\xff\xff\xff\xff\xff\x01"},
		{"", []uint64{300, 0, 0, 300}, "\xac\x02\x00\x00\xac\x02"},
	} {
		if b := Put([]byte(x.b), x.l...); string(b) != x.want {
			t.Errorf("Put(%x, %d) = %x, want %x", x.b, x.l, b, x.want)
		}
	}
}

func TestP1_1PutOfNilAndEmpty(t *testing.T) {
	for _, b := range [][]byte{nil, {}} {
		for _, l := range [][]uint64{nil, {}} {
			if out := Put(b, l...); len(out) != 0 {
				t.Errorf("Put(%#v, %#v) = %x", b, l, out)
			}
		}
		if out := Put(b, 7); string(out) != "\x07" {
			t.Errorf("Put(%#v, 7) = %x", b, out)
		}
	}
}

func TestP1_1PutLeavesArguments(t *testing.T) {
	room := []byte{1, 2, 0xEE, 0xEE, 0xEE}
	l := []uint64{300, 4}
	out := Put(room[:2], l...)
	if !bytes.Equal(room, []byte{1, 2, 0xEE, 0xEE, 0xEE}) || !slices.Equal(l, []uint64{300, 4}) {
		t.Errorf("Put changed its arguments: %x, %d", room, l)
	}
	out[0], out[2] = 0x55, 0x55
	if !bytes.Equal(room, []byte{1, 2, 0xEE, 0xEE, 0xEE}) {
		t.Errorf("the answer of Put shares memory with b: %x", room)
	}
	room[1] = 0x66
	if out[1] != 2 {
		t.Errorf("b shares memory with the answer of Put: %x", out)
	}
}

func TestP1_1PutOfNoNumbersIsNewMemory(t *testing.T) {
	b := []byte{1, 2}
	out := Put(b)
	out[0] = 9
	if b[0] != 1 {
		t.Errorf("the answer of Put without numbers shares memory with b: %x", b)
	}
}

func TestP1_1Len(t *testing.T) {
	for _, x := range written {
		if k := Len(x.n); k != len(x.b) {
			t.Errorf("Len(%d) = %d, want %d", x.n, k, len(x.b))
		}
	}
	for shift := range 64 {
		for _, n := range []uint64{1<<shift - 1, 1 << shift, 1<<shift + 1} {
			if k := len(Put(nil, n)); Len(n) != k {
				t.Errorf("Len(%d) = %d, but Put wrote %d", n, Len(n), k)
			}
		}
	}
}

func TestP1_2GetReadsOneNumber(t *testing.T) {
	for _, x := range written {
		for _, before := range []string{"", "\x05", "\x80", "\xff\xff\xff\xff\xff\xff\xff\xff\xff\xff\xff"} {
			for _, behind := range []string{"", "\x00", "\x80", "\xff\xff"} {
				at := len(before)
				n, next, e := Get([]byte(before+x.b+behind), at)
				if n != x.n || next != at+len(x.b) || e != api.OK {
					t.Errorf("Get(%x|%x|%x) = %d, %d, %d", before, x.b, behind, n, next, e)
				}
			}
		}
	}
}

func TestP1_2GetRefusesWrongBytes(t *testing.T) {
	for _, x := range wrong {
		for _, before := range []string{"", "\x00", "\xff\xff\xff"} {
			n, at, e := Get([]byte(before+x.b), len(before))
			if n != 0 || at != len(before)+x.at || e != x.e {
				t.Errorf("Get(%x|%x) = %d, %d, %d, want 0, %d, %d", before, x.b, n, at, e, len(before)+x.at, x.e)
			}
		}
	}
}

func TestP1_2GetRefusesPlaces(t *testing.T) {
	for _, b := range [][]byte{nil, {}, {1}, {0x80}, {0x80, 0}} {
		for _, at := range []int{-1, len(b) + 1, math.MinInt, math.MaxInt} {
			if n, place, e := Get(b, at); n != 0 || place != 0 || e != api.ErrArg {
				t.Errorf("Get(%x, %d) = %d, %d, %d", b, at, n, place, e)
			}
		}
		if n, place, e := Get(b, len(b)); n != 0 || place != len(b) || e != api.ErrShort {
			t.Errorf("Get(%x, %d) at the end = %d, %d, %d", b, len(b), n, place, e)
		}
	}
}

func TestP1_2AllReadsAllNumbers(t *testing.T) {
	var b []byte
	var want []uint64
	for _, x := range written {
		b = append(b, x.b...)
		want = append(want, x.n)
		if l, at, e := All(b); !slices.Equal(l, want) || at != len(b) || e != api.OK {
			t.Errorf("All(%x) = %d, %d, %d", b, l, at, e)
		}
	}
}

func TestP1_2AllOfNilAndEmpty(t *testing.T) {
	for _, b := range [][]byte{nil, {}} {
		if l, at, e := All(b); len(l) != 0 || at != 0 || e != api.OK {
			t.Errorf("All(%#v) = %d, %d, %d", b, l, at, e)
		}
	}
}

func TestP1_2AllTellsTheFirstError(t *testing.T) {
	for _, x := range wrong {
		if x.b == "" {
			continue // nothing is all there at the end of b
		}
		for _, before := range []string{"", "\x05", "\xac\x02\x00"} {
			l, at, e := All([]byte(before + x.b))
			if len(l) != 0 || at != len(before)+x.at || e != x.e {
				t.Errorf("All(%x|%x) = %d, %d, %d, want none, %d, %d", before, x.b, l, at, e, len(before)+x.at, x.e)
			}
		}
	}
	if l, at, e := All([]byte{1, 0x80, 0, 0x80}); len(l) != 0 || at != 2 || e != api.ErrForm {
		t.Errorf("All with two errors = %d, %d, %d", l, at, e)
	}
}

func TestP1_2GetAndAllLeaveArguments(t *testing.T) {
	for _, s := range []string{"\xac\x02\x00\x05", "\xac\x02\x80", "\xac\x02\x80\x00"} {
		b := []byte(s)
		Get(b, 0)
		Get(b, 2)
		All(b)
		if string(b) != s {
			t.Errorf("%x was changed to %x", s, b)
		}
	}
}

func TestP1_2AllAnswersNewMemory(t *testing.T) {
	b := []byte{1, 2}
	first, _, _ := All(b)
	first[0] = 9
	b[1] = 7
	second, _, _ := All(b)
	if !slices.Equal(first, []uint64{9, 2}) || !slices.Equal(second, []uint64{1, 7}) {
		t.Errorf("answers of All share memory: %d, %d", first, second)
	}
}

func TestP1_3AllUndoesPut(t *testing.T) {
	var l []uint64
	for shift := range 64 {
		l = append(l, 1<<shift-1, 1<<shift, 1<<shift+1, math.MaxUint64>>shift, 0x0123456789abcdef>>shift)
		b := Put(nil, l...)
		if back, at, e := All(b); !slices.Equal(back, l) || at != len(b) || e != api.OK {
			t.Fatalf("All(Put(nil, %d)) = %d, %d, %d", l, back, at, e)
		}
	}
}

// TestP1_3PutUndoesAll tries all short texts of telling bytes, alone and behind eight bytes of a long number.
func TestP1_3PutUndoesAll(t *testing.T) {
	telling := []byte{0, 1, 2, 0x7f, 0x80, 0x81, 0xff}
	texts := [][]byte{{}}
	for from, length := 0, 0; length < 4; length++ {
		end := len(texts)
		for _, head := range texts[from:end] {
			for _, c := range telling {
				texts = append(texts, append(slices.Clone(head), c))
			}
		}
		from = end
	}
	good := 0
	for _, tail := range texts {
		for _, before := range []string{"", "\x80\x80\x80\x80\x80\x80\x80\x80", "\xff\xff\xff\xff\xff\xff\xff\xff"} {
			b := append([]byte(before), tail...)
			l, _, e := All(b)
			if e != api.OK {
				continue
			}
			good++
			if back := Put(nil, l...); !bytes.Equal(back, b) {
				t.Errorf("Put(nil, All(%x)) = %x", b, back)
			}
		}
	}
	if good == 0 {
		t.Error("no text was read")
	}
}
