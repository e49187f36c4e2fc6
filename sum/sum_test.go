package sum

import (
	"bytes"
	"hash/adler32"
	"math"
	"math/big"
	"testing"

	"emender/api"
)

// known are bytes with their sums.
var known = []struct {
	name string
	b    []byte
	s    uint32
}{
	{"nil", nil, 1},
	{"empty", []byte{}, 1},
	{"one 0", []byte{0}, 0x00010001},
	{"one 255", []byte{255}, 0x01000100},
	{"a", []byte("a"), 0x00620062},
	{"abc", []byte("abc"), 0x024d0127},
	{"Wikipedia", []byte("Wikipedia"), 0x11e60398},
	{"a comes to 65520", append(bytes.Repeat([]byte{255}, 256), 239), 0x07fffff0},
	{"a comes to 65521", append(bytes.Repeat([]byte{255}, 256), 240), 0x08000000},
	{"65520 times 0", make([]byte, 65520), 65520<<16 | 1},
	{"65521 times 0", make([]byte, 65521), 1},
	{"70000 times 0", make([]byte, 70000), 4479<<16 | 1},
	{"100000 times 255", bytes.Repeat([]byte{255}, 100000), 0x149a302c},
}

// loose are sums with parts from 65521 on, beside what they are taken as.
var loose = []struct{ s, as uint32 }{
	{65521, 0},
	{65521 << 16, 0},
	{65521<<16 | 65521, 0},
	{65522, 1},
	{65535<<16 | 65535, 14<<16 | 14},
	{65520<<16 | 65520, 65520<<16 | 65520},
	{65520<<16 | 65521, 65520 << 16},
	{65521<<16 | 65520, 65520},
}

// slowly sums as the document's words tell it, with numbers that have no ends.
func slowly(s uint32, b []byte) uint32 {
	m := big.NewInt(65521)
	x, y := big.NewInt(int64(s&0xffff)), big.NewInt(int64(s>>16))
	for _, c := range b {
		x.Add(x, big.NewInt(int64(c)))
		y.Add(y, x)
	}
	x.Mod(x, m)
	y.Mod(y, m)
	return uint32(y.Int64())*65536 + uint32(x.Int64())
}

// mixed answers n bytes, each time the same ones.
func mixed(n int) []byte {
	b := make([]byte, n)
	x := uint32(n)*2654435761 + 1
	for i := range b {
		x = x*1664525 + 1013904223
		b[i] = byte(x >> 24)
	}
	return b
}

func TestP2_1OfKnownBytes(t *testing.T) {
	for _, x := range known {
		if s := Of(x.b); s != x.s {
			t.Errorf("Of(%s) = %08x, want %08x", x.name, s, x.s)
		}
	}
}

func TestP2_1OfAsTheWordsTell(t *testing.T) {
	for _, n := range []int{0, 1, 2, 16, 255, 256, 257, 5552, 5553, 70000} {
		for _, b := range [][]byte{mixed(n), make([]byte, n), bytes.Repeat([]byte{255}, n)} {
			s := Of(b)
			if want := slowly(1, b); s != want {
				t.Errorf("Of(%d bytes) = %08x, want %08x", n, s, want)
			}
			if want := adler32.Checksum(b); s != want {
				t.Errorf("Of(%d bytes) = %08x, the library tells %08x", n, s, want)
			}
		}
	}
}

func TestP2_1PartsStayRests(t *testing.T) {
	a := bytes.Repeat([]byte{255}, 256)
	for _, x := range []struct {
		last byte
		low  uint32
	}{{238, 65519}, {239, 65520}, {240, 0}, {241, 1}} {
		if s := Of(append(bytes.Clone(a), x.last)); s&0xffff != x.low {
			t.Errorf("the part a behind %d is %d, want %d", x.last, s&0xffff, x.low)
		}
	}
}

func TestP2_1MoreTakesPartsAsRests(t *testing.T) {
	for _, x := range loose {
		if s := More(x.s, nil); s != x.as {
			t.Errorf("More(%08x, nil) = %08x, want %08x", x.s, s, x.as)
		}
		for _, b := range [][]byte{{0}, {1}, {255}, []byte("abc"), mixed(300)} {
			if s, want := More(x.s, b), slowly(x.s, b); s != want {
				t.Errorf("More(%08x, %x) = %08x, want %08x", x.s, b, s, want)
			}
			if s, want := More(x.s, b), More(x.as, b); s != want {
				t.Errorf("More(%08x, %x) = %08x, but of its rests %08x", x.s, b, s, want)
			}
		}
	}
}

func TestP2_1MoreFromSumsThatNoBytesHave(t *testing.T) {
	for _, x := range []struct {
		s    uint32
		b    string
		want uint32
	}{
		{0, "", 0},
		{0, "\x00", 0},
		{0, "\x01", 0x00010001},
		{1, "", 1},
		{1, "abc", 0x024d0127},
		{65520, "\x01", 0},
		{65520<<16 | 65520, "\x00", 65519<<16 | 65520},
	} {
		if s := More(x.s, []byte(x.b)); s != x.want {
			t.Errorf("More(%08x, %q) = %08x, want %08x", x.s, x.b, s, x.want)
		}
	}
}

func TestP2_2JoinRefusesCountsBelow0(t *testing.T) {
	for _, n := range []int{-1, -2, -65521, math.MinInt} {
		for _, s := range []uint32{0, 1, 0x024d0127, math.MaxUint32} {
			if got, e := Join(s, s, n); got != 0 || e != api.ErrArg {
				t.Errorf("Join(%08x, %08x, %d) = %08x, %d; want 0, %d", s, s, n, got, e, api.ErrArg)
			}
		}
	}
}

func TestP2_2JoinKnown(t *testing.T) {
	for _, x := range []struct {
		s, t uint32
		n    int
		want uint32
	}{
		{1, 1, 0, 1},
		{0x00620062, 1, 0, 0x00620062},
		{1, 0x00620062, 1, 0x00620062},
		{Of([]byte("a")), Of([]byte("bc")), 2, 0x024d0127},
		{Of([]byte("ab")), Of([]byte("c")), 1, 0x024d0127},
		{0, 0, 0, 65520},
		{0, 0, 1, 65520<<16 | 65520},
		{0, 1, 65521, 0},
		{2, 1, 65520, 65520<<16 | 2},
		{2, 1, 65521, 2},
		{2, 1, 65522, 1<<16 | 2},
	} {
		if got, e := Join(x.s, x.t, x.n); got != x.want || e != api.OK {
			t.Errorf("Join(%08x, %08x, %d) = %08x, %d; want %08x", x.s, x.t, x.n, got, e, x.want)
		}
	}
}

func TestP2_2JoinTakesPartsAsRests(t *testing.T) {
	for _, x := range loose {
		for _, y := range loose {
			for _, n := range []int{0, 1, 3, 65520, 65521, 1 << 20} {
				got, e := Join(x.s, y.s, n)
				want, _ := Join(x.as, y.as, n)
				if got != want || e != api.OK {
					t.Errorf("Join(%08x, %08x, %d) = %08x, %d; of their rests %08x", x.s, y.s, n, got, e, want)
				}
			}
		}
	}
}

// TestP2_2JoinAtEnds holds counts that no bytes could be made for against exact numbers.
func TestP2_2JoinAtEnds(t *testing.T) {
	m := big.NewInt(65521)
	ends := []uint32{0, 1, 2, 65520, 65521, 65535, 65520 << 16, 65520<<16 | 65520, 65520<<16 | 1, math.MaxUint32}
	for _, n := range []int{0, 1, 65519, 65520, 65521, 65522, 1<<31 - 1, math.MaxInt - 1, math.MaxInt} {
		for _, s := range ends {
			for _, u := range ends {
				a := big.NewInt(int64(s&0xffff) + int64(u&0xffff) - 1)
				b := big.NewInt(int64(s&0xffff) - 1)
				b.Mul(b, big.NewInt(int64(n)))
				b.Add(b, big.NewInt(int64(s>>16)+int64(u>>16)))
				want := uint32(b.Mod(b, m).Int64())<<16 | uint32(a.Mod(a, m).Int64())
				if got, e := Join(s, u, n); got != want || e != api.OK {
					t.Errorf("Join(%08x, %08x, %d) = %08x, %d; want %08x", s, u, n, got, e, want)
				}
			}
		}
	}
}

func TestP2_3MoreAndJoinAsIfAllCameAtOnce(t *testing.T) {
	for _, all := range [][]byte{nil, []byte("abc"), mixed(64), mixed(70000), bytes.Repeat([]byte{255}, 70000), make([]byte, 66000)} {
		want := Of(all)
		step := max(1, len(all)/37)
		for cut := 0; cut <= len(all); cut += step {
			if s := More(Of(all[:cut]), all[cut:]); s != want {
				t.Errorf("More at %d of %d = %08x, want %08x", cut, len(all), s, want)
			}
			s, e := Join(Of(all[:cut]), Of(all[cut:]), len(all)-cut)
			if s != want || e != api.OK {
				t.Errorf("Join at %d of %d = %08x, %d; want %08x", cut, len(all), s, e, want)
			}
		}
	}
}

func TestP2_3MoreByteByByte(t *testing.T) {
	all := mixed(3000)
	s := Of(nil)
	for i := range all {
		s = More(s, all[i:i+1])
		if want := Of(all[:i+1]); s != want {
			t.Fatalf("behind byte %d: %08x, want %08x", i, s, want)
		}
	}
}

func TestP2_3JoinOfThreeHangsNotOnTheOrder(t *testing.T) {
	x, y, z := mixed(100), mixed(70000), mixed(9)
	xy, _ := Join(Of(x), Of(y), len(y))
	left, _ := Join(xy, Of(z), len(z))
	yz, _ := Join(Of(y), Of(z), len(z))
	right, _ := Join(Of(x), yz, len(y)+len(z))
	want := Of(append(append(bytes.Clone(x), y...), z...))
	if left != want || right != want {
		t.Errorf("left %08x, right %08x, want %08x", left, right, want)
	}
}

func TestNothingIsChangedOrKept(t *testing.T) {
	b := mixed(500)
	before := bytes.Clone(b)
	first, more := Of(b), More(7, b)
	if !bytes.Equal(b, before) {
		t.Error("the bytes have changed")
	}
	if Of(b) != first || More(7, b) != more {
		t.Error("the same bytes have another sum the second time")
	}
}
