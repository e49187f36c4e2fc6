package codec

import (
	"bytes"
	"math"
	"reflect"
	"slices"
	"strings"
	"testing"

	"emender/api"
	"emender/flat"
	"emender/quad"
	"emender/sample"
	"emender/step"
)

func marking(k, from, to, m int) api.Step {
	return api.Step{K: k, From: from, To: to, Mark: m}
}

func entry(who, seq int, s api.Step) api.Entry {
	return api.Entry{Who: who, Seq: seq, S: s}
}

// long answers n tokens that are right.
func long(n int) []api.Token {
	return sample.Tokens(strings.Repeat("x", n))
}

// many answers n entries that are right.
func many(n int) []api.Entry {
	return slices.Repeat([]api.Entry{entry(1, 2, sample.Replace(0, 0, ""))}, n)
}

// same holds two things of this package against each other, with nil and empty lists the same.
func same(a, b any) bool {
	return reflect.DeepEqual(emptied(a), emptied(b))
}

// emptied answers the thing with nil in the place of all empty lists.
func emptied(thing any) any {
	switch x := thing.(type) {
	case []api.Token:
		return append([]api.Token(nil), x...)
	case api.Entry:
		x.S.Slice = append([]api.Token(nil), x.S.Slice...)
		return x
	case api.Msg:
		var l []api.Entry
		for _, one := range x.L {
			l = append(l, emptied(one).(api.Entry))
		}
		x.L = l
		return x
	}
	return thing
}

// docs are tokens with their bytes.
var docs = []struct {
	l []api.Token
	b string
}{
	{nil, "\x00"},
	{[]api.Token{}, "\x00"},
	{[]api.Token{{}}, "\x01\x00\x00"},
	{[]api.Token{{N: 'x'}}, "\x01\xe0\x03\x00"},
	{[]api.Token{{N: 31, M: 3}}, "\x01\x7c\x03"},
	{[]api.Token{{N: 32, M: 4}}, "\x01\x80\x01\x04"},
	{[]api.Token{{N: 0xD7FF}}, "\x01\xfc\xbf\x0d\x00"},
	{[]api.Token{{N: 0xE000}}, "\x01\x80\x80\x0e\x00"},
	{[]api.Token{{N: 0x10FFFF, M: 2}}, "\x01\xfc\xff\x8f\x02\x02"},
	{[]api.Token{{K: api.TOpen, T: 1}}, "\x01\x01\x01"},
	{[]api.Token{{K: api.TOpen, T: 15, N: 15}}, "\x01\x3d\x0f"},
	{[]api.Token{{K: api.TClose}}, "\x01\x02"},
	{[]api.Token{{K: api.TLeaf, T: 7}}, "\x01\x03\x07"},
	{[]api.Token{{K: api.TLeaf, T: 15, N: 15}}, "\x01\x3f\x0f"},
	{[]api.Token{{K: api.TOpen, T: 2, N: 3}, {N: 'x', M: 1}, {K: api.TClose}, {K: api.TLeaf, T: 7}}, "\x04\x0d\x02\xe0\x03\x01\x02\x03\x07"},
	{sample.Tokens("))(("), "\x04\x02\x02\x01\x03\x01\x03"},
	{long(127), "\x7f" + strings.Repeat("\xe0\x03\x00", 127)},
	{long(128), "\x80\x01" + strings.Repeat("\xe0\x03\x00", 128)},
	{long(api.MaxDoc), "\x80\x10" + strings.Repeat("\xe0\x03\x00", api.MaxDoc)},
}

// entries are entries with their bytes.
var entries = []struct {
	e api.Entry
	b string
}{
	{api.Entry{}, "\x00\x00\x00\x00\x00\x00"},
	{entry(0, 0, api.Step{Slice: []api.Token{}}), "\x00\x00\x00\x00\x00\x00"},
	{entry(3, 1<<31-1, sample.Replace(1, 2, "")), "\x03\xff\xff\xff\xff\x07\x00\x01\x02\x00"},
	{entry(2, 300, sample.Replace(5, 2048, "<C")), "\x02\xac\x02\x00\x05\x80\x10\x02\x01\x01\x8c\x03\x04"},
	{entry(1, 9, sample.Around(1, 2, 3, 4, "(", ">")), "\x01\x09\x01\x01\x04\x02\x03\x01\x02\x01\x03\x02"},
	{entry(1, 9, sample.Around(10, 10, 200, 200, "", "")), "\x01\x09\x01\x0a\xc8\x01\x0a\xc8\x01\x00\x00"},
	{entry(1, 9, sample.Around(0, 5, 6, 7, "[{<", "_")), "\x01\x09\x01\x00\x07\x05\x06\x03\x04\x01\x05\x01\x06\x01\x01\x03\x07"},
	{entry(1, 300, marking(api.SMark, 2, 4, api.Em)), "\x01\xac\x02\x02\x02\x04\x02"},
	{entry(1, 0, marking(api.SUnmark, 0, 2048, api.Code)), "\x01\x00\x03\x00\x80\x10\x04"},
	{entry(0, 1, api.Step{Slice: long(api.MaxDoc)}), "\x00\x01\x00\x00\x00\x80\x10" + strings.Repeat("\xe0\x03\x00", api.MaxDoc)},
}

// messages are messages with their bytes.
var messages = []struct {
	m api.Msg
	b string
}{
	{api.Msg{}, "\x00\x00\x00\x00"},
	{api.Msg{L: []api.Entry{}}, "\x00\x00\x00\x00"},
	{api.Msg{K: api.MAsk, Who: 3, Version: api.MaxLog}, "\x01\x03\x80\x08\x00"},
	{api.Msg{K: api.MTold, Who: 2, Version: 5, L: []api.Entry{entries[7].e}}, "\x02\x02\x05\x01" + entries[7].b},
	{api.Msg{K: api.MSubmit, Who: 1, Version: 9, L: []api.Entry{entries[4].e, entries[8].e, entries[3].e}}, "\x00\x01\x09\x03" + entries[4].b + entries[8].b + entries[3].b},
	{api.Msg{K: api.MTold, L: many(api.MaxLog)}, "\x02\x00\x00\x80\x08" + strings.Repeat("\x01\x02\x00\x00\x00\x00", api.MaxLog)},
}

func TestP16_1PutDoc(t *testing.T) {
	for _, x := range docs {
		if b, e := PutDoc(x.l); string(b) != x.b || e != api.OK {
			t.Errorf("PutDoc(%.100v): %.40x, %d; want %.40x", x.l, b, e, x.b)
		}
	}
}

func TestP16_1PutDocRefuses(t *testing.T) {
	wrong := []api.Token{
		{K: -1}, {K: 4}, {K: math.MaxInt}, {K: math.MinInt},
		{N: -1}, {N: 0x110000}, {N: 0xD800}, {N: 0xDFFF}, {N: math.MaxInt}, {N: math.MinInt}, {N: 'x', T: 1}, {N: 'x', M: 5}, {N: 'x', M: 8}, {N: 'x', M: -1},
		{K: api.TOpen}, {K: api.TOpen, T: 16}, {K: api.TOpen, T: -1}, {K: api.TOpen, T: 1, N: 16}, {K: api.TOpen, T: 1, N: -1}, {K: api.TOpen, T: 1, M: 1},
		{K: api.TClose, T: 1}, {K: api.TClose, N: 1}, {K: api.TClose, M: 1},
		{K: api.TLeaf}, {K: api.TLeaf, T: 16}, {K: api.TLeaf, T: 1, N: 16}, {K: api.TLeaf, T: 1, M: 1},
	}
	for _, one := range wrong {
		for _, l := range [][]api.Token{{one}, {{N: 'x'}, one}, {one, {N: 'x'}}, append(long(api.MaxDoc-1), one)} {
			if b, e := PutDoc(l); b != nil || e != api.ErrArg {
				t.Errorf("PutDoc with %v: %.40x, %d", one, b, e)
			}
		}
	}
	for _, l := range [][]api.Token{long(api.MaxDoc + 1), append(long(api.MaxDoc), wrong[0]), slices.Repeat(wrong[:1], 5000)} {
		if b, e := PutDoc(l); b != nil || e != api.ErrLong {
			t.Errorf("PutDoc of %d: %.40x, %d", len(l), b, e)
		}
	}
}

func TestP16_1PutEntry(t *testing.T) {
	for _, x := range entries {
		if b, e := PutEntry(x.e); string(b) != x.b || e != api.OK {
			t.Errorf("PutEntry(%.100v): %.40x, %d; want %.40x", x.e, b, e, x.b)
		}
	}
}

// wrongEntries are entries that can't be, with why.
var wrongEntries = []struct {
	e    api.Entry
	want api.Errno
}{
	{api.Entry{Who: -1}, api.ErrArg},
	{api.Entry{Who: api.MaxClients}, api.ErrArg},
	{api.Entry{Who: math.MaxInt}, api.ErrArg},
	{api.Entry{Who: math.MinInt}, api.ErrArg},
	{api.Entry{Seq: -1}, api.ErrArg},
	{api.Entry{Seq: 1 << 31}, api.ErrArg},
	{api.Entry{Seq: math.MaxInt}, api.ErrArg},
	{api.Entry{Seq: math.MinInt}, api.ErrArg},
	{entry(0, 0, api.Step{K: -1}), api.ErrArg},
	{entry(0, 0, api.Step{K: 4}), api.ErrArg},
	{entry(0, 0, sample.Replace(-1, 0, "")), api.ErrArg},
	{entry(0, 0, sample.Replace(1, 0, "")), api.ErrArg},
	{entry(0, 0, sample.Replace(0, api.MaxDoc+1, "")), api.ErrArg},
	{entry(0, 0, sample.Replace(0, 0, "x!")), api.ErrArg},
	{entry(0, 0, api.Step{Mark: 1}), api.ErrArg},
	{entry(0, 0, api.Step{GapFrom: 1}), api.ErrArg},
	{entry(0, 0, sample.Around(1, 2, 2, 3, "", "")), api.ErrArg},
	{entry(0, 0, api.Step{K: api.SAround, To: 1, GapTo: 1, Insert: 1}), api.ErrArg},
	{entry(0, 0, marking(api.SMark, 1, 1, api.Em)), api.ErrArg},
	{entry(0, 0, marking(api.SUnmark, 1, 2, 3)), api.ErrArg},
	{entry(0, 0, api.Step{K: api.SMark, To: 1, Mark: 1, Slice: long(1)}), api.ErrArg},
	{entry(0, 0, api.Step{Slice: long(api.MaxDoc + 1)}), api.ErrLong},
	{entry(0, 0, api.Step{K: 4, Slice: long(api.MaxDoc + 1)}), api.ErrLong},
	{entry(4, 0, api.Step{Slice: long(api.MaxDoc + 1)}), api.ErrArg},
	{entry(0, -1, api.Step{Slice: long(api.MaxDoc + 1)}), api.ErrArg},
}

func TestP16_1PutEntryRefuses(t *testing.T) {
	for _, x := range wrongEntries {
		if b, e := PutEntry(x.e); b != nil || e != x.want {
			t.Errorf("PutEntry(%.100v): %.40x, %d; want %d", x.e, b, e, x.want)
		}
	}
}

func TestP16_1PutMsg(t *testing.T) {
	for _, x := range messages {
		if b, e := PutMsg(x.m); string(b) != x.b || e != api.OK {
			t.Errorf("PutMsg(%.100v): %.40x, %d; want %.40x", x.m, b, e, x.b)
		}
	}
}

func TestP16_1PutMsgRefuses(t *testing.T) {
	tooLong := entry(0, 0, api.Step{Slice: long(api.MaxDoc + 1)})
	noClient := entry(4, 0, api.Step{})
	for _, x := range []struct {
		m    api.Msg
		want api.Errno
	}{
		{api.Msg{K: -1}, api.ErrArg},
		{api.Msg{K: api.MDoc}, api.ErrArg},
		{api.Msg{K: 4}, api.ErrArg},
		{api.Msg{K: math.MinInt}, api.ErrArg},
		{api.Msg{Who: -1}, api.ErrArg},
		{api.Msg{Who: api.MaxClients}, api.ErrArg},
		{api.Msg{Version: -1}, api.ErrArg},
		{api.Msg{Version: api.MaxLog + 1}, api.ErrArg},
		{api.Msg{Version: math.MaxInt}, api.ErrArg},
		{api.Msg{L: many(api.MaxLog + 1)}, api.ErrLong},
		{api.Msg{K: 4, L: many(api.MaxLog + 1)}, api.ErrArg},
		{api.Msg{Who: 4, L: many(api.MaxLog + 1)}, api.ErrArg},
		{api.Msg{Version: -1, L: many(api.MaxLog + 1)}, api.ErrArg},
		{api.Msg{L: append(many(api.MaxLog), noClient)}, api.ErrLong},
		{api.Msg{L: append(many(api.MaxLog-1), noClient)}, api.ErrArg},
		{api.Msg{L: []api.Entry{tooLong, noClient}}, api.ErrLong},
		{api.Msg{L: []api.Entry{noClient, tooLong}}, api.ErrArg},
		{api.Msg{Who: 4, L: []api.Entry{tooLong}}, api.ErrArg},
	} {
		if b, e := PutMsg(x.m); b != nil || e != x.want {
			t.Errorf("PutMsg(%.100v): %.40x, %d; want %d", x.m, b, e, x.want)
		}
	}
	for _, x := range wrongEntries {
		if b, e := PutMsg(api.Msg{L: append(many(2), x.e)}); b != nil || e != x.want {
			t.Errorf("PutMsg with %.100v: %.40x, %d; want %d", x.e, b, e, x.want)
		}
	}
}

// gets holds that get reads b as want, each beginning of b as one that is short, and b with bytes behind as what can't be.
func gets[T any](t *testing.T, name string, get func([]byte) (T, api.Errno), b string, want T) {
	t.Helper()
	if got, e := get([]byte(b)); !same(got, want) || e != api.OK {
		t.Errorf("%s(%.40x): %.100v, %d; want %.100v", name, b, got, e, want)
	}
	for n := range min(len(b), 300) {
		refuses(t, name, get, b[:n], api.ErrShort)
		refuses(t, name, get, b[:len(b)-1-n], api.ErrShort)
	}
	for _, behind := range []string{"\x00", "\x80", "\x80\x00", b} {
		refuses(t, name, get, b+behind, api.ErrForm)
	}
}

// refuses holds that get refuses b.
func refuses[T any](t *testing.T, name string, get func([]byte) (T, api.Errno), b string, want api.Errno) {
	t.Helper()
	var none T
	if got, e := get([]byte(b)); !same(got, none) || e != want {
		t.Errorf("%s(%.40x) of %d bytes: %.100v, %d; want %d", name, b, len(b), got, e, want)
	}
}

func TestP16_2GetDoc(t *testing.T) {
	for _, x := range docs {
		gets(t, "GetDoc", GetDoc, x.b, x.l)
	}
}

func TestP16_2GetEntry(t *testing.T) {
	for _, x := range entries {
		gets(t, "GetEntry", GetEntry, x.b, x.e)
	}
}

func TestP16_2GetMsg(t *testing.T) {
	for _, x := range messages {
		gets(t, "GetMsg", GetMsg, x.b, x.m)
	}
}

func TestP16_2GetDocRefuses(t *testing.T) {
	for b, want := range map[string]api.Errno{
		"": api.ErrShort, "\x80": api.ErrShort, "\x01": api.ErrShort, "\x01\x05": api.ErrShort, "\x01\xe0": api.ErrShort, "\x02\x02": api.ErrShort,
		"\x80\x10": api.ErrShort, // MaxDoc are told, none are there
		// How many is looked at with that number.
		"\x81\x10": api.ErrForm, "\xff\xff\xff\xff\x07": api.ErrForm, "\x80\x80\x80\x80\x08": api.ErrForm,
		"\x81": api.ErrShort, "\xff\xff\xff\xff\xff": api.ErrShort,
		// Numbers that are none.
		"\x80\x00": api.ErrForm, "\x01\x80\x00": api.ErrForm, "\x01\x01\x80\x00": api.ErrForm, "\x02\x01\x81\x00": api.ErrForm,
		"\xff\xff\xff\xff\xff\xff\xff\xff\xff\x02": api.ErrForm,
		// Numbers above 2^31 - 1.
		"\x02\x80\x80\x80\x80\x08": api.ErrForm, "\x02\x00\x80\x80\x80\x80\x08": api.ErrForm, "\x02\x01\x80\x80\x80\x80\x08": api.ErrForm,
		"\x02\x00\xff\xff\xff\xff\xff\xff\xff\xff\xff\x01": api.ErrForm,
		// Bytes behind.
		"\x00\x00": api.ErrForm, "\x00\x80": api.ErrForm, "\x01\x02\x02": api.ErrForm,
		// Tokens that are not right.
		"\x01\x01\x00": api.ErrForm, "\x01\x01\x10": api.ErrForm, "\x01\x41\x01": api.ErrForm, "\x01\x06": api.ErrForm, "\x01\x03\x00": api.ErrForm, "\x01\x43\x01": api.ErrForm,
		"\x01\x00\x05": api.ErrForm, "\x01\x00\x08": api.ErrForm, "\x01\x80\xc0\x0d\x00": api.ErrForm, "\x01\xfc\xff\x0d\x00": api.ErrForm, "\x01\x80\x80\x90\x02\x00": api.ErrForm, "\x01\xff\xff\xff\xff\x07\x01": api.ErrForm,
		"\x02\x06\x02": api.ErrForm, "\x02\x02\x06": api.ErrForm,
		// What comes is whole ahead of Put refusing it; what is no number is refused where it stands.
		"\x02\x06": api.ErrShort, "\x02\x06\x80": api.ErrShort, "\x02\x00\x05": api.ErrShort, "\x01\x41": api.ErrShort,
		"\x03\x06\x80\x00": api.ErrForm, "\x03\x80\x00": api.ErrForm,
	} {
		refuses(t, "GetDoc", GetDoc, b, want)
	}
	refuses(t, "GetDoc", GetDoc, "\x81\x10"+strings.Repeat("\x02", api.MaxDoc+1), api.ErrForm)
}

func TestP16_2GetEntryRefuses(t *testing.T) {
	for b, want := range map[string]api.Errno{
		"": api.ErrShort,
		// A step's K is looked at where it stands.
		"\x00\x00\x04": api.ErrForm, "\x00\x00\x04\x00\x00\x00": api.ErrForm, "\x00\x00\xff\xff\xff\xff\x07": api.ErrForm, "\x00\x00\x84": api.ErrShort,
		// Numbers above 2^31 - 1, in each place.
		"\x80\x80\x80\x80\x08": api.ErrForm, "\x00\x80\x80\x80\x80\x08": api.ErrForm, "\x00\x00\x80\x80\x80\x80\x08": api.ErrForm,
		"\x00\x00\x00\x80\x80\x80\x80\x08": api.ErrForm, "\x00\x00\x00\x00\x80\x80\x80\x80\x08": api.ErrForm,
		"\x00\x00\x01\x00\x01\x80\x80\x80\x80\x08": api.ErrForm, "\x00\x00\x01\x00\x01\x00\x80\x80\x80\x80\x08": api.ErrForm, "\x00\x00\x01\x00\x01\x00\x01\x80\x80\x80\x80\x08": api.ErrForm,
		"\x00\x00\x02\x00\x01\x80\x80\x80\x80\x08": api.ErrForm,
		// Numbers that are none.
		"\x80\x00": api.ErrForm, "\x00\x80\x00": api.ErrForm, "\x00\x00\x80\x00": api.ErrForm, "\x00\x00\x02\x80\x00": api.ErrForm,
		// More than MaxDoc tokens.
		"\x00\x00\x00\x00\x00\x81\x10": api.ErrForm, "\x00\x00\x01\x00\x01\x00\x01\x00\x81\x10": api.ErrForm,
		"\x00\x00\x00\x00\x00\x80\x10": api.ErrShort,
		// What PutEntry refuses.
		"\x04\x00\x00\x00\x00\x00": api.ErrForm, "\x00\x00\x00\x01\x00\x00": api.ErrForm, "\x00\x00\x00\x00\x81\x10\x00": api.ErrForm, "\x00\x00\x00\x00\x00\x01\x06": api.ErrForm,
		"\x00\x00\x01\x00\x01\x01\x01\x00\x00": api.ErrForm, "\x00\x00\x01\x00\x01\x00\x01\x01\x00": api.ErrForm,
		"\x00\x00\x02\x01\x01\x01": api.ErrForm, "\x00\x00\x03\x00\x01\x03": api.ErrForm, "\x00\x00\x02\x00\x01\x00": api.ErrForm,
		// But not ahead of all being there.
		"\x04": api.ErrShort, "\x04\x00\x00\x00\x00": api.ErrShort, "\x00\x00\x00\x01\x00": api.ErrShort, "\x00\x00\x02\x01\x01": api.ErrShort, "\x04\x00\x04": api.ErrForm,
	} {
		refuses(t, "GetEntry", GetEntry, b, want)
	}
}

func TestP16_2GetMsgRefuses(t *testing.T) {
	for b, want := range map[string]api.Errno{
		"": api.ErrShort, "\x00\x00\x00": api.ErrShort, "\x00\x00\x00\x01": api.ErrShort,
		// Numbers above 2^31 - 1, and that are none.
		"\x80\x80\x80\x80\x08": api.ErrForm, "\x00\x80\x80\x80\x80\x08": api.ErrForm, "\x00\x00\x80\x80\x80\x80\x08": api.ErrForm, "\x00\x00\x00\x80\x80\x80\x80\x08": api.ErrForm,
		"\x80\x00": api.ErrForm, "\x00\x80\x00": api.ErrForm, "\x00\x00\x80\x00": api.ErrForm, "\x00\x00\x00\x80\x00": api.ErrForm, "\x00\x00\x00\x01\x80\x00": api.ErrForm,
		// More than MaxLog entries; MaxLog of which none are there.
		"\x00\x00\x00\x81\x08": api.ErrForm, "\x00\x00\x00\x80\x08": api.ErrShort,
		// A step's K.
		"\x00\x00\x00\x02\x00\x00\x04": api.ErrForm,
		// What PutMsg refuses.
		"\x03\x00\x00\x00": api.ErrForm, "\x04\x00\x00\x00": api.ErrForm, "\x00\x04\x00\x00": api.ErrForm, "\x00\x00\x81\x08\x00": api.ErrForm,
		"\x00\x00\x00\x01\x04\x00\x00\x00\x00\x00": api.ErrForm, "\x00\x00\x00\x01\x00\x00\x00\x00\x00\x01\x06": api.ErrForm,
		// But not ahead of all being there.
		"\x04": api.ErrShort, "\x00\x04\x00": api.ErrShort, "\x03\x00\x00\x01": api.ErrShort, "\x00\x00\x00\x02\x04\x00\x00\x00\x00\x00": api.ErrShort,
	} {
		refuses(t, "GetMsg", GetMsg, b, want)
	}
	refuses(t, "GetMsg", GetMsg, "\x00\x00\x00\x81\x08"+strings.Repeat("\x00\x00\x00\x00\x00\x00", api.MaxLog+1), api.ErrForm)
}

// plain reads in the chapter's words, number by number; behind the first error it goes on with zeros.
type plain struct {
	b []byte
	e api.Errno
}

func (p *plain) next(most int) int {
	if p.e != api.OK {
		return 0
	}
	n, end, e := quad.Get(p.b, 0)
	if e == api.OK && n > uint64(most) {
		e = api.ErrForm
	}
	if e != api.OK {
		p.e = e
		return 0
	}
	p.b = p.b[end:]
	return int(n)
}

func (p *plain) doc() []api.Token {
	var l []api.Token
	for range p.next(2048) {
		n := p.next(1<<31 - 1)
		one := api.Token{K: n & 3, N: n >> 2}
		if one.K == 0 {
			one.M = p.next(1<<31 - 1)
		}
		if one.K == 1 || one.K == 3 {
			one.T = p.next(1<<31 - 1)
		}
		l = append(l, one)
	}
	return l
}

func (p *plain) entry() api.Entry {
	var l [6]int
	for i := range 5 {
		l[i] = p.next([]int{1<<31 - 1, 1<<31 - 1, 3, 1<<31 - 1, 1<<31 - 1}[i])
	}
	e := entry(l[0], l[1], api.Step{K: l[2], From: l[3], To: l[4]})
	if e.S.K > 1 {
		e.S.Mark = p.next(1<<31 - 1)
		return e
	}
	if e.S.K == 1 {
		e.S.GapFrom = p.next(1<<31 - 1)
		e.S.GapTo = p.next(1<<31 - 1)
		e.S.Insert = p.next(1<<31 - 1)
	}
	e.S.Slice = p.doc()
	return e
}

func (p *plain) msg() api.Msg {
	m := api.Msg{}
	m.K = p.next(1<<31 - 1)
	m.Who = p.next(1<<31 - 1)
	m.Version = p.next(1<<31 - 1)
	for range p.next(1024) {
		m.L = append(m.L, p.entry())
	}
	return m
}

// isPlain holds get against part at all rows of at most most of the pieces behind ahead, and put against what is got.
func isPlain[T any](t *testing.T, ahead string, pieces []string, most int, get func([]byte) (T, api.Errno), part func(*plain) T, put func(T) ([]byte, api.Errno)) {
	t.Helper()
	var told [api.ErrForm + 1]int
	for _, s := range sample.Texts(pieces, most) {
		b := []byte(ahead + s)
		p := plain{b: b}
		want := part(&p)
		if p.e == api.OK && len(p.b) > 0 {
			p.e = api.ErrForm
		}
		if _, e := put(want); p.e == api.OK && e != api.OK {
			p.e = api.ErrForm
		}
		if p.e != api.OK {
			var none T
			want = none
		}
		got, e := get(b)
		if !same(got, want) || e != p.e {
			t.Fatalf("%x: %v, %d; want %v, %d", b, got, e, want, p.e)
		}
		told[e]++
		if e == api.OK {
			if again, e := put(got); !bytes.Equal(again, b) || e != api.OK {
				t.Fatalf("%x: %v is put as %x, %d", b, got, again, e)
			}
		}
	}
	if told[api.OK] == 0 || told[api.ErrShort] == 0 || told[api.ErrForm] == 0 {
		t.Errorf("behind %x: told %v", ahead, told)
	}
}

func TestP16_2GetDocOfAllShortBytes(t *testing.T) {
	var all []string
	for c := range 256 {
		all = append(all, string([]byte{byte(c)}))
	}
	isPlain(t, "", all, 2, GetDoc, (*plain).doc, PutDoc)
	isPlain(t, "\x01", all, 2, GetDoc, (*plain).doc, PutDoc)
	isPlain(t, "", []string{"\x00", "\x01", "\x02", "\x03", "\x05", "\x10", "\x41", "\x80", "\x81"}, 5, GetDoc, (*plain).doc, PutDoc)
	isPlain(t, "\x02", []string{"\x00\x01", "\x00\x05", "\x02", "\x06", "\x01\x00", "\x3f\x0f", "\xff\xff\xff\xff", "\x07", "\x08"}, 4, GetDoc, (*plain).doc, PutDoc)
}

func TestP16_2GetEntryOfAllShortBytes(t *testing.T) {
	isPlain(t, "", []string{"\x00", "\x01", "\x04"}, 9, GetEntry, (*plain).entry, PutEntry)
	isPlain(t, "\x03\x07", []string{"\x00", "\x01", "\x02", "\x03", "\x04", "\x80"}, 6, GetEntry, (*plain).entry, PutEntry)
	isPlain(t, "\x03\x07\x01", []string{"\x00", "\x01", "\x02", "\x04"}, 7, GetEntry, (*plain).entry, PutEntry)
	isPlain(t, "\x00\x00\x00", []string{"\x80\x10", "\x81\x10", "\x00", "\x01", "\x02"}, 5, GetEntry, (*plain).entry, PutEntry)
}

func TestP16_2GetMsgOfAllShortBytes(t *testing.T) {
	isPlain(t, "", []string{"\x00", "\x01", "\x02", "\x03", "\x04", "\x80", "\x08"}, 5, GetMsg, (*plain).msg, PutMsg)
	isPlain(t, "\x02\x01\x05", []string{"\x00", "\x01", "\x02", "\x00\x00\x02\x00\x01\x04", "\x03\x01\x00\x00\x00\x00", "\x04\x00\x00\x00\x00\x00", "\x00\x00\x04"}, 4, GetMsg, (*plain).msg, PutMsg)
}

// changed answers b with each of its bytes as another one, and without it.
func changed(b string) []string {
	var all []string
	for i := range b {
		for _, c := range []byte{0, 1, 2, 3, 4, 5, 0x10, 0x7f, 0x80, 0xff, b[i] ^ 1, b[i] ^ 0x80, b[i] + 1} {
			all = append(all, b[:i]+string([]byte{c})+b[i+1:])
		}
		all = append(all, b[:i]+b[i+1:])
	}
	return all
}

func TestP16_2GetMsgOfWhatIsChanged(t *testing.T) {
	pieces := changed(messages[4].b)
	for _, s := range changed(messages[4].b)[:200] {
		pieces = append(pieces, changed(s)...)
	}
	isPlain(t, "", pieces, 1, GetMsg, (*plain).msg, PutMsg)
}

func TestP16_3Wrap(t *testing.T) {
	for b, want := range map[string]string{
		"":                          "\x00\x00\x00\x00\x01",
		"abc":                       "\x03abc\x02\x4d\x01\x27",
		"\x00":                      "\x01\x00\x00\x01\x00\x01",
		strings.Repeat("a", 127):    "\x7f" + strings.Repeat("a", 127) + "\x08\xf3\x30\x20",
		strings.Repeat("\x00", 300): "\xac\x02" + strings.Repeat("\x00", 300) + "\x01\x2c\x00\x01",
	} {
		if f, e := Wrap([]byte(b)); string(f) != want || e != api.OK {
			t.Errorf("Wrap(%.20x): %x, %d; want %x", b, f, e, want)
		}
	}
	if f, e := Wrap(nil); string(f) != "\x00\x00\x00\x00\x01" || e != api.OK {
		t.Errorf("Wrap(nil): %x, %d", f, e)
	}
	if f, e := Wrap(make([]byte, api.MaxFrame)); len(f) != 3+api.MaxFrame+4 || string(f[:4]) != "\x80\x80\x04\x00" || e != api.OK {
		t.Errorf("Wrap of MaxFrame: %d bytes, %d", len(f), e)
	}
	for _, n := range []int{api.MaxFrame + 1, 1 << 20} {
		if f, e := Wrap(make([]byte, n)); f != nil || e != api.ErrLong {
			t.Errorf("Wrap of %d: %d bytes, %d", n, len(f), e)
		}
	}
}

// opens holds what Open answers of b at at.
func opens(t *testing.T, b string, at int, want string, next int, wantE api.Errno) {
	t.Helper()
	if got, end, e := Open([]byte(b), at); string(got) != want || end != next || e != wantE {
		t.Errorf("Open(%.40x, %d): %.40x, %d, %d; want %.40x, %d, %d", b, at, got, end, e, want, next, wantE)
	}
}

func TestP16_3Open(t *testing.T) {
	const abc, none = "\x03abc\x02\x4d\x01\x27", "\x00\x00\x00\x00\x01"
	opens(t, abc, 0, "abc", 8, api.OK)
	opens(t, none, 0, "", 5, api.OK)
	for _, ahead := range []string{"", "\x80", "\xff\xff\x00", abc} {
		for _, behind := range []string{"", "\x00", "\x80\x00", abc, none} {
			opens(t, ahead+abc+behind, len(ahead), "abc", len(ahead)+8, api.OK)
			opens(t, ahead+none+behind, len(ahead), "", len(ahead)+5, api.OK)
		}
	}
}

func TestP16_3OpenLooksAtThePlace(t *testing.T) {
	for _, b := range []string{"", "\x00\x00\x00\x00\x01", "\x80\x00"} {
		for _, at := range []int{-1, math.MinInt, len(b) + 1, math.MaxInt} {
			opens(t, b, at, "", at, api.ErrArg)
		}
		opens(t, b, len(b), "", len(b), api.ErrShort)
	}
	opens(t, "", 0, "", 0, api.ErrShort)
	if b, at, e := Open(nil, 0); b != nil || at != 0 || e != api.ErrShort {
		t.Errorf("Open(nil, 0): %x, %d, %d", b, at, e)
	}
}

func TestP16_3OpenOfWhatIsNotWhole(t *testing.T) {
	for _, inner := range []string{"", "a", "abc", strings.Repeat("ab", 100)} {
		f, _ := Wrap([]byte(inner))
		for n := range f {
			opens(t, string(f[:n]), 0, "", 0, api.ErrShort)
			opens(t, "\x05"+string(f[:n]), 1, "", 1, api.ErrShort)
		}
	}
	// It is not whole, whatever is there of its sum.
	opens(t, "\x03abc\xff\xff\xff", 0, "", 0, api.ErrShort)
	opens(t, "\x80\x80\x04", 0, "", 0, api.ErrShort)
	opens(t, "\x81\x80", 0, "", 0, api.ErrShort)
}

func TestP16_3OpenOfNumbersThatCantBe(t *testing.T) {
	behind := strings.Repeat("\x00", 2*api.MaxFrame)
	for _, number := range []string{
		"\x80\x00", "\xff\x00", "\xff\xff\xff\xff\xff\xff\xff\xff\xff\x02", // that are none
		"\x81\x80\x04", "\xff\xff\xff\xff\x07", "\x80\x80\x80\x80\x08", "\x80\x80\x80\x80\x10", "\xff\xff\xff\xff\xff\xff\xff\xff\x7f", "\xff\xff\xff\xff\xff\xff\xff\xff\xff\x01", // above MaxFrame
	} {
		opens(t, number, 0, "", 0, api.ErrForm)
		opens(t, number+behind, 0, "", 0, api.ErrForm)
		opens(t, "\x00\x00"+number, 2, "", 2, api.ErrForm)
	}
}

func TestP16_3OpenAtTheLimit(t *testing.T) {
	b := make([]byte, api.MaxFrame+1)
	for i := range b {
		b[i] = byte(i * i)
	}
	f, _ := Wrap(b[:api.MaxFrame])
	opens(t, string(f), 0, string(b[:api.MaxFrame]), len(f), api.OK)
	opens(t, string(f[:len(f)-1]), 0, "", 0, api.ErrShort)
	// One more, with a sum that is right.
	opens(t, string(slices.Concat(quad.Put(nil, api.MaxFrame+1), b, sumOf(b))), 0, "", 0, api.ErrForm)
}

func TestP16_3OpenLooksAtTheSum(t *testing.T) {
	for _, inner := range []string{"", "a", "abcdef"} {
		f, _ := Wrap([]byte(inner))
		for i := 1; i < len(f); i++ {
			for bit := range 8 {
				other := bytes.Clone(f)
				other[i] ^= 1 << bit
				opens(t, string(other), 0, "", 0, api.ErrSum)
				opens(t, "\x00"+string(other)+"\x00", 1, "", 1, api.ErrSum)
			}
		}
	}
	opens(t, "\x03abc\x27\x01\x4d\x02", 0, "", 0, api.ErrSum) // the lowest first
}

// stepsOf answers right steps of all kinds, with one of the slices.
func stepsOf(slicesOf [][]api.Token) []api.Step {
	var all []api.Step
	places := []int{0, 1, 127, 128, 2047, 2048}
	for _, from := range places {
		for _, to := range places {
			for _, m := range []int{api.Strong, api.Em, api.Code} {
				all = append(all, marking(api.SMark, from, to, m), marking(api.SUnmark, from, to, m))
			}
			for _, l := range slicesOf {
				all = append(all, api.Step{From: from, To: to, Slice: l})
				for n := range len(l) + 1 {
					all = append(all, api.Step{K: api.SAround, From: from, To: to, GapFrom: from, GapTo: to, Insert: n, Slice: l})
					all = append(all, api.Step{K: api.SAround, From: from, To: to, GapFrom: from + 1, GapTo: to - 1, Insert: n, Slice: l})
				}
			}
		}
	}
	return slices.DeleteFunc(all, func(s api.Step) bool { return step.Check(s) != api.OK })
}

func TestP16_4GetDocUndoesPutDoc(t *testing.T) {
	alphabet := sample.Tokens("<#`>_xBEDC\n€\U0010FFFF\x00")
	for _, l := range sample.Rows(alphabet, 3) {
		b, e := PutDoc(l)
		if e != api.OK {
			t.Fatalf("PutDoc(%v): %d", l, e)
		}
		if got, e := GetDoc(b); !flat.Same(got, l) || e != api.OK {
			t.Fatalf("GetDoc(%x): %v, %d; want %v", b, got, e, l)
		}
	}
	for n := range 0x110000 {
		l := []api.Token{{N: n}}
		if !flat.Right(l[0]) || n > 0x20000 && n%97 > 0 {
			continue
		}
		b, _ := PutDoc(l)
		if got, e := GetDoc(b); !flat.Same(got, l) || e != api.OK {
			t.Fatalf("GetDoc(%x): %v, %d; want %v", b, got, e, l)
		}
	}
}

func TestP16_4GetUndoesPutOfEntriesAndMessages(t *testing.T) {
	all := stepsOf(sample.Rows(sample.Tokens("(x>_"), 2))
	var last []api.Entry
	for i, s := range all {
		x := entry(i%api.MaxClients, i*i*i%(1<<31), s)
		b, e := PutEntry(x)
		if e != api.OK {
			t.Fatalf("PutEntry(%v): %d", x, e)
		}
		if got, e := GetEntry(b); !same(got, x) || e != api.OK {
			t.Fatalf("GetEntry(%x): %v, %d; want %v", b, got, e, x)
		}
		last = append(last, x)
		last = last[max(0, len(last)-api.MaxBatch):]
		m := api.Msg{K: i % 3, Who: i % api.MaxClients, Version: i % (api.MaxLog + 1), L: last[:i%(len(last)+1)]}
		b, e = PutMsg(m)
		if e != api.OK {
			t.Fatalf("PutMsg(%v): %d", m, e)
		}
		if got, e := GetMsg(b); !same(got, m) || e != api.OK {
			t.Fatalf("GetMsg(%x): %v, %d; want %v", b, got, e, m)
		}
	}
}

func TestP16_4OpenUndoesWrap(t *testing.T) {
	var all []byte
	var inner [][]byte
	for n := range 400 {
		b := make([]byte, n)
		for i := range b {
			b[i] = byte(n*i + i*i)
		}
		f, e := Wrap(b)
		if e != api.OK {
			t.Fatalf("Wrap(%x): %d", b, e)
		}
		inner, all = append(inner, b), append(all, f...)
	}
	at := 0
	for _, want := range inner {
		got, next, e := Open(all, at)
		if !bytes.Equal(got, want) || e != api.OK {
			t.Fatalf("Open at %d: %x, %d; want %x", at, got, e, want)
		}
		at = next
	}
	if at != len(all) {
		t.Errorf("the frames end at %d of %d", at, len(all))
	}
}

func TestWhatIsHandedInStays(t *testing.T) {
	l := sample.Tokens("<x>")
	x := entry(1, 2, api.Step{Slice: l})
	m := api.Msg{L: []api.Entry{x, x}}
	b, _ := PutMsg(m)
	PutDoc(l)
	PutEntry(x)
	if !flat.Same(l, sample.Tokens("<x>")) || !same(m, api.Msg{L: []api.Entry{x, x}}) {
		t.Errorf("Put changed what was handed in: %v", m)
	}
	was := bytes.Clone(b)
	GetMsg(b)
	GetEntry(b)
	GetDoc(b)
	f, _ := Wrap(b)
	Open(b, 0)
	f[1] ^= 1
	if !bytes.Equal(b, was) {
		t.Errorf("Get, Wrap or Open changed what was handed in, or share it: %x", b)
	}
}

func TestWhatIsAnsweredIsNew(t *testing.T) {
	room := append(make([]byte, 0, 100), "abc"...)
	f, _ := Wrap(room)
	if rest := room[:10]; string(rest[3:]) != "\x00\x00\x00\x00\x00\x00\x00" {
		t.Errorf("Wrap wrote behind what was handed in: %x", rest)
	}
	b, _, _ := Open(f, 0)
	b[0] = 'z'
	b = append(b, 1, 2, 3, 4, 5)
	if string(f) != "\x03abc\x02\x4d\x01\x27" {
		t.Errorf("what Open answered is part of the frame: %x", f)
	}
	x := entry(1, 2, sample.Replace(0, 0, "xy"))
	p, _ := PutMsg(api.Msg{L: []api.Entry{x, x}})
	m, _ := GetMsg(p)
	m.L[0].S.Slice = append(m.L[0].S.Slice, long(5)...)
	m.L[0].S.Slice[0].N = 'z'
	if again, _ := GetMsg(p); !same(m.L[1], x) || !same(again.L[0], x) {
		t.Errorf("what GetMsg answered shares memory: %v", m)
	}
}
