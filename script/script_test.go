package script

import (
	"fmt"
	"math"
	"reflect"
	"strings"
	"testing"

	"emender/api"
)

// pairs are lines and the acts that they are, one of each word and more at the ends of what a number may be.
var pairs = []struct {
	line string
	a    api.Act
}{
	{"insert 0 1 120", api.Act{K: api.AEdit, B: api.CInsert, C: 1, N: 120}},
	{"delete 1 2 3", api.Act{K: api.AEdit, B: api.CDelete, A: 1, C: 2, D: 3}},
	{"split 1 2", api.Act{K: api.AEdit, B: api.CSplit, A: 1, C: 2}},
	{"join 1 2", api.Act{K: api.AEdit, B: api.CJoin, A: 1, C: 2}},
	{"block 1 2 3 4", api.Act{K: api.AEdit, B: api.CBlock, A: 1, C: 2, D: 3, N: 4}},
	{"mark 1 2 3 4", api.Act{K: api.AEdit, B: api.CMark, A: 1, C: 2, D: 3, N: 4}},
	{"wrap 1 2 3 4", api.Act{K: api.AEdit, B: api.CWrap, A: 1, C: 2, D: 3, N: 4}},
	{"lift 1 2", api.Act{K: api.AEdit, B: api.CLift, A: 1, C: 2}},
	{"submit 1", api.Act{K: api.ASubmit, A: 1}},
	{"ask 1", api.Act{K: api.AAsk, A: 1}},
	{"deliver 1", api.Act{K: api.ADeliver, A: 1}},
	{"drop 1", api.Act{K: api.ADrop, A: 1}},
	{"twice 1", api.Act{K: api.ATwice, A: 1}},
	{"crash 1", api.Act{K: api.ACrash, A: 1}},
	{"sync", api.Act{K: api.ASync}},
	{"insert 0 0 0", api.Act{}},
	{"drop -1", api.Act{K: api.ADrop, A: -1}},
	{"crash 999999999", api.Act{K: api.ACrash, A: 999999999}},
	{"ask -999999999", api.Act{K: api.AAsk, A: -999999999}},
	{"wrap -10 100 -999999999 999999999", api.Act{K: api.AEdit, B: api.CWrap, A: -10, C: 100, D: -999999999, N: 999999999}},
}

func TestP22_1Act(t *testing.T) {
	for _, p := range pairs {
		if a, e := Act(p.line); !reflect.DeepEqual(a, p.a) || e != api.OK {
			t.Errorf("Act(%s): %v, %d", p.line, a, e)
		}
	}
}

func TestP22_1ActRefuses(t *testing.T) {
	for _, s := range []string{
		"", " ", "#", "# sync", "x", "insert", "insert ", "doc", "doc a", "clients 2", "disk 5", "calm 1", "inject 0 1", "Sync", "SYNC", "syncs", "syn",
		"sync ", " sync", "sync 1", "sync\n", "\nsync", "sync\r", "sync\x00", "sync\xff", "sync\nsync",
		"ask", "ask ", "ask  1", " ask 1", "ask 1 ", "ask 1 2", "ask\t1", "ask 1\n", "ask1", "ask 1#", "ask\u00a01",
		"ask 01", "ask 00", "ask -0", "ask -01", "ask +1", "ask --1", "ask -", "ask 1-", "ask - 1", "ask 1.0", "ask 1e3", "ask 0x1", "ask 1_0", "ask a", "ask \u0661", "ask 1\xff",
		"ask 1000000000", "ask -1000000000", "ask 0999999999", "ask 99999999999999999999", "ask -9223372036854775808",
		"insert 1 2", "insert 1 2 3 4", "insert 1 2 ", "insert 1  2 3", "insert 1 2 03", "delete 1 2", "delete 1 2 3 4", "split 1", "split 1 2 3",
		"join 1", "join 1 2 3", "lift 1", "lift 1 2 3", "block 1 2 3", "block 1 2 3 4 5", "block 1 2 3 4 5 6", "block 1 2 3 4 ", "mark 1 2 3", "mark 1 2 3 4 5", "wrap 1 2 3", "wrap 1 2 3 4 5",
		"submit", "submit 1 2", "deliver", "drop", "twice", "crash", "crash 1 2",
		strings.Repeat(" ", 100000), "ask " + strings.Repeat("9", 100000), strings.Repeat("ask 1 ", 100000),
	} {
		if a, e := Act(s); !reflect.DeepEqual(a, api.Act{}) || e != api.ErrForm {
			t.Errorf("Act(%.50q): %v, %d", s, a, e)
		}
	}
}

func TestP22_1Print(t *testing.T) {
	for _, p := range pairs {
		if s, e := Print(p.a); s != p.line || e != api.OK {
			t.Errorf("Print(%v): %s, %d", p.a, s, e)
		}
		p.a.Bytes = []byte{} // as none
		if s, e := Print(p.a); s != p.line || e != api.OK {
			t.Errorf("Print(%v): %s, %d", p.a, s, e)
		}
	}
}

func TestP22_1PrintRefuses(t *testing.T) {
	wrong := []api.Act{
		{K: api.AInject}, {K: api.AInject, A: 1, Bytes: []byte("x")},
		{K: api.ACompact}, {K: api.AUndo}, {K: api.ARedo}, {K: -1}, {K: 12}, {K: math.MaxInt}, {K: math.MinInt},
		{B: -1}, {B: 8}, {B: math.MaxInt}, {B: math.MinInt},
		{K: api.ASync, A: 1}, {K: api.ASync, B: 1}, {K: api.ASync, C: 1}, {K: api.ASync, D: 1}, {K: api.ASync, N: 1}, {K: api.ASync, N: -1},
	}
	for k := api.ASubmit; k <= api.ACrash; k++ {
		wrong = append(wrong, api.Act{K: k, B: 1}, api.Act{K: k, C: 1}, api.Act{K: k, D: -1}, api.Act{K: k, N: 1})
	}
	for _, b := range []int{api.CInsert, api.CSplit, api.CJoin, api.CLift} {
		wrong = append(wrong, api.Act{B: b, D: 1})
	}
	for _, b := range []int{api.CDelete, api.CSplit, api.CJoin, api.CLift} {
		wrong = append(wrong, api.Act{B: b, N: 1})
	}
	for _, n := range []int{1000000000, -1000000000, math.MaxInt, math.MinInt} {
		wrong = append(wrong, api.Act{K: api.AAsk, A: n}, api.Act{B: api.CWrap, C: n}, api.Act{B: api.CWrap, D: n}, api.Act{B: api.CWrap, N: n})
	}
	for _, p := range pairs {
		p.a.Bytes = []byte{0}
		wrong = append(wrong, p.a)
	}
	for _, a := range wrong {
		if s, e := Print(a); s != "" || e != api.ErrArg {
			t.Errorf("Print(%v): %s, %d", a, s, e)
		}
	}
}

// plan answers what a script without settings says.
func plan(first string, lines ...string) Plan {
	return Plan{First: first, Clients: 2, Disk: api.MaxDisk, Lines: lines}
}

func TestP22_2Parse(t *testing.T) {
	for _, c := range []struct {
		s    string
		want Plan
	}{
		{"", plan("")},
		{"\n", plan("")},
		{"\n\n\n", plan("")},
		{"#", plan("")},
		{"#x\n# \\x\n##\n#\xff", plan("")},
		{"# x\ndoc a\\n\\\\b\nclients 3\ndisk 5\n\nsync\ncalm 2", Plan{"a\n\\b", 3, 5, []string{"sync", "calm 2"}}},
		{"sync\ncrash -1\n\n#calm 7\ncalm 100\ncalm 0\ncalm -5\ncalm -999999999\nsync\nask 0", plan("", "sync", "crash -1", "calm 100", "calm 0", "calm -5", "calm -999999999", "sync", "ask 0")},
		{"sync\n", plan("", "sync")},
		{"doc ", plan("")},
		{"doc  a ", plan(" a ")},
		{"doc doc a", plan("doc a")},
		{"doc # a", plan("# a")},
		{"doc \\n\\n\\\\n\\\\\\nn\\\\", plan("\n\n\\n\\\nn\\")},
		{"doc a\\\\", plan("a\\")},
		{"doc a\ndoc b", plan("b")},
		{"doc a\nsync\ndoc ", plan("", "sync")},
		{"doc a\r", plan("a\r")},
		{"doc a\xffb\\n\xe2\x82\\\\\xe2\x82\xac\xc3", plan("a\xffb\n\xe2\x82\\\xe2\x82\xac\xc3")},
		{"doc \xe2\nsync", plan("\xe2", "sync")},
		{"clients 0", Plan{"", 0, api.MaxDisk, nil}},
		{"clients -7", Plan{"", -7, api.MaxDisk, nil}},
		{"clients 3\nclients 999999999", Plan{"", 999999999, api.MaxDisk, nil}},
		{"disk 0", Plan{"", 2, 0, nil}},
		{"disk 7\ndisk -999999999", Plan{"", 2, -999999999, nil}},
	} {
		if p, n, e := Parse(c.s); spelled(p) != spelled(c.want) || n != 0 || e != api.OK {
			t.Errorf("Parse(%q): %s, %d, %d, want %s", c.s, spelled(p), n, e, spelled(c.want))
		}
	}
}

// spelled tells all of a plan.
func spelled(p Plan) string {
	return fmt.Sprintf("%q %d %d %q", p.First, p.Clients, p.Disk, p.Lines)
}

func TestP22_2ParseLines(t *testing.T) {
	// The line of an act is taken as it is.
	for _, p := range pairs {
		if got, n, e := Parse(p.line); spelled(got) != spelled(plan("", p.line)) || n != 0 || e != api.OK {
			t.Errorf("Parse(%s): %s, %d, %d", p.line, spelled(got), n, e)
		}
	}
}

func TestP22_2ParseForm(t *testing.T) {
	for _, s := range []string{
		"x", " ", " #", " sync", "sync ", "sync\r", "\r", "\t", "\x00", "\xff", "\xe2", "sync\xe2", "inject 0",
		"doc", "docs a", "doc\ta", "Doc a", " doc a", "doc \\", "doc a\\", "doc \\x", "doc \\N", "doc \\\\\\", "doc \\ n", "doc \\\\\\x", "doc \\n\\t", "doc \\\xff", "doc \\\xe2",
		"clients", "clients ", "clients x", "clients 02", "clients -0", "clients 1 2", "clients  1", "clients 1 ", "clients 1000000000",
		"disk", "disk ", "disk x", "disk 00", "disk 5 5", "disk 1000000000", "disk -1000000000",
		"calm", "calm ", "calm x", "calm 101", "calm 999999999", "calm 1000000000", "calm 05", "calm -0", "calm 1 1", "calm 1 ", "calm  1",
	} {
		refused(t, s, 1, api.ErrForm)
		refused(t, s+"\nsync", 1, api.ErrForm)
		refused(t, "#\n"+s, 2, api.ErrForm)
		refused(t, "doc a\n\nsync\n"+s+"\ndoc b\nclients 2\nx", 4, api.ErrForm)
	}
	refused(t, "doc a\nclients 3\nclients x\nclients 2", 3, api.ErrForm)
	refused(t, "disk x\ndisk 2", 1, api.ErrForm)
	refused(t, strings.Repeat("\n", 5000)+"x", 5001, api.ErrForm)
}

func refused(t *testing.T, s string, line int, want api.Errno) {
	t.Helper()
	if p, n, e := Parse(s); !reflect.DeepEqual(p, Plan{}) || n != line || e != want {
		t.Errorf("Parse(%.50q): %.100v, %d, %d, want %d, %d", s, p, n, e, line, want)
	}
	if out, e := Play(s); out != "" || e != want {
		t.Errorf("Play(%.50q): %s, %d, want %d", s, out, e, want)
	}
}

func TestP22_2ParseLong(t *testing.T) {
	full := "doc " + strings.Repeat("a", api.MaxScript-9) + "\nsync"
	if p, n, e := Parse(full); len(p.First) != api.MaxScript-9 || len(p.Lines) != 1 || n != 0 || e != api.OK {
		t.Errorf("Parse of %d bytes: %.100v, %d, %d", len(full), p, n, e)
	}
	if p, n, e := Parse(strings.Repeat("sync\n", api.MaxScript/5) + "#"); len(p.Lines) != api.MaxScript/5 || n != 0 || e != api.OK {
		t.Errorf("Parse of many lines: %d, %d, %d", len(p.Lines), n, e)
	}
	refused(t, full+"\n", 0, api.ErrLong)
	refused(t, full+"x", 0, api.ErrLong)
	refused(t, "x\n"+full, 0, api.ErrLong) // ErrLong comes ahead of ErrForm
	refused(t, strings.Repeat("\n", api.MaxScript+1), 0, api.ErrLong)
}

// plays holds what has come of a script's lines against want's.
func plays(t *testing.T, lines []string, want ...string) {
	t.Helper()
	s := strings.Join(lines, "\n")
	if out, e := Play(s); out != strings.Join(want, "\n")+"\n" || e != api.OK {
		t.Errorf("Play(%q):\n%s%d, want\n%s", s, out, e, strings.Join(want, "\n"))
	}
}

func TestP22_3Play(t *testing.T) {
	plays(t, []string{"insert 0 1 120", "submit 0", "calm 5"},
		"keeper 1 1", "client 0 1 0 0", "client 1 1 0 0", "doc", "| x")
	plays(t, []string{"clients 1", "doc > a"},
		"keeper 0 0", "client 0 0 0 0", "doc", "| > a")
	plays(t, nil,
		"keeper 0 0", "client 0 0 0 0", "client 1 0 0 0", "doc", `| \`)
	plays(t, []string{"clients 4", "insert 3 1 120", "insert 3 2 121", "submit 3", "deliver 0"},
		"keeper 2 0", "client 0 0 0 0", "client 1 0 0 0", "client 2 0 0 0", "client 3 0 2 0", "doc", "| xy")
	// Settings stand for the whole script, wherever they are.
	plays(t, []string{"insert 2 2 120", "calm 2", "clients 3", "doc a"},
		"keeper 1 1", "client 0 1 0 0", "client 1 1 0 0", "client 2 1 0 0", "doc", "| ax")
}

func TestP22_3PlayDocuments(t *testing.T) {
	empty := []string{"keeper 0 0", "client 0 0 0 0", "doc"}
	plays(t, []string{"clients 1", "doc "}, append(empty, `| \`)...)
	plays(t, []string{"clients 1", "doc \\n\\n"}, append(empty, `| \`)...)
	// The document is told line by line, with the empty ones.
	plays(t, []string{"clients 1", "doc ```\\n\\n a\\n\\n```\\n> b\\n---\\n- c\\n  - d"},
		append(empty, "| ```", "| ", "|  a", "| ", "| ```", "| > b", "| ---", "| - c", "|   - d")...)
	plays(t, []string{"clients 1", "doc \\\\# a\\\\\\\\b**c**\u20ac"}, append(empty, `| \# a\\b**c**€`)...)
	plays(t, []string{"clients 1", "doc ```\\n"}, append(empty, "| ```", "| ", "| ```")...)
	plays(t, []string{"clients 1", "doc \xff", "doc a"}, append(empty, "| a")...)
}

func TestP22_3PlayActs(t *testing.T) {
	// What is lost, and what comes twice.
	plays(t, []string{"doc ab", "delete 0 3 1", "mark 1 1 3 1", "submit 0", "twice 0", "deliver -1", "deliver 0", "sync", "ask 1", "deliver 0", "deliver 0"},
		"keeper 1 1", "client 0 0 1 0", "client 1 1 0 1", "doc", `| \`)
	// What was dropped does not come; what was not sure is gone, but for what the crash keeps.
	plays(t, []string{"insert 0 1 97", "submit 0", "drop 0", "deliver 0"},
		"keeper 0 0", "client 0 0 1 0", "client 1 0 0 0", "doc", `| \`)
	plays(t, []string{"insert 0 1 97", "submit 0", "deliver 0", "crash 0"},
		"keeper 0 0", "client 0 0 1 0", "client 1 0 0 0", "doc", `| \`)
	plays(t, []string{"insert 0 1 97", "submit 0", "deliver 0", "crash 1000"},
		"keeper 1 1", "client 0 0 1 0", "client 1 0 0 0", "doc", "| a")
	// All commands.
	plays(t, []string{"clients 1", "doc ab\\ncd\\n> e", "split 0 2", "join 0 6", "block 0 1 2 3", "mark 0 4 6 1", "wrap 0 0 3 3", "lift 0 12", "delete 0 8 9", "insert 0 7 120", "calm 1"},
		"keeper 8 8", "client 0 8 0 0", "doc", "| > ### a", "| **b**x**c**", "| e")
	// What the world refuses is not done, and the script goes on.
	plays(t, []string{"submit 0", "deliver 0", "drop 0", "twice 0", "submit 9", "ask -1", "insert 2 1 97", "crash -1", "insert 0 1 -5", "block 0 1 9 9", "insert 1 1 98", "calm 3"},
		"keeper 1 1", "client 0 1 0 0", "client 1 1 0 0", "doc", "| b")
	// A disk without room.
	plays(t, []string{"disk 1", "insert 0 1 97", "submit 0", "calm 3"},
		"keeper 0 0", "client 0 0 1 0", "client 1 0 0 0", "doc", `| \`)
	// No rounds are no calm.
	plays(t, []string{"clients 1", "insert 0 1 97", "calm 0", "calm -1"},
		"keeper 0 0", "client 0 0 1 0", "doc", `| \`)
}

func TestP22_3PlayRefuses(t *testing.T) {
	deep := strings.Repeat("> ", api.MaxDeep)
	for _, c := range []struct {
		s    string
		want api.Errno
	}{
		{"doc \xff", api.ErrForm},
		{"doc a\ndoc \xc3", api.ErrForm},
		{"doc " + deep + "a", api.ErrDeep},
		{"doc " + strings.Repeat("a", api.MaxDoc), api.ErrLong},
		{"clients 0", api.ErrArg},
		{"clients 5", api.ErrArg},
		{"clients -1", api.ErrArg},
		{"disk -1", api.ErrArg},
		{"disk 262145", api.ErrArg},
		// The first of several.
		{"clients 5\nsync 1", api.ErrForm},
		{"clients 5\ndoc " + deep + "a", api.ErrDeep},
		{"doc " + deep + "a\nx", api.ErrForm},
		{"disk -1\ndoc \xff", api.ErrForm},
	} {
		if out, e := Play(c.s); out != "" || e != c.want {
			t.Errorf("Play(%.50q): %s, %d, want %d", c.s, out, e, c.want)
		}
	}
	for _, s := range []string{"clients 1", "clients 4", "disk 0", "disk 262144", "doc " + strings.Repeat("a", api.MaxDoc-2)} {
		if out, e := Play(s); out == "" || e != api.OK {
			t.Errorf("Play(%.50q): %s, %d", s, out, e)
		}
	}
}

// TestP22_4ActUndoesPrint: of all acts with these numbers those that have a line are read back from it, and no two have the same.
func TestP22_4ActUndoesPrint(t *testing.T) {
	lines := map[string]int{}
	numbers := []int{0, 1, -7, 999999999, 1000000000}
	for k := -1; k <= 12; k++ {
		for b := -1; b <= 8; b++ {
			for i := range len(numbers) * len(numbers) * len(numbers) * len(numbers) {
				a := api.Act{K: k, B: b, A: numbers[i%5], C: numbers[i/5%5], D: numbers[i/25%5], N: numbers[i/125]}
				s, e := Print(a)
				if e == api.ErrArg && s == "" {
					continue
				}
				lines[s]++
				if back, e := Act(s); !reflect.DeepEqual(back, a) || e != api.OK {
					t.Fatalf("Act(%s): %v, %d, want %v", s, back, e, a)
				}
			}
		}
	}
	// Four numbers each, behind all places: of block, mark and wrap 4, of insert and delete 3, of split, join and lift 2, of sync none, of six words 1.
	if want := 3*256 + 2*64 + 3*16 + 6*4 + 1; len(lines) != want {
		t.Errorf("%d lines, want %d", len(lines), want)
	}
	for s, n := range lines {
		if n != 1 {
			t.Errorf("%d acts are %s", n, s)
		}
	}
}

func TestListsAreNotShared(t *testing.T) {
	s := "sync\ncalm 1"
	p, _, _ := Parse(s)
	p.Lines[0] = "x"
	if again, _, _ := Parse(s); again.Lines[0] != "sync" {
		t.Errorf("Parse: %v", again)
	}
	a := api.Act{K: api.AAsk, A: 1, Bytes: make([]byte, 0, 5)}
	Print(a)
	if back, _ := Act("ask 1"); back.Bytes != nil || a.A != 1 {
		t.Errorf("Act: %v", back)
	}
}
