package script

import (
	"fmt"
	"reflect"
	"regexp"
	"strconv"
	"strings"
	"testing"

	"emender/api"
	"emender/block"
	"emender/sample"
	"emender/world"
)

// The lines of acts as the chapter lists them, and what they are.
const listed = "insert a c n; delete a c d; split a c; join a c; block a c d n; mark a c d n; wrap a c d n; lift a c; submit a; ask a; deliver a; drop a; twice a; crash a; sync"

var (
	spokenKinds = map[string]int{"submit": api.ASubmit, "ask": api.AAsk, "deliver": api.ADeliver, "drop": api.ADrop, "twice": api.ATwice, "crash": api.ACrash, "sync": api.ASync}
	spokenEdits = map[string]int{"insert": api.CInsert, "delete": api.CDelete, "split": api.CSplit, "join": api.CJoin, "block": api.CBlock, "mark": api.CMark, "wrap": api.CWrap, "lift": api.CLift}
	spokenDoc   = regexp.MustCompile(`(?s)\Adoc ((?:[^\\]|\\n|\\\\)*)\z`)
	spokenSet   = regexp.MustCompile(`\A(clients|disk|calm) (` + spokenNumber + `)\z`)
	spokenLines = spokenForms()
)

const spokenNumber = `0|-?[1-9][0-9]{0,8}`

type spokenForm struct {
	words []string
	line  *regexp.Regexp
}

func spokenForms() []spokenForm {
	var l []spokenForm
	for _, one := range strings.Split(listed, "; ") {
		words := strings.Split(one, " ")
		form := `\A` + words[0] + strings.Repeat(" ("+spokenNumber+")", len(words)-1) + `\z`
		l = append(l, spokenForm{words, regexp.MustCompile(form)})
	}
	return l
}

// spokenAct is Act by the chapter's words.
func spokenAct(s string) (api.Act, bool) {
	for _, form := range spokenLines {
		found := form.line.FindStringSubmatch(s)
		if found == nil {
			continue
		}
		a := api.Act{K: spokenKinds[form.words[0]], B: spokenEdits[form.words[0]]}
		for i, letter := range form.words[1:] {
			n, _ := strconv.Atoi(found[i+1])
			switch letter {
			case "a":
				a.A = n
			case "c":
				a.C = n
			case "d":
				a.D = n
			case "n":
				a.N = n
			}
		}
		return a, true
	}
	return api.Act{}, false
}

// spokenSetting answers the word and the number of a line that is a setting, or calm.
func spokenSetting(line string) (string, int) {
	found := spokenSet.FindStringSubmatch(line)
	if found == nil {
		return "", 0
	}
	n, _ := strconv.Atoi(found[2])
	if found[1] == "calm" && n > 100 {
		return "", 0
	}
	return found[1], n
}

// spokenParse is Parse by the chapter's words.
func spokenParse(s string) (Plan, int, api.Errno) {
	if len(s) > 65536 {
		return Plan{}, 0, api.ErrLong
	}
	p := Plan{Clients: 2, Disk: 1 << 18}
	for i, line := range strings.Split(s, "\n") {
		_, isAct := spokenAct(line)
		word, n := spokenSetting(line)
		doc := spokenDoc.FindStringSubmatch(line)
		switch {
		case line == "" || line[0] == '#':
		case doc != nil:
			p.First = strings.NewReplacer(`\n`, "\n", `\\`, `\`).Replace(doc[1])
		case word == "clients":
			p.Clients = n
		case word == "disk":
			p.Disk = n
		case isAct || word == "calm":
			p.Lines = append(p.Lines, line)
		default:
			return Plan{}, i + 1, api.ErrForm
		}
	}
	return p, 0, api.OK
}

// spokenPlay is Play by the chapter's words.
func spokenPlay(s string) (string, api.Errno) {
	p, _, e := spokenParse(s)
	if e != api.OK {
		return "", e
	}
	first := sample.Tokens("<>")
	if p.First != "" {
		first, e = block.Parse(p.First)
	}
	if e != api.OK {
		return "", e
	}
	w, e := world.New(first, p.Clients, p.Disk)
	if e != api.OK {
		return "", e
	}
	for _, line := range p.Lines {
		if a, ok := spokenAct(line); ok {
			w.Do(a)
		} else {
			_, n := spokenSetting(line)
			w.Calm(n)
		}
	}
	var out strings.Builder
	fmt.Fprintln(&out, "keeper", w.Keeper().Version(), w.Keeper().Sure())
	for i := range p.Clients {
		c := w.Client(i)
		fmt.Fprintln(&out, "client", i, c.Version(), len(c.Pending()), c.Lost())
	}
	fmt.Fprintln(&out, "doc")
	page, e := block.Print(w.Keeper().Doc())
	for _, line := range strings.Split(strings.TrimSuffix(page, "\n"), "\n") {
		fmt.Fprintln(&out, "| "+line)
	}
	return out.String(), e
}

// agreesAct holds Act of a line, and Print of what it answers, against the chapter's words.
func agreesAct(t *testing.T, s string) bool {
	t.Helper()
	want, ok := spokenAct(s)
	a, e := Act(s)
	if !reflect.DeepEqual(a, want) || ok != (e == api.OK) || !ok && e != api.ErrForm {
		t.Errorf("Act(%q): %v, %d, want %v, %v", s, a, e, want, ok)
	}
	if !ok {
		return false
	}
	if back, e := Print(a); back != s || e != api.OK {
		t.Errorf("Print(%v): %q, %d, want %q", a, back, e, s)
	}
	return true
}

// TestP22_1AllShortLines holds Act against the chapter's words at all lines of few pieces.
func TestP22_1AllShortLines(t *testing.T) {
	lines := 0
	for _, s := range sample.Texts([]string{"insert", "block", "split", "ask", "sync", "calm", " ", "0", "-", "12", "345678901", "\n", "\xff"}, 5) {
		if agreesAct(t, s) {
			lines++
		}
	}
	if lines < 20 {
		t.Errorf("only %d are lines", lines)
	}
}

// TestP22_1AllNumbers does so at all texts that may stand for a number, and all rows of numbers behind all words.
func TestP22_1AllNumbers(t *testing.T) {
	lines := 0
	for _, n := range sample.Texts([]string{"0", "1", "9", "-", "+", " ", "_", "99999999", "٣"}, 5) {
		if agreesAct(t, "ask "+n) {
			lines++
		}
		if agreesAct(t, "mark 1 "+n+" 3 4") {
			lines++
		}
	}
	for _, row := range sample.Rows([]string{"0", "-7", "999999999", "08"}, 5) {
		for _, form := range spokenLines {
			if agreesAct(t, strings.Join(append([]string{form.words[0]}, row...), " ")) {
				lines++
			}
		}
	}
	if lines < 500 {
		t.Errorf("only %d are lines", lines)
	}
}

func agreesParse(t *testing.T, s string) api.Errno {
	t.Helper()
	want, line, e := spokenParse(s)
	if p, n, got := Parse(s); spelled(p) != spelled(want) || n != line || got != e {
		t.Errorf("Parse(%q): %s, %d, %d, want %s, %d, %d", s, spelled(p), n, got, spelled(want), line, e)
	}
	return e
}

// TestP22_2AllShortScripts holds Parse against the chapter's words at all scripts of few pieces.
func TestP22_2AllShortScripts(t *testing.T) {
	got := map[api.Errno]int{}
	for _, s := range sample.Texts([]string{"\n", "doc ", "doc", "a", `\`, "n", "\xe2", "#", "sync", "calm ", "clients ", "disk ", "100", "1", " "}, 5) {
		got[agreesParse(t, s)]++
		if t.Failed() {
			return
		}
	}
	for _, s := range sample.Texts([]string{"a", `\`, "n", "\xe2", "\xac", " ", "\n"}, 6) {
		got[agreesParse(t, "doc "+s)]++
	}
	if got[api.OK] < 1000 || got[api.ErrForm] < 1000 {
		t.Errorf("%v", got)
	}
}

func TestP22_2AllShortRowsOfLines(t *testing.T) {
	lines := []string{"", "#x", "doc ", `doc a\nb`, "doc \\", "clients 3", "clients 1", "clients x", "disk 9", "disk 0", "sync", "ask 5", "calm 101", "calm 0"}
	for _, row := range sample.Rows(lines, 4) {
		agreesParse(t, strings.Join(row, "\n"))
	}
}

func agreesPlay(t *testing.T, s string) (string, api.Errno) {
	t.Helper()
	want, e := spokenPlay(s)
	if out, got := Play(s); out != want || got != e {
		t.Errorf("Play(%q):\n%s%d, want\n%s%d", s, out, got, want, e)
	}
	return want, e
}

// TestP22_3AllShortScripts holds Play against the chapter's words at all scripts of few lines.
func TestP22_3AllShortScripts(t *testing.T) {
	lines := []string{"clients 1", "doc ab\\n> c", "disk 20", "insert 0 1 120", "delete 1 1 2", "submit 0", "submit 1", "ask 1", "deliver 0", "drop 0", "twice 0", "crash 0", "sync", "calm 2"}
	outs := map[string]int{}
	for _, row := range sample.Rows(lines, 4) {
		out, _ := agreesPlay(t, strings.Join(row, "\n"))
		outs[out]++
		if t.Failed() {
			return
		}
	}
	if len(outs) < 50 {
		t.Errorf("only %d different ends", len(outs))
	}
}

// TestP22_3LongScripts does so at long scripts of all kinds of lines.
func TestP22_3LongScripts(t *testing.T) {
	got := map[api.Errno]int{}
	for seed := range uint32(40) {
		n := sample.Mixed(seed, 1500, 1000)
		lines := []string{
			fmt.Sprint("clients ", 1+seed%5),
			"doc " + []string{"", "ab\\ncd", "> a\\n- b\\n- c", "# x\\n```\\n\\ny\\n```", `**a**\\\\`, "\xff"}[seed%6],
		}
		for i := 0; i+6 < len(n); i += 6 {
			lines = append(lines, mixedLine(n[i:i+6]))
		}
		if seed%2 == 0 {
			lines = append(lines, "calm 50")
		}
		_, e := agreesPlay(t, strings.Join(lines, "\n"))
		got[e]++
	}
	if got[api.OK] < 20 || got[api.ErrArg] < 4 || got[api.ErrForm] < 4 {
		t.Errorf("%v", got)
	}
}

// mixedLine answers the line that six numbers tell.
func mixedLine(m []int) string {
	who := m[1] % 4
	switch m[0] % 16 {
	case 0, 1, 2, 3, 4:
		return fmt.Sprint("insert ", who, " ", m[2]-300, " ", 'a'+m[3]%26)
	case 5:
		words := spokenLines[m[2]%8].words
		line := fmt.Sprint(words[0], " ", who)
		for i := range words[2:] {
			line += fmt.Sprint(" ", m[3+i]%12)
		}
		return line
	case 6:
		return []string{"", "#", "# calm", "sync", "calm 1", "calm -3", "crash 0", "crash 40"}[m[2]%8]
	case 7, 8, 9:
		return fmt.Sprint("submit ", who)
	case 10:
		return fmt.Sprint("ask ", who)
	case 11, 12, 13:
		return fmt.Sprint("deliver ", m[2]-500)
	case 14:
		return fmt.Sprint("drop ", m[2])
	}
	return fmt.Sprint("twice ", m[2])
}
