package tests

import (
	"fmt"
	"strings"
	"testing"

	"loop.example/s04350/impl"
)

// behindDoc puts lines behind a doc line.
func behindDoc(lines ...string) string {
	return "doc 1\n" + strings.Join(lines, "\n")
}

func TestParseScriptLines(t *testing.T) {
	for client := range impl.MaxClients {
		k := fmt.Sprint(client)
		for line, call := range map[string]impl.Call{
			k + " patch []":      callPatch(client, "[]"),
			k + " get /a":        callGet(client, "/a"),
			k + " query $.a":     callQuery(client, "$.a"),
			k + " watch 12 /a/b": callWatch(client, 12, "/a/b"),
			k + " take":          callTake(client),
			k + " cancel":        callCancel(client),
		} {
			checkParsed(t, behindDoc(line), script("1", calls(call), ""))
		}
	}
	checkParsed(t, "doc {\"a\": 1}\n0 get /a\n1 patch []\n0 take\npicks 0 1\n0 cancel\npicks d 7\n7 watch 1 ",
		script(`{"a": 1}`, calls(callGet(0, "/a"), callPatch(1, "[]"), callTake(0), callCancel(0), callWatch(7, 1, "")), "0 1 d 7"))
}

func TestParseScriptEmptyLines(t *testing.T) {
	want := script("1", calls(callTake(0), callTake(1)), "0")
	for _, text := range []string{
		"doc 1\n0 take\n1 take\npicks 0", "\ndoc 1\n0 take\n1 take\npicks 0", "\n\n\ndoc 1\n\n0 take\n\n\n1 take\n\npicks 0\n", "doc 1\n0 take\npicks 0\n1 take\n\n\n",
	} {
		checkParsed(t, text, want)
	}
	for _, text := range []string{"", "\n", "\n\n", strings.Repeat("\n", impl.MaxScript)} {
		checkNotParsed(t, text, 3, 0)
	}
	// A line of blanks is no empty line.
	for i, text := range []string{" ", "\n ", "\n\n\t\n", "\n\n\n\r"} {
		checkNotParsed(t, text, 2, i+1)
	}
	checkNotParsed(t, "doc 1\n ", 2, 2)
	checkNotParsed(t, "doc 1\n\n\r\n", 2, 3)
}

func TestParseScriptDocLine(t *testing.T) {
	for _, doc := range []string{"", " ", "1", "  1 ", "{", "doc 1", "not JSON at all", "{}\r", "\x00\xff", "picks 0", "é"} {
		checkParsed(t, "doc "+doc, impl.Script{Doc: doc})
		checkParsed(t, "\n\ndoc "+doc+"\n0 take", script(doc, calls(callTake(0)), ""))
	}
	for _, first := range []string{"doc", "Doc 1", "DOC 1", " doc 1", "doc1", "doc\t1", "do 1", "docs 1", "d", "0 take", "picks", "picks 0", "0 get /a", "x", "doc\r"} {
		checkNotParsed(t, first, 2, 1)
		checkNotParsed(t, "\n\n"+first+"\ndoc 1", 2, 3)
	}
	for _, second := range []string{"doc 1", "doc ", "doc", "doc 2"} {
		checkNotParsed(t, behindDoc(second), 2, 2)
		checkNotParsed(t, behindDoc("", "0 take", "", second, "x"), 2, 5)
	}
}

func TestParseScriptWrongLines(t *testing.T) {
	for _, line := range []string{
		" ", "x", "0", "0 ", "00 take", "8 take", "9 take", "-1 take", "d take", "a take", " 0 take", "0take", "0  take", "0\ttake", "take", "take 0", " take", "+0 take", "\xb0 take", "０ take",
		"0 take ", "0 take  ", "0 take x", "0 take /a", "0 take\r", "0 Take", "0 tak", "0 takes", "0 take\t", "0 take\x00",
		"0 cancel ", "0 cancel x", "0 Cancel", "0 cance", "0 cancels", "0 cancel\r", "0  cancel", "0cancel", "8 cancel",
		"0 patch", "0patch []", "0  patch []", " 0 patch []", "0 Patch []", "0 patc []", "0 patches []", "0 patch\t[]", "0\tpatch []", "8 patch []", "patch []", "0 patch[]",
		"0 get", "0get /a", "0  get /a", " 0 get /a", "0 GET /a", "0 ge /a", "0 gets /a", "0 get\t/a", "8 get /a", "get /a", "0 get/a",
		"0 query", "0query $", "0  query $", " 0 query $", "0 Query $", "0 quer $", "0 querys $", "0 query\t$", "8 query $", "query $", "0 query$",
		"0 watch", "0 watch ", "0 watch 1", "0 watch  1 /a", "0  watch 1 /a", " 0 watch 1 /a", "0watch 1 /a", "0 watch1 /a", "0 Watch 1 /a", "8 watch 1 /a", "watch 1 /a", "0 watch\t1 /a", "0 watch 1\t/a",
		"0 watch /a", "0 watch /a 1", "0 watch  /a", "0 watch x /a", "0 watch -1 /a", "0 watch +1 /a", "0 watch 1x /a", "0 watch 1. /a", "0 watch 0x1 /a", "0 watch 1_0 /a", "0 watch 1000 /a", "0 watch 0001 /a", "0 watch ９ /a",
		"picks ", "picks  0", "picks 0 ", "picks 0  1", " picks 0", "picks0", "picks 8", "picks 9", "picks -1", "picks 01", "picks 00", "picks 0 8", "picks 0 x", "picks D", "picks dd", "picks 0d", "picks\t0", "picks 0\t1", "picks 0\r",
		"Picks 0", "pick 0", "pickss 0", "picks,0", "picks 0,1", "picks x 0", "0 picks 0", "0 picks", "picks take", "picks\x00", "# a remark",
	} {
		checkNotParsed(t, behindDoc(line), 2, 2)
		checkNotParsed(t, behindDoc("0 take", "", line, "0 take", ""), 2, 4)
		checkNotParsed(t, behindDoc("picks", "picks 0 d", line, "also wrong"), 2, 4)
	}
}

func TestParseScriptRooms(t *testing.T) {
	for digits, room := range map[string]int{
		"0": 0, "1": 1, "9": 9, "00": 0, "000": 0, "01": 1, "10": 10, "007": 7, "070": 70, "099": 99, "100": 100, "101": 101, "999": 999,
	} {
		checkParsed(t, behindDoc("3 watch "+digits+" /a"), script("1", calls(callWatch(3, room, "/a")), ""))
		checkParsed(t, behindDoc("3 watch "+digits+" "), script("1", calls(callWatch(3, room, "")), ""))
		checkNotParsed(t, behindDoc("3 watch "+digits), 2, 2)
	}
}

// TestParseScriptTexts has every byte in TEXT but 10, and what would mean something elsewhere.
func TestParseScriptTexts(t *testing.T) {
	texts := []string{"", " ", "  ", " a", "a ", "a b", " 5 ", "0 take", "7", "12 /a", "doc 1", "picks 0", "\r", "é €", "\xff\xfe", strings.Repeat(" ", 300)}
	for b := range 256 {
		if b != '\n' {
			texts = append(texts, string([]byte{byte(b)}), string([]byte{'/', byte(b), ' ', byte(b)}))
		}
	}
	for _, text := range texts {
		list := calls(callPatch(0, text), callGet(1, text), callQuery(2, text), callWatch(3, 4, text))
		checkParsed(t, "doc "+text+"\n0 patch "+text+"\n1 get "+text+"\n2 query "+text+"\n3 watch 4 "+text, script(text, list, ""))
	}
}

func TestParseScriptPicks(t *testing.T) {
	for _, words := range []string{"", " 0", " 7", " d", " 0 1 2 3 4 5 6 7 d", " d d d", " 0 0"} {
		checkParsed(t, behindDoc("picks"+words), script("1", nil, words))
		checkParsed(t, behindDoc("picks"+words, "picks", "0 take", "picks"+words, "picks d"), script("1", calls(callTake(0)), words+words+" d"))
	}
	many := strings.Repeat(" 3", (impl.MaxScript-len(behindDoc("picks")))/2)
	checkParsed(t, behindDoc("picks"+many), script("1", nil, many))
}

func TestParseScriptBound(t *testing.T) {
	fill := func(line string, size int) string {
		return line + strings.Repeat("x", size-len(line))
	}
	for _, line := range []string{"doc ", "doc 1\n0 get ", "doc 1\n0 watch 1 "} {
		most := fill(line, impl.MaxScript)
		if _, code, at := parse(t, most); code != 0 || at != 0 {
			t.Errorf("%s: %d, %d", short(most), code, at)
		}
		checkNotParsed(t, most+"x", 1, 0)
	}
	// The bound comes ahead of all else.
	checkNotParsed(t, fill("", impl.MaxScript), 2, 1)
	checkNotParsed(t, fill("", impl.MaxScript+1), 1, 0)
	checkNotParsed(t, strings.Repeat("\n", impl.MaxScript+1), 1, 0)
	checkNotParsed(t, "doc 1"+strings.Repeat("\n", impl.MaxScript-6)+"x", 2, impl.MaxScript-5)
	checkNotParsed(t, fill("doc 1\nx\n", 10*impl.MaxScript), 1, 0)
}

// TestParseScriptDamagedLines has each line with each byte left out, put in and
// put in place of another, and holds what comes out against the forms of lines.
func TestParseScriptDamagedLines(t *testing.T) {
	form := newScriptForm()
	check := func(text string) {
		t.Helper()
		s, code, line := impl.ParseScript(text)
		if want, c, l := form.parse(text); code != c || line != l || !alike(s, want) {
			t.Errorf("ParseScript(%q) = %s, %d, %d; want %s, %d, %d", text, spelled(s), code, line, spelled(want), c, l)
		}
	}
	for _, text := range []string{"doc 1", "doc 1\n0 patch []", "doc 1\n6 get /a b", "doc \n7 query $", "doc 1\n5 watch 12 /a", "doc 1\n1 take", "doc 1\n2 cancel", "doc 1\npicks 0 7 d"} {
		for i := range len(text) + 1 {
			for b := range 256 {
				check(text[:i] + string([]byte{byte(b)}) + text[i:])
				if i < len(text) {
					check(text[:i] + string([]byte{byte(b)}) + text[i+1:])
				}
			}
			check(text[:i])
			check(text[i:])
			if i < len(text) {
				check(text[:i] + text[i+1:])
			}
		}
	}
}

// TestParseScriptMadeTexts mixes lines that may stand there with those that are near to them.
func TestParseScriptMadeTexts(t *testing.T) {
	form := newScriptForm()
	m := newMaker(51)
	words := []string{"doc", "patch", "get", "query", "watch", "take", "cancel", "picks", "0", "7", "8", "d", "12", "1234", "", "/a", "$", "x"}
	lines := []string{"", "0 take", "3 cancel", "picks 0 d", "picks", "1 get ", "2 watch 5 ", "7 patch []", "4 query $.a b"}
	var codes [4]int
	for range 20000 {
		var text []string
		for range m.Intn(5) {
			line := lines[m.Intn(len(lines))]
			if m.Intn(4) == 0 {
				line = words[m.Intn(len(words))]
				for range m.Intn(4) {
					line += " " + words[m.Intn(len(words))]
				}
			}
			text = append(text, line)
		}
		if m.Intn(8) > 0 {
			text = append([]string{"doc 1"}, text...)
		}
		whole := strings.Join(text, "\n")
		s, code, line := impl.ParseScript(whole)
		want, c, l := form.parse(whole)
		codes[c]++
		if code != c || line != l || !alike(s, want) {
			t.Fatalf("ParseScript(%q) = %s, %d, %d; want %s, %d, %d", whole, spelled(s), code, line, spelled(want), c, l)
		}
	}
	if codes[0] < 1000 || codes[2] < 1000 || codes[3] < 100 {
		t.Errorf("codes %v: too few of one", codes)
	}
}

// TestParseScriptOfMadeScripts reads what was written, and has Run do it.
func TestParseScriptOfMadeScripts(t *testing.T) {
	m := newMaker(52)
	for range 300 {
		s := m.script()
		text := scriptText(s)
		if len(text) > impl.MaxScript {
			checkNotParsed(t, text, 1, 0)
			continue
		}
		checkParsed(t, text, s)
		out, code, line := run(t, text)
		want, _ := impl.RunScript(s)
		if code != 0 || line != 0 || !alike(out, want) {
			t.Fatalf("Run(%q) = %s, %d, %d; want %s", text, spelled(out), code, line, spelled(want))
		}
	}
}

func TestRunCodes(t *testing.T) {
	for _, c := range []struct {
		text       string
		code, line int
	}{
		{"", 3, 0}, {"\n\n", 3, 0}, {"x", 2, 1}, {"doc", 2, 1}, {"doc 1\n\n8 take", 2, 3}, {"doc 1\ndoc 1", 2, 2},
		{"doc ", 4, 0}, {"doc {", 4, 0}, {"doc 01", 4, 0}, {"doc 1 2", 4, 0}, {"doc 9223372036854775808", 4, 0}, {`doc {"a":1,"a":1}`, 4, 0},
		{"doc " + nest(impl.MaxDepth+1, "[", "]", ""), 4, 0}, {"doc " + flat(impl.MaxValues+1), 4, 0}, {"doc {\n0 take\npicks 0", 4, 0},
		// A line comes ahead of the document, the bound ahead of both.
		{"doc {\nx", 2, 2}, {"doc {\n0 take ", 2, 2}, {"doc " + wide(impl.MaxScript-3), 1, 0}, {"doc {\nx" + strings.Repeat("\n", impl.MaxScript), 1, 0},
	} {
		if out, code, line := run(t, c.text); code != c.code || line != c.line || !alike(out, impl.Outcome{}) {
			t.Errorf("Run(%s) = %s, %d, %d; want nothing, %d, %d", short(c.text), shortly(spelled(out)), code, line, c.code, c.line)
		}
	}
	for _, text := range []string{"doc 1", "\n\ndoc  {} \n", "doc 1\npicks 0 d 7", "doc 1\n0 watch 0 x\n0 watch 999 \npicks 0 0", "doc " + wide(impl.MaxScript-4)} {
		if out, code, line := run(t, text); code != 0 || line != 0 || len(out.Store.Versions) != 1 {
			t.Errorf("Run(%s) = %s, %d, %d", short(text), shortly(spelled(out)), code, line)
		}
	}
}

// TestRunAnswersEveryText has texts of any bytes, and scripts with a byte changed.
func TestRunAnswersEveryText(t *testing.T) {
	m := newMaker(53)
	form := newScriptForm()
	for range 500 {
		text := []byte(scriptText(m.script()))
		for range m.Intn(3) {
			text[m.Intn(len(text))] = byte(m.Intn(256))
		}
		whole := string(text)
		s, code, line := form.parse(whole)
		var want impl.Outcome
		if code == 0 {
			if _, bad := impl.Canon(s.Doc); bad != 0 {
				code = 4
			} else {
				want = modelRunScript(s)
			}
		}
		if out, c, l := impl.Run(whole); c != code || l != line || !alike(out, want) {
			t.Fatalf("Run(%q) = %s, %d, %d; want %s, %d, %d", whole, spelled(out), c, l, spelled(want), code, line)
		}
	}
	for range 2000 {
		text := make([]byte, m.Intn(40))
		m.Read(text)
		if _, code, line := form.parse(string(text)); code != 0 {
			if out, c, l := impl.Run(string(text)); c != code || l != line || !alike(out, impl.Outcome{}) {
				t.Errorf("Run(%q) = %s, %d, %d; want nothing, %d, %d", text, spelled(out), c, l, code, line)
			}
		}
	}
}
