package tests

import (
	"fmt"
	"runtime"
	"strconv"
	"strings"
	"testing"
	"time"

	"loop.example/s04350/impl"
)

func callPatch(client int, text string) impl.Call {
	return impl.Call{Client: client, Kind: impl.CallPatch, Text: text}
}

// callOps is a patch of operations that have a text.
func callOps(client int, ops ...impl.POp) impl.Call {
	text, ok := impl.EncodePatch(ops)
	if !ok {
		panic("no text of " + told(ops))
	}
	return callPatch(client, text)
}

func callGet(client int, ptr string) impl.Call {
	return impl.Call{Client: client, Kind: impl.CallGet, Text: ptr}
}

func callQuery(client int, path string) impl.Call {
	return impl.Call{Client: client, Kind: impl.CallQuery, Text: path}
}

func callWatch(client, room int, ptr string) impl.Call {
	return impl.Call{Client: client, Kind: impl.CallWatch, Text: ptr, Room: room}
}

func callTake(client int) impl.Call {
	return impl.Call{Client: client, Kind: impl.CallTake}
}

func callCancel(client int) impl.Call {
	return impl.Call{Client: client, Kind: impl.CallCancel}
}

func calls(list ...impl.Call) []impl.Call {
	return list
}

// picks reads picks as a script writes them, and numbers of more than one digit too.
func picks(words string) []int {
	var list []int
	for _, word := range strings.Fields(strings.ReplaceAll(words, "d", strconv.Itoa(impl.MaxClients))) {
		pick, err := strconv.Atoi(word)
		if err != nil {
			panic(err)
		}
		list = append(list, pick)
	}
	return list
}

func script(doc string, list []impl.Call, words string) impl.Script {
	return impl.Script{Doc: doc, Calls: list, Picks: picks(words)}
}

func published(client, call, no int) impl.Event {
	return ended(client, call, no, impl.Verdict{Kind: impl.Published, No: no})
}

func ended(client, call, version int, verdict impl.Verdict) impl.Event {
	return impl.Event{Client: client, Call: call, Kind: impl.CallPatch, Verdict: verdict, Version: version}
}

func got(client, call, version, code int, text string) impl.Event {
	return impl.Event{Client: client, Call: call, Kind: impl.CallGet, Version: version, Verdict: impl.Verdict{Code: code}, Text: text}
}

func queried(client, call, version, code int, hits ...impl.Hit) impl.Event {
	return impl.Event{Client: client, Call: call, Kind: impl.CallQuery, Version: version, Verdict: impl.Verdict{Code: code}, Hits: hits}
}

func watched(client, call, version, code int) impl.Event {
	return impl.Event{Client: client, Call: call, Kind: impl.CallWatch, Version: version, Verdict: impl.Verdict{Code: code}}
}

func took(client, call, code int, m impl.Message) impl.Event {
	return impl.Event{Client: client, Call: call, Kind: impl.CallTake, Verdict: impl.Verdict{Code: code}, Message: m}
}

func cancelled(client, call, code int) impl.Event {
	return impl.Event{Client: client, Call: call, Kind: impl.CallCancel, Verdict: impl.Verdict{Code: code}}
}

func parse(t *testing.T, text string) (impl.Script, int, int) {
	t.Helper()
	answers := checkAnew(t, "ParseScript", []any{text}, func() []any {
		s, code, line := impl.ParseScript(text)
		return []any{s, code, line}
	})
	return answers[0].(impl.Script), answers[1].(int), answers[2].(int)
}

func runScript(t *testing.T, s impl.Script) (impl.Outcome, int) {
	t.Helper()
	s = roomy(s)
	answers := checkAnew(t, "RunScript", []any{s}, func() []any {
		defer checkNoneLeft(t, runtime.NumGoroutine())
		out, code := impl.RunScript(s)
		return []any{out, code}
	})
	return answers[0].(impl.Outcome), answers[1].(int)
}

func serial(t *testing.T, doc string, list []impl.Call) (impl.Outcome, int) {
	t.Helper()
	list = roomy(list)
	answers := checkAnew(t, "Serial", []any{doc, list}, func() []any {
		defer checkNoneLeft(t, runtime.NumGoroutine())
		out, code := impl.Serial(doc, list)
		return []any{out, code}
	})
	return answers[0].(impl.Outcome), answers[1].(int)
}

func run(t *testing.T, text string) (impl.Outcome, int, int) {
	t.Helper()
	answers := checkAnew(t, "Run", []any{text}, func() []any {
		defer checkNoneLeft(t, runtime.NumGoroutine())
		out, code, line := impl.Run(text)
		return []any{out, code, line}
	})
	return answers[0].(impl.Outcome), answers[1].(int), answers[2].(int)
}

// checkNoneLeft gives a goroutine that has said its last word the time to be gone
// for the runtime as well; one that waits for something never is.
func checkNoneLeft(t *testing.T, before int) {
	t.Helper()
	for range 1000 {
		if runtime.NumGoroutine() <= before {
			return
		}
		time.Sleep(time.Millisecond)
	}
	t.Fatalf("%d goroutines before the call, %d behind it", before, runtime.NumGoroutine())
}

func checkParsed(t *testing.T, text string, want impl.Script) {
	t.Helper()
	if s, code, line := parse(t, text); !alike(s, want) || code != 0 || line != 0 {
		t.Errorf("ParseScript(%s) = %s, %d, %d; want %s", short(text), shortly(spelled(s)), code, line, shortly(spelled(want)))
	}
}

func checkNotParsed(t *testing.T, text string, code, line int) {
	t.Helper()
	if s, c, l := parse(t, text); !alike(s, impl.Script{}) || c != code || l != line {
		t.Errorf("ParseScript(%s) = %s, %d, %d; want nothing, %d, %d", short(text), shortly(spelled(s)), c, l, code, line)
	}
}

// checkRun has a script make these events, and gives the store and the hub at its end.
func checkRun(t *testing.T, s impl.Script, want ...impl.Event) (impl.Store, impl.Hub) {
	t.Helper()
	out, code := runScript(t, s)
	if code != 0 || !alike(out.Events, want) {
		t.Errorf("RunScript(%s) makes %s, %d; want %s", shortly(spelled(s)), spelled(out.Events), code, spelled(want))
	}
	return out.Store, out.Hub
}

func checkNotRun(t *testing.T, s impl.Script, code int) {
	t.Helper()
	if out, c := runScript(t, s); c != code || !alike(out, impl.Outcome{}) {
		t.Errorf("RunScript(%s) = %s, %d; want nothing, %d", shortly(spelled(s)), shortly(spelled(out)), c, code)
	}
}

func checkNotSerial(t *testing.T, doc string, list []impl.Call, code int) {
	t.Helper()
	if out, c := serial(t, doc, list); c != code || !alike(out, impl.Outcome{}) {
		t.Errorf("Serial(%s, %s) = %s, %d; want nothing, %d", short(doc), shortly(spelled(list)), shortly(spelled(out)), c, code)
	}
}

// scriptText writes a script that has a text.
func scriptText(s impl.Script) string {
	words := []string{impl.CallPatch: "patch", impl.CallGet: "get", impl.CallQuery: "query", impl.CallWatch: "watch", impl.CallTake: "take", impl.CallCancel: "cancel"}
	text := "doc " + s.Doc
	for _, c := range s.Calls {
		text += fmt.Sprintf("\n%d %s", c.Client, words[c.Kind])
		switch c.Kind {
		case impl.CallPatch, impl.CallGet, impl.CallQuery:
			text += " " + c.Text
		case impl.CallWatch:
			text += fmt.Sprintf(" %d %s", c.Room, c.Text)
		}
	}
	text += "\npicks"
	for _, pick := range s.Picks {
		text += " " + string("01234567d"[pick])
	}
	return text
}

const madeDoc = `{"a":[1,{"b":2}],"b":{"a":[],"b":1,"c":{"a":1}},"c":0,"d":{"0":{},"1":[1,2,3]},"e":"","f":[[],[1],[2,3]]}`

// script makes a script in which most kinds of events come up. All of its texts
// can stand in a line.
func (m maker) script() impl.Script {
	s := impl.Script{Doc: madeDoc}
	if m.Intn(8) == 0 {
		s.Doc = canonOf(m.value(4))
	}
	v := modelRead(s.Doc)
	clients := 1 + m.Intn(impl.MaxClients)
	for range m.Intn(80) {
		s.Calls = append(s.Calls, m.call(v, m.Intn(1+m.Intn(clients))))
	}
	for range m.Intn(250) {
		s.Picks = append(s.Picks, m.pick(clients))
	}
	return s
}

func (m maker) pick(clients int) int {
	switch m.Intn(12) {
	case 0, 1, 2:
		return impl.MaxClients
	case 3:
		return m.Intn(impl.MaxClients)
	}
	return m.Intn(1 + m.Intn(clients))
}

func (m maker) call(v any, client int) impl.Call {
	switch m.Intn(16) {
	case 0:
		return callGet(client, inLine(m.place(v)))
	case 1:
		_, text, _ := m.path(v)
		return callQuery(client, inLine(text))
	case 2:
		ptr := []string{"", "/own0", "/own1/x", inLine(m.place(v))}[m.Intn(4)]
		return callWatch(client, m.Intn(4), ptr)
	case 3, 4, 5:
		return callTake(client)
	case 6:
		return []impl.Call{callCancel(client), callPatch(client, ""), callGet(client, "x"), callQuery(client, "$."), callWatch(client, 1, "x")}[m.Intn(5)]
	case 7:
		return callOps(client, test("/a", "[1]"))
	case 8:
		if text, ok := impl.EncodePatch(patch(m.op(v), m.op(v))[m.Intn(2):]); ok {
			return callPatch(client, text)
		}
	}
	return callOps(client, add(fmt.Sprintf("/own%d", client), strconv.Itoa(m.Intn(3))))
}

func inLine(text string) string {
	return strings.ReplaceAll(text, "\n", " ")
}
