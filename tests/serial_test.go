package tests

import (
	"fmt"
	"testing"

	"loop.example/s04350/impl"
)

// checkSerial has calls make these events one by one, and gives the store and the hub at the end.
func checkSerial(t *testing.T, doc string, list []impl.Call, want ...impl.Event) (impl.Store, impl.Hub) {
	t.Helper()
	out, code := serial(t, doc, list)
	if code != 0 || !alike(out.Events, want) {
		t.Errorf("Serial(%s, %s) makes %s, %d; want %s", short(doc), shortly(spelled(list)), spelled(out.Events), code, spelled(want))
	}
	return out.Store, out.Hub
}

func TestSerialWithoutCalls(t *testing.T) {
	store, hub := checkSerial(t, ` [1, 2] `, nil)
	if !alike(store, versions(impl.Version{Doc: "[1,2]"})) || !alike(hub, impl.Hub{}) {
		t.Errorf("%s, %s", spelled(store), spelled(hub))
	}
}

func TestSerialInOrder(t *testing.T) {
	list := calls(callGet(5, "/a"), callOps(5, add("/a", "1")), callGet(0, "/a"), callOps(0, add("/a", "2")), callOps(5, add("/a", "3")), callPatch(1, "x"), callOps(1, remove("/b")), callQuery(5, "$.a"))
	store, hub := checkSerial(t, "{}", list, got(5, 0, 0, 3, ""), published(5, 1, 1), got(0, 2, 1, 0, "1"), published(0, 3, 2), published(5, 4, 3),
		ended(1, 5, 3, impl.Verdict{Kind: impl.Malformed, Code: 1}), ended(1, 6, 3, impl.Verdict{Kind: impl.Failed, Code: 3}), queried(5, 7, 3, 0, impl.Hit{Ptr: "/a", Value: "3"}))
	if len(store.Versions) != 4 || headOf(store).Doc != `{"a":3}` || !alike(hub, impl.Hub{}) {
		t.Errorf("%s, %s", spelled(store), spelled(hub))
	}
}

// TestSerialDispatches has the news of a patch told right behind it, and ahead of the next call.
func TestSerialDispatches(t *testing.T) {
	list := calls(callOps(1, add("/a", "0")), callWatch(0, 1, "/a"), callTake(0), callOps(1, add("/a", "1")), callTake(0), callTake(0),
		callOps(1, add("/a", "2")), callOps(1, add("/b", "3")), callOps(1, add("/a", "4")), callTake(0), callTake(0), callTake(0), callCancel(0), callTake(0), callCancel(0))
	_, hub := checkSerial(t, "{}", list, published(1, 0, 1), watched(0, 1, 1, 0), took(0, 2, 2, impl.Message{}), published(1, 3, 2), took(0, 4, 0, message(2, "/a")), took(0, 5, 2, impl.Message{}),
		published(1, 6, 3), published(1, 7, 4), published(1, 8, 5), took(0, 9, 0, message(3, "/a")), took(0, 10, 4, over(5)), took(0, 11, 3, impl.Message{}),
		cancelled(0, 12, 0), took(0, 13, 1, impl.Message{}), cancelled(0, 14, 1))
	if !alike(hub, impl.Hub{}) {
		t.Errorf("%s", spelled(hub))
	}
	_, hub = checkSerial(t, "{}", list[:4], published(1, 0, 1), watched(0, 1, 1, 0), took(0, 2, 2, impl.Message{}), published(1, 3, 2))
	if !alike(hub, watches(watch(0, "/a", 1, 1, message(2, "/a")))) {
		t.Errorf("%s", spelled(hub))
	}
}

func TestSerialOfMadeScripts(t *testing.T) {
	m := newMaker(71)
	seen := tally{}
	for range 200 {
		s := m.script()
		out, code := serial(t, s.Doc, s.Calls)
		if want := modelSerial(s.Doc, s.Calls); code != 0 || !alike(out, want) {
			t.Fatalf("Serial(%s, %s) = %s, %d; want %s", s.Doc, spelled(s.Calls), spelled(out), code, spelled(want))
		}
		if len(out.Events) != len(s.Calls) || len(out.Hub.Waiting) != 0 {
			t.Errorf("%d events of %d calls, %d news", len(out.Events), len(s.Calls), len(out.Hub.Waiting))
		}
		seen.add(out.Events)
	}
	seen.check(t, 10, "kind 1 verdict 2 code 0", "kind 1 verdict 5 code 3", "kind 1 verdict 6 code 1", "kind 5 verdict 0 code 0", "kind 5 verdict 0 code 4")
	if seen["kind 1 verdict 3 code 0"]+seen["kind 1 verdict 4 code 0"] > 0 {
		t.Errorf("a conflict with nobody: %v", seen)
	}
}

// explained says whether promise 14 has an event come again from Serial.
func explained(e impl.Event) bool {
	switch e.Kind {
	case impl.CallGet, impl.CallQuery:
		return true
	case impl.CallPatch:
		return e.Verdict.Kind != impl.Conflict && e.Verdict.Kind != impl.Contention
	}
	return false
}

// checkExplained holds the outcome of a script against the serial order of its events.
func checkExplained(t *testing.T, s impl.Script, out impl.Outcome) {
	t.Helper()
	var list []impl.Call
	var want []impl.Event
	no := 0
	for _, e := range out.Events {
		if e.Verdict.Kind == impl.Published {
			no++
			if e.Verdict.No != no || e.Version != no {
				t.Fatalf("version %d: %s", no, spelled(e))
			}
		}
		if explained(e) {
			list = append(list, s.Calls[e.Call])
			e.Call = len(list) - 1
			want = append(want, e)
		}
	}
	again, code := impl.Serial(s.Doc, list)
	if code != 0 || !alike(again.Events, want) {
		t.Fatalf("%s: Serial makes %s, %d; want %s", spelled(s), spelled(again.Events), code, spelled(want))
	}
	if headOf(out.Store).No != no || !alike(again.Store, out.Store) {
		t.Fatalf("%s leaves %s; in a row %s", spelled(s), spelled(out.Store), spelled(again.Store))
	}
}

func TestSerialExplainsMadeScripts(t *testing.T) {
	m := newMaker(72)
	for range 1000 {
		s := m.script()
		out, code := impl.RunScript(s)
		if code != 0 {
			t.Fatalf("RunScript(%s) has code %d", spelled(s), code)
		}
		checkExplained(t, s, out)
	}
}

// TestSerialExplainsClashes has patches that rebase, conflict and fail on the way,
// by clients that are slow.
func TestSerialExplainsClashes(t *testing.T) {
	m := newMaker(73)
	seen := tally{}
	for range 30 {
		s := impl.Script{Doc: `{"list":[],"big":` + wide(impl.MaxText-200) + `,"n":0}`}
		for range 80 {
			client := m.Intn(impl.MaxClients)
			own := fmt.Sprintf("/own%d", client)
			s.Calls = append(s.Calls, []impl.Call{
				callOps(client, add(own, wide(2+m.Intn(60)))), callOps(client, add("/list/-", "1")), callOps(client, test("/n", "0"), add(own, "1")),
				callOps(client, replace("/n", fmt.Sprint(m.Intn(2)))), callGet(client, "/list"), callQuery(client, "$['own1','n']"), callOps(client, remove(own)),
				callOps(client, add(own, "1"), move(own, own+"x")),
			}[m.Intn(8)])
		}
		for range 250 {
			s.Picks = append(s.Picks, m.Intn(impl.MaxClients))
		}
		out, _ := impl.RunScript(s)
		seen.add(out.Events)
		checkExplained(t, s, out)
	}
	seen.check(t, 10, "kind 1 verdict 2 code 0", "kind 1 verdict 3 code 0", "kind 1 verdict 4 code 0", "kind 1 verdict 5 code 3", "kind 1 verdict 5 code 5", "kind 1 verdict 5 code 7")
}
