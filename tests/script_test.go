package tests

import (
	"fmt"
	"math"
	"runtime"
	"slices"
	"strconv"
	"strings"
	"sync"
	"testing"

	"loop.example/s04350/impl"
)

func TestRunScriptWithoutSteps(t *testing.T) {
	for _, list := range [][]impl.Call{nil, calls(callTake(0), callOps(7, add("", "2")))} {
		store, hub := checkRun(t, script(` {"b":1, "a":-0} `, list, ""))
		if !alike(store, versions(impl.Version{Doc: `{"a":0,"b":1}`})) || !alike(hub, impl.Hub{}) {
			t.Errorf("%s, %s", spelled(store), spelled(hub))
		}
	}
}

func TestRunScriptPicks(t *testing.T) {
	list := calls(callGet(0, ""), callGet(3, ""), callGet(0, "/x"), callGet(7, ""), callGet(0, "x"))
	a, b, c := got(0, 0, 0, 0, "1"), got(0, 2, 0, 3, ""), got(0, 4, 0, 2, "")
	three, seven := got(3, 1, 0, 0, "1"), got(7, 3, 0, 0, "1")
	checkRun(t, script("1", list, "0"), a)
	checkRun(t, script("1", list, "3"), three)
	checkRun(t, script("1", list, "7 0 0 3 0"), seven, a, b, three, c)
	// A client whose calls are over, and those that never had one.
	checkRun(t, script("1", list, "0 0 0 0 0 3 3 0 7 7 3 7"), a, b, c, three, seven)
	checkRun(t, script("1", list, "1 2 4 5 6 1 2 4 5 6 3 1"), three)
	checkRun(t, script("1", nil, "0 1 2 3 4 5 6 7 d 0 1 2 3 4 5 6 7 d"))
	// Numbers that are no client's.
	checkRun(t, script("1", list, "-1 9 10 -8 -9 16 256 -256 100000 7"), seven)
	odd := script("1", list, "")
	odd.Picks = []int{math.MinInt, math.MaxInt, 1 << 32, -1 << 32, 1<<32 + 3, 1 << 62, 3, math.MinInt + 3, 8, -5}
	checkRun(t, odd, three)
}

// TestRunScriptPatchSteps has a client alone: two picks for a patch that can be
// published, one for any other.
func TestRunScriptPatchSteps(t *testing.T) {
	list := calls(callOps(2, add("/a", "1")), callGet(2, ""), callPatch(2, "[{}]"), callGet(2, ""), callOps(2, remove("/b")), callOps(2), callGet(2, ""))
	want := []impl.Event{
		published(2, 0, 1), got(2, 1, 1, 0, `{"a":1}`), ended(2, 2, 1, impl.Verdict{Kind: impl.Malformed, Code: 4}), got(2, 3, 1, 0, `{"a":1}`),
		ended(2, 4, 1, impl.Verdict{Kind: impl.Failed, Code: 3}), published(2, 5, 2), got(2, 6, 2, 0, `{"a":1}`),
	}
	for picked, events := range []int{0, 0, 1, 2, 3, 4, 5, 5, 6, 7, 7, 7} {
		store, hub := checkRun(t, script("{}", list, strings.Repeat("2 ", picked)), want[:events]...)
		patches := len(slices.DeleteFunc(slices.Clone(want[:events]), func(e impl.Event) bool { return e.Verdict.Kind != impl.Published }))
		if len(store.Versions) != 1+patches || len(hub.Waiting) != patches {
			t.Errorf("%d picks: %s, %s", picked, spelled(store), spelled(hub))
		}
	}
}

func TestRunScriptMalformed(t *testing.T) {
	for _, c := range []struct {
		text     string
		code, at int
	}{
		{"", 1, 0}, {"[", 1, 0}, {wide(impl.MaxText + 1), 1, 0}, {"{}", 2, 0}, {"null", 2, 0}, {"[7]", 4, 0}, {`[{"op":"remove","path":""},{"op":"add","path":"/a"}]`, 4, 1},
		{"[" + strings.Repeat("1,", impl.MaxOps) + "1]", 3, impl.MaxOps},
	} {
		e := ended(1, 0, 0, impl.Verdict{Kind: impl.Malformed, Code: c.code, At: c.at})
		checkRun(t, script("1", calls(callPatch(1, c.text), callTake(1)), "1 1 1"), e, took(1, 1, 1, impl.Message{}))
	}
}

func TestRunScriptFailedAtOnce(t *testing.T) {
	doc := `{"a":[1],"b":{}}`
	for _, c := range []struct {
		ops      []impl.POp
		code, at int
	}{
		{patch(remove("/c")), 3, 0}, {patch(add("/d", "1"), add("/a/5", "1")), 3, 1}, {patch(test("/a", "[]")), 5, 0}, {patch(move("/b", "/b/x")), 6, 0},
		{patch(add("/d", "1"), add("/e", "1"), add("/c", wide(impl.MaxText/2)), copyOp("/c", "/f")), 7, 3},
	} {
		e := ended(1, 0, 0, impl.Verdict{Kind: impl.Failed, Code: c.code, At: c.at})
		store, hub := checkRun(t, script(doc, calls(callOps(1, c.ops...)), "1 1"), e)
		if !alike(store, versions(impl.Version{Doc: doc})) || !alike(hub, impl.Hub{}) {
			t.Errorf("%s leaves %s, %s", told(c.ops), shortly(spelled(store)), shortly(spelled(hub)))
		}
	}
}

func TestRunScriptConflict(t *testing.T) {
	list := calls(callOps(0, add("/a", "1")), callOps(1, add("/a", "2")), callGet(1, "/a"))
	store, hub := checkRun(t, script("{}", list, "0 1 1 0 1 0"), published(1, 1, 1), ended(0, 0, 1, impl.Verdict{Kind: impl.Conflict}), got(1, 2, 1, 0, "2"))
	if !alike(store, versions(impl.Version{Doc: "{}"}, impl.Version{No: 1, Doc: `{"a":2}`, Touched: []string{"/a"}})) || !alike(hub, waiting(impl.Hub{}, news(1, "/a"))) {
		t.Errorf("%s, %s", spelled(store), spelled(hub))
	}
	checkRun(t, script("{}", list, "1 0 0 1 1"), published(0, 0, 1), ended(1, 1, 1, impl.Verdict{Kind: impl.Conflict}), got(1, 2, 1, 0, "1"))
	checkRun(t, script("{}", list, "1 0 0 0 1"), published(0, 0, 1), ended(1, 1, 1, impl.Verdict{Kind: impl.Conflict}))
	// One that begins only behind the other's version has none.
	checkRun(t, script("{}", list, "0 0 1 1 1"), published(0, 0, 1), published(1, 1, 2), got(1, 2, 2, 0, "2"))
}

func TestRunScriptRebases(t *testing.T) {
	list := calls(callOps(0, add("/a", "1")), callOps(1, add("/b", "2")), callGet(0, ""))
	// The third pick of client 0 publishes: its second carried the patch over.
	checkRun(t, script("{}", list, "0 1 1 0"), published(1, 1, 1))
	store, _ := checkRun(t, script("{}", list, "0 1 1 0 0 0"), published(1, 1, 1), published(0, 0, 2), got(0, 2, 2, 0, `{"a":1,"b":2}`))
	want := versions(impl.Version{Doc: "{}"}, impl.Version{No: 1, Doc: `{"b":2}`, Touched: []string{"/b"}}, impl.Version{No: 2, Doc: `{"a":1,"b":2}`, Touched: []string{"/a"}})
	if !alike(store, want) {
		t.Errorf("%s", spelled(store))
	}
	// What a patch was carried over to counts from then on.
	again := append(list[:2:2], callOps(1, replace("/b", "3")), callOps(1, add("/a", "4")))
	checkRun(t, script("{}", again, "0 1 1 0 1 1 0 0"), published(1, 1, 1), published(1, 2, 2), published(0, 0, 3))
	checkRun(t, script("{}", again, "0 1 1 0 1 1 1 1 0 0"), published(1, 1, 1), published(1, 2, 2), published(1, 3, 3), ended(0, 0, 3, impl.Verdict{Kind: impl.Conflict}))
}

// TestRunScriptFailsLater has two patches that both fit, but not together.
func TestRunScriptFailsLater(t *testing.T) {
	half := wide(impl.MaxText/2 + 10)
	list := calls(callOps(4, add("/x", "1"), add("/a", half)), callOps(5, add("/b", half)))
	failed := ended(4, 0, 1, impl.Verdict{Kind: impl.Failed, Code: 7, At: 1})
	store, _ := checkRun(t, script("{}", list, "4 5 5 4 4"), published(5, 1, 1), failed)
	if len(store.Versions) != 2 {
		t.Errorf("%d versions", len(store.Versions))
	}
}

// faster has client 1 publish so many patches that touch another place.
func faster(count int) []impl.Call {
	return slices.Repeat(calls(callOps(1, replace("/n", "1"))), count)
}

func TestRunScriptContention(t *testing.T) {
	list := append(calls(callOps(0, add("/a", "1")), callTake(0)), faster(impl.MaxTries+2)...)
	var want []impl.Event
	words := "0"
	for try := 1; try <= impl.MaxTries+1; try++ {
		want = append(want, published(1, 1+try, try))
		words += " 1 1 0"
	}
	last := len(want)
	checkRun(t, script(`{"n":0}`, list, words), append(want[:last:last], ended(0, 0, last, impl.Verdict{Kind: impl.Contention}))...)
	// One try less, and one pick more with nobody between.
	words = strings.Repeat("0 1 1 ", impl.MaxTries) + "0 0 0"
	checkRun(t, script(`{"n":0}`, list, words), append(want[:last-1:last-1], published(0, 0, last), took(0, 1, 1, impl.Message{}))...)
	// Many versions between two tries are one try.
	words = "0 " + strings.Repeat("1 ", 2*(impl.MaxTries+1)) + "0 0"
	checkRun(t, script(`{"n":0}`, list, words), append(want[:last:last], published(0, 0, last+1))...)
}

func TestRunScriptNoLongerKept(t *testing.T) {
	list := append(calls(callOps(0, add("/a", "1"))), faster(impl.MaxHistory+1)...)
	for count := impl.MaxHistory - 1; count <= impl.MaxHistory+1; count++ {
		var want []impl.Event
		for no := 1; no <= count; no++ {
			want = append(want, published(1, no, no))
		}
		if count > impl.MaxHistory {
			want = append(want, ended(0, 0, count, impl.Verdict{Kind: impl.Conflict}))
		} else {
			want = append(want, published(0, 0, count+1))
		}
		store, _ := checkRun(t, script(`{"n":0}`, list, "0 "+strings.Repeat("1 1 ", count)+"0 0"), want...)
		if len(store.Versions) != impl.MaxHistory && count >= impl.MaxHistory {
			t.Errorf("%d versions", len(store.Versions))
		}
	}
}

// TestRunScriptChangesNothing has news without a pointer, and with those of a
// change that goes further than what is touched, or less far.
func TestRunScriptChangesNothing(t *testing.T) {
	doc := `{"a":{"b":1,"c":[1,2]},"d":0}`
	for _, c := range []struct {
		ops  []impl.POp
		ptrs []string
	}{
		{nil, nil}, {patch(test("/d", "0")), nil}, {patch(replace("/d", "0")), nil}, {patch(replace("", doc)), nil}, {patch(add("/e", "1"), remove("/e")), nil},
		{patch(move("/a", "/a")), nil}, {patch(replace("/a", `{"b":2,"c":[1,2]}`)), []string{"/a/b"}}, {patch(add("/a/c/1", "2"), remove("/a/c/2")), nil},
		{patch(replace("", `{"a":{"b":2,"c":[1,3]},"e":0}`)), []string{"/a/b", "/a/c/1", "/d", "/e"}}, {patch(add("/a/c/-", "0"), test("/d", "0")), []string{"/a/c"}},
		{patch(replace("", "1")), []string{""}}, {patch(replace("/a/c/0", "7")), []string{"/a/c/0"}}, {patch(move("/a", "/d")), []string{"/a", "/d"}},
	} {
		store, hub := checkRun(t, script(doc, calls(callOps(6, c.ops...)), "6 6"), published(6, 0, 1))
		if len(store.Versions) != 2 || !alike(hub, waiting(impl.Hub{}, news(1, c.ptrs...))) {
			t.Errorf("%s leaves %s, %s", told(c.ops), spelled(store), spelled(hub))
		}
	}
	list := calls(callWatch(0, 1, ""), callOps(0), callTake(0), callOps(0, add("/e", "1")), callTake(0))
	_, hub := checkRun(t, script(doc, list, "0 0 0 d 0 0 0 d 0"), watched(0, 0, 0, 0), published(0, 1, 1), took(0, 2, 2, impl.Message{}), published(0, 3, 2), took(0, 4, 0, message(2, "/e")))
	if !alike(hub, watches(watch(0, "", 1, 0))) {
		t.Errorf("%s", spelled(hub))
	}
}

func TestRunScriptGets(t *testing.T) {
	doc := `{"a":[1,{"b":"x"}],"~":{"/":null}}`
	list := calls(callGet(0, ""), callGet(0, "/a"), callGet(0, "/a/1/b"), callGet(0, "/~0/~1"), callGet(0, "a"), callGet(0, "/~"), callGet(0, "/a/2"), callGet(0, "/a/-"), callGet(0, "/b"))
	words := strings.Repeat("0 ", len(list))
	checkRun(t, script(doc, list, words),
		got(0, 0, 0, 0, doc), got(0, 1, 0, 0, `[1,{"b":"x"}]`), got(0, 2, 0, 0, `"x"`), got(0, 3, 0, 0, "null"), got(0, 4, 0, 2, ""), got(0, 5, 0, 2, ""),
		got(0, 6, 0, 3, ""), got(0, 7, 0, 3, ""), got(0, 8, 0, 3, ""))
	// A get sees the head, not what another has only begun.
	list = calls(callOps(1, replace("/a", "5")), callGet(0, "/a"), callGet(0, "/a"))
	checkRun(t, script(`{"a":4}`, list, "1 0 1 0"), got(0, 1, 0, 0, "4"), published(1, 0, 1), got(0, 2, 1, 0, "5"))
}

func TestRunScriptQueries(t *testing.T) {
	doc := `{"a":[1,2,3],"b":{"a":4}}`
	list := calls(callQuery(0, "$..a"), callQuery(0, "$.a[?@>1]"), callQuery(0, "$.c"), callQuery(0, ""), callQuery(0, "$."), callQuery(0, "$"+strings.Repeat(".a", impl.MaxPath)),
		callQuery(0, "$[?"+strings.Repeat("!", impl.MaxNest+1)+"@]"), callOps(0, remove("/b")), callQuery(0, "$..a"))
	checkRun(t, script(doc, list, strings.Repeat("0 ", 10)),
		queried(0, 0, 0, 0, impl.Hit{Ptr: "/a", Value: "[1,2,3]"}, impl.Hit{Ptr: "/b/a", Value: "4"}), queried(0, 1, 0, 0, impl.Hit{Ptr: "/a/1", Value: "2"}, impl.Hit{Ptr: "/a/2", Value: "3"}),
		queried(0, 2, 0, 0), queried(0, 3, 0, 2), queried(0, 4, 0, 2), queried(0, 5, 0, 2), queried(0, 6, 0, 2), published(0, 7, 1),
		queried(0, 8, 1, 0, impl.Hit{Ptr: "/a", Value: "[1,2,3]"}))
	wideDoc := flat(impl.MaxHits + 1)
	out, code := runScript(t, script(wideDoc, calls(callQuery(0, "$[*]"), callQuery(0, "$[*,0]"), callQuery(0, "$[0,0,0]")), "0 0 0"))
	if code != 0 || len(out.Events) != 3 || len(out.Events[0].Hits) != impl.MaxHits {
		t.Fatalf("%s, %d", shortly(spelled(out)), code)
	}
	one := impl.Hit{Ptr: "/0", Value: "1"}
	if !alike(out.Events[1:], []impl.Event{queried(0, 1, 0, 3), queried(0, 2, 0, 0, one, one, one)}) {
		t.Errorf("%s", shortly(spelled(out.Events[1:])))
	}
}

func TestRunScriptWatches(t *testing.T) {
	list := calls(callWatch(0, 1, "/a"), callWatch(0, 0, "/a"), callWatch(0, impl.MaxCap+1, ""), callWatch(0, -1, "/b"), callWatch(0, 1, "a"), callWatch(0, 0, "/~"), callWatch(0, math.MaxInt, "x"))
	_, hub := checkRun(t, script("1", list, strings.Repeat("0 ", len(list))),
		watched(0, 0, 0, 0), watched(0, 1, 0, 3), watched(0, 2, 0, 3), watched(0, 3, 0, 3), watched(0, 4, 0, 2), watched(0, 5, 0, 2), watched(0, 6, 0, 2))
	if !alike(hub, watches(watch(0, "/a", 1, 0))) {
		t.Errorf("%s", spelled(hub))
	}
	// Since is the head's number; a watch anew goes behind the others.
	list = calls(callOps(7, add("", "2")), callWatch(7, impl.MaxCap, "/a"), callWatch(3, 2, ""), callOps(3, add("", "3")), callWatch(7, 1, "/b"))
	_, hub = checkRun(t, script("1", list, "7 7 7 3 3 3 7"), published(7, 0, 1), watched(7, 1, 1, 0), watched(3, 2, 1, 0), published(3, 3, 2), watched(7, 4, 2, 0))
	if !alike(hub, waiting(watches(watch(3, "", 2, 1), watch(7, "/b", 1, 2)), news(1, ""), news(2, ""))) {
		t.Errorf("%s", spelled(hub))
	}
}

func TestRunScriptTakes(t *testing.T) {
	list := calls(callTake(0), callWatch(0, 1, "/a"), callTake(0), callTake(0), callTake(0), callTake(0), callTake(0), callCancel(0), callTake(0), callCancel(0),
		callOps(1, add("/a", "1"), add("/b", "1")), callOps(1, add("/b", "2")), callOps(1, add("/a", "3")), callOps(1, add("/a", "4")))
	before := []impl.Event{took(0, 0, 1, impl.Message{}), watched(0, 1, 0, 0), took(0, 2, 2, impl.Message{}), published(1, 10, 1), took(0, 3, 2, impl.Message{}), published(1, 11, 2), published(1, 12, 3), published(1, 13, 4)}
	// No news are told but by a dispatch, and those of /b do not count.
	words := "0 0 0 1 1 0 1 1 1 1 1 1"
	_, hub := checkRun(t, script("{}", list, words), before...)
	if !alike(hub, waiting(watches(watch(0, "/a", 1, 0)), news(1, "/a", "/b"), news(2, "/b"), news(3, "/a"), news(4, "/a"))) {
		t.Errorf("%s", spelled(hub))
	}
	end := []impl.Event{took(0, 4, 0, message(1, "/a")), took(0, 5, 4, over(3)), took(0, 6, 3, impl.Message{}), cancelled(0, 7, 0), took(0, 8, 1, impl.Message{}), cancelled(0, 9, 1)}
	_, hub = checkRun(t, script("{}", list, words+" d d d 0 0 0 0 0 0"), append(before[:8:8], end...)...)
	if !alike(hub, waiting(impl.Hub{}, news(4, "/a"))) {
		t.Errorf("%s", spelled(hub))
	}
	_, hub = checkRun(t, script("{}", list, words+" d d d d d d"), before...)
	if !alike(hub, watches(closed(watch(0, "/a", 1, 0, message(1, "/a"), over(3))))) {
		t.Errorf("%s", spelled(hub))
	}
	// A watch of one client is none of another's.
	checkRun(t, script("1", calls(callWatch(0, 1, ""), callTake(1), callCancel(1), callTake(0)), "0 1 1 0"),
		watched(0, 0, 0, 0), took(1, 1, 1, impl.Message{}), cancelled(1, 2, 1), took(0, 3, 2, impl.Message{}))
}

// TestRunScriptQueues has messages and news come and go many times in one run, so
// that what holds them goes round, and grows while it does.
func TestRunScriptQueues(t *testing.T) {
	for _, room := range []int{1, 2, 3, 5, impl.MaxCap} {
		for _, words := range []string{"1 1 d 0", "1 1 1 1 d 0 d 0", "1 1 1 1 d 0 d 1 1 0 d 0", "1 1 1 1 1 1 d 0 1 1 d d 0", "1 1 d 1 1 d 0 1 1 d 0 0"} {
			list := calls(callWatch(0, room, "/a"))
			for i := range 100 {
				list = append(list, callTake(0), callOps(1, add("/a", strconv.Itoa(i)), add("/b", strconv.Itoa(i/2))))
			}
			s := script("{}", list, "0 "+strings.Repeat(words+" ", 40))
			out, code := runScript(t, s)
			if want := modelRunScript(s); code != 0 || !alike(out, want) {
				t.Errorf("room %d, %s: %s, %d; want %s", room, words, shortly(spelled(out)), code, shortly(spelled(want)))
			}
		}
	}
}

func TestRunScriptCodes(t *testing.T) {
	for _, doc := range []string{"", "{", "01", "1 2", "9223372036854775808", `{"a":1,"a":1}`, nest(impl.MaxDepth+1, "[", "]", ""), flat(impl.MaxValues + 1), wide(impl.MaxText + 1)} {
		checkNotRun(t, script(doc, nil, ""), 1)
		checkNotRun(t, script(doc, calls(callTake(0)), "0"), 1)
		checkNotSerial(t, doc, nil, 1)
		// The document comes ahead of the calls and the picks.
		checkNotRun(t, script(doc, calls(callTake(8)), ""), 1)
		checkNotSerial(t, doc, calls(callTake(8)), 1)
		checkNotRun(t, impl.Script{Doc: doc, Picks: make([]int, impl.MaxScript+1)}, 1)
	}
	for _, call := range wrongCalls() {
		good := callOps(0, add("", "2"))
		for _, list := range [][]impl.Call{calls(call), calls(good, call), calls(call, good), calls(good, callTake(7), call)} {
			checkNotRun(t, script("1", list, ""), 2)
			checkNotRun(t, script("1", list, "0 0 0"), 2)
			checkNotSerial(t, "1", list, 2)
		}
	}
}

// wrongCalls has calls with one fault each.
func wrongCalls() []impl.Call {
	var list []impl.Call
	for _, client := range []int{-1, impl.MaxClients, impl.MaxClients + 1, math.MinInt, math.MaxInt, 1 << 32} {
		list = append(list, callPatch(client, "[]"), callGet(client, ""), callQuery(client, "$"), callWatch(client, 1, ""), callTake(client), callCancel(client))
	}
	for _, kind := range []int{0, -1, 7, 8, math.MinInt, math.MaxInt, 1<<32 + 1} {
		list = append(list, impl.Call{Kind: kind}, impl.Call{Kind: kind, Text: "[]"})
	}
	for _, kind := range []int{impl.CallPatch, impl.CallGet, impl.CallQuery, impl.CallTake, impl.CallCancel} {
		for _, room := range []int{1, -1, impl.MaxCap, math.MinInt, math.MaxInt} {
			list = append(list, impl.Call{Kind: kind, Room: room})
		}
	}
	for _, text := range []string{"x", " ", "/a", "\x00", "\n"} {
		list = append(list, impl.Call{Kind: impl.CallTake, Text: text}, impl.Call{Kind: impl.CallCancel, Text: text})
	}
	return list
}

// TestRunScriptAnyText has texts that no line could have.
func TestRunScriptAnyText(t *testing.T) {
	long := strings.Repeat("/x", 5*impl.MaxText)
	list := calls(callGet(0, "/a\nb"), callPatch(0, "\n[ ]\n"), callQuery(0, "$\n"), callWatch(0, 1, "/\n"), callGet(0, long), callPatch(0, long), callQuery(0, long), callWatch(0, 2, long), callGet(0, "\xff"))
	_, hub := checkRun(t, script(`{"a\nb":7}`, list, strings.Repeat("0 ", 10)),
		got(0, 0, 0, 0, "7"), published(0, 1, 1), queried(0, 2, 1, 2), watched(0, 3, 1, 0), got(0, 4, 1, 3, ""), ended(0, 5, 1, impl.Verdict{Kind: impl.Malformed, Code: 1}),
		queried(0, 6, 1, 2), watched(0, 7, 1, 0), got(0, 8, 1, 2, ""))
	if !alike(hub, waiting(watches(watch(0, long, 2, 1)), news(1))) {
		t.Errorf("%s", shortly(spelled(hub)))
	}
}

func TestRunScriptBounds(t *testing.T) {
	most := make([]impl.Call, impl.MaxScript)
	picked := make([]int, impl.MaxScript)
	for i := range most {
		most[i] = callCancel(i % impl.MaxClients)
		picked[i] = (i * 3) % impl.MaxClients
	}
	check := func(s impl.Script, events, code int) {
		t.Helper()
		defer checkNoneLeft(t, runtime.NumGoroutine())
		out, c := impl.RunScript(s)
		if c != code || len(out.Events) != events || code != 0 && !alike(out, impl.Outcome{}) {
			t.Errorf("%d calls, %d picks: %d events, %d; want %d, %d", len(s.Calls), len(s.Picks), len(out.Events), c, events, code)
		}
	}
	check(impl.Script{Doc: "1", Calls: most, Picks: picked}, impl.MaxScript, 0)
	check(impl.Script{Doc: "1", Calls: most}, 0, 0)
	check(impl.Script{Doc: "1", Picks: picked}, 0, 0)
	over := append(slices.Clip(most), callTake(0))
	check(impl.Script{Doc: "1", Calls: over}, 0, 2)
	check(impl.Script{Doc: "1", Calls: over, Picks: picked}, 0, 2)
	check(impl.Script{Doc: "1", Calls: most, Picks: append(slices.Clip(picked), 0)}, 0, 2)
	check(impl.Script{Doc: "1", Picks: append(slices.Clip(picked), -1)}, 0, 2)
	if out, code := impl.Serial("1", most); code != 0 || len(out.Events) != impl.MaxScript {
		t.Errorf("Serial: %d events, %d", len(out.Events), code)
	}
	checkNotSerial(t, "1", over, 2)
}

// TestRunScriptManyVersions counts up to the most versions that a script can have.
func TestRunScriptManyVersions(t *testing.T) {
	patches := impl.MaxScript / 2
	s := impl.Script{Doc: "0"}
	for i := range patches {
		s.Calls = append(s.Calls, callOps(i%impl.MaxClients, replace("", strconv.Itoa(i+1))))
		s.Picks = append(s.Picks, i%impl.MaxClients, i%impl.MaxClients)
	}
	out, code := impl.RunScript(s)
	if code != 0 || len(out.Events) != patches || len(out.Hub.Waiting) != patches || headOf(out.Store).No != patches {
		t.Fatalf("%d events, %d news, %d", len(out.Events), len(out.Hub.Waiting), code)
	}
	for i, e := range out.Events {
		if !alike(e, published(i%impl.MaxClients, i, i+1)) || !alike(out.Hub.Waiting[i], news(i+1, "")) {
			t.Fatalf("event %d: %s, %s", i, spelled(e), spelled(out.Hub.Waiting[i]))
		}
	}
}

// TestRunScriptOnAnyCores has the same scripts run on few cores and on many, one
// after the other and all at once.
func TestRunScriptOnAnyCores(t *testing.T) {
	defer runtime.GOMAXPROCS(runtime.GOMAXPROCS(0))
	m := newMaker(61)
	var scripts []impl.Script
	var want []string
	for range 40 {
		s := m.script()
		scripts = append(scripts, s)
		want = append(want, spelled(modelRunScript(s)))
	}
	for _, cores := range []int{1, 2, 3, 16} {
		runtime.GOMAXPROCS(cores)
		before := runtime.NumGoroutine()
		var all sync.WaitGroup
		outcomes := make([]string, len(scripts))
		for i, s := range scripts {
			for range 5 {
				if out, _ := impl.RunScript(s); spelled(out) != want[i] {
					t.Fatalf("%d cores: %s; want %s", cores, shortly(spelled(out)), shortly(want[i]))
				}
			}
			all.Add(1)
			go func() {
				defer all.Done()
				out, _ := impl.RunScript(s)
				outcomes[i] = spelled(out)
			}()
		}
		all.Wait()
		if !slices.Equal(outcomes, want) {
			t.Errorf("%d cores: other outcomes when all run at once", cores)
		}
		checkNoneLeft(t, before)
	}
}

// TestRunScriptEndsItsGoroutines looks right behind the call. On one core a
// goroutine that has been waited for is gone for the runtime too, unless it was
// stopped just there, and one that was only told to end is not.
func TestRunScriptEndsItsGoroutines(t *testing.T) {
	defer runtime.GOMAXPROCS(runtime.GOMAXPROCS(1))
	s := script(`{"a":1}`, calls(callGet(0, "/a"), callOps(1, add("/b", "1")), callTake(2)), "0 1 2 2 d")
	for name, call := range map[string]func(){
		"RunScript": func() { impl.RunScript(s) },
		"Serial":    func() { impl.Serial(s.Doc, s.Calls) },
		"Run":       func() { impl.Run(scriptText(s)) },
	} {
		const times = 200
		left := 0
		for range times {
			before := runtime.NumGoroutine()
			call()
			if runtime.NumGoroutine() > before {
				left++
			}
			checkNoneLeft(t, before)
		}
		if left > times/2 {
			t.Errorf("%s answered %d times of %d while its goroutines were there", name, left, times)
		}
	}
}

// tally counts what came up in made scripts, so that they are not all alike.
type tally map[string]int

func (c tally) add(events []impl.Event) {
	for _, e := range events {
		c[fmt.Sprintf("kind %d verdict %d code %d", e.Kind, e.Verdict.Kind, e.Verdict.Code)]++
	}
}

func (c tally) check(t *testing.T, least int, names ...string) {
	t.Helper()
	for _, name := range names {
		if c[name] < least {
			t.Errorf("%s came up %d times: %v", name, c[name], c)
		}
	}
}

func TestRunScriptOfMadeScripts(t *testing.T) {
	m := newMaker(62)
	seen := tally{}
	for range 400 {
		s := m.script()
		for range m.Intn(3) {
			s.Picks = append(s.Picks, m.Intn(40)-20)
		}
		out, code := runScript(t, s)
		if want := modelRunScript(s); code != 0 || !alike(out, want) {
			t.Fatalf("RunScript(%s) = %s, %d; want %s", spelled(s), spelled(out), code, spelled(want))
		}
		if !storeOk(t, out.Store) {
			t.Errorf("%s is not valid", spelled(out.Store))
		}
		seen.add(out.Events)
	}
	seen.check(t, 10, "kind 1 verdict 2 code 0", "kind 1 verdict 3 code 0", "kind 1 verdict 5 code 3", "kind 1 verdict 5 code 5", "kind 1 verdict 6 code 1",
		"kind 2 verdict 0 code 0", "kind 2 verdict 0 code 2", "kind 2 verdict 0 code 3", "kind 3 verdict 0 code 0", "kind 3 verdict 0 code 2",
		"kind 4 verdict 0 code 0", "kind 4 verdict 0 code 2", "kind 4 verdict 0 code 3", "kind 5 verdict 0 code 0", "kind 5 verdict 0 code 1", "kind 5 verdict 0 code 2",
		"kind 5 verdict 0 code 4", "kind 6 verdict 0 code 0", "kind 6 verdict 0 code 1")
	seen.check(t, 1, "kind 1 verdict 4 code 0", "kind 5 verdict 0 code 3")
}
