package tests

import (
	"slices"
	"testing"

	"loop.example/s04350/impl"
)

// TestReadmeExamples does what README.md shows.
func TestReadmeExamples(t *testing.T) {
	text, code := impl.Canon(` {"b": [1, -0], "a": "\u0041"} `)
	if text != `{"a":"A","b":[1,0]}` || code != 0 {
		t.Errorf("%s, %d", text, code)
	}
	if depth, count, code := impl.Measure(text); depth != 3 || count != 5 || code != 0 {
		t.Errorf("%d, %d, %d", depth, count, code)
	}
	checkResolve(t, text, []resolveCase{{"/b/1", "0", 0}})
	if ptrs, code := impl.Places(text); !slices.Equal(ptrs, []string{"", "/a", "/b", "/b/0", "/b/1"}) || code != 0 {
		t.Errorf("%q, %d", ptrs, code)
	}
	if tokens, ok := impl.PtrTokens("/a~1b/0"); !slices.Equal(tokens, []string{"a/b", "0"}) || !ok {
		t.Errorf("%q, %v", tokens, ok)
	}
	if where := impl.Within("/b", "/b/1"); where != 2 {
		t.Errorf("%d", where)
	}
	ops, code, at := impl.DecodePatch(`[{"op":"add","path":"/b/-","value":7},{"op":"move","from":"/a","path":"/c"}]`)
	if !slices.Equal(ops, patch(add("/b/-", "7"), move("/a", "/c"))) || code != 0 || at != 0 {
		t.Errorf("%s, %d, %d", told(ops), code, at)
	}
	next := `{"b":[1,0,7],"c":"A"}`
	checkApply(t, text, ops, next)
	checkTouched(t, ops, "/a", "/b", "/c")
	checkClash(t, impl.Touched(ops), []string{"/b/0"}, true)
	checkDiff(t, next, text, patch(add("/a", `"A"`), replace("/b", "[1,0]"), remove("/c")))
	checkQuery(t, next, "$.b[?@>0]", "/b/0", "/b/2")
	segs, code := impl.ParsePath("$..b[-2:]")
	if written, ok := impl.PathText(segs); code != 0 || written != "$..['b'][-2:]" || !ok {
		t.Errorf("%d, %s, %v", code, written, ok)
	}
	checkQuery(t, next, "$..b[-2:]", "/b/1", "/b/2")
}

func TestReadmeStore(t *testing.T) {
	store := open(t, `{"a":1}`)
	mine, first := begin(t, store, `[{"op":"add","path":"/b","value":2}]`)
	other, second := begin(t, store, `[{"op":"add","path":"/c","value":3}]`)
	running := impl.Verdict{Kind: impl.Running}
	if first != running || second != running || mine.Base != 0 {
		t.Errorf("%+v, %+v", first, second)
	}
	store, _, verdict := attempt(t, store, other)
	if headOf(store).Doc != `{"a":1,"c":3}` || verdict != (impl.Verdict{Kind: impl.Published, No: 1}) {
		t.Errorf("%s, %+v", spelled(store), verdict)
	}
	store, mine, verdict = attempt(t, store, mine)
	if mine.Base != 1 || mine.Tries != 1 || verdict != running {
		t.Errorf("%s, %+v", spelled(mine), verdict)
	}
	store, _, verdict = attempt(t, store, mine)
	if headOf(store).Doc != `{"a":1,"b":2,"c":3}` || verdict != (impl.Verdict{Kind: impl.Published, No: 2}) {
		t.Errorf("%s, %+v", spelled(store), verdict)
	}
}

func TestReadmeHub(t *testing.T) {
	hub, code := subscribe(t, impl.Hub{}, 0, "/b", 1, 1)
	if code != 0 {
		t.Errorf("%d", code)
	}
	hub = tellLater(t, tellLater(t, hub, 2, "/b", "/c"), 3, "")
	hub, first := dispatch(t, hub)
	hub, second := dispatch(t, hub)
	if !first || !second || !hub.Watches[0].Closed {
		t.Errorf("%v, %v, %s", first, second, spelled(hub))
	}
	hub, message1, code := take(t, hub, 0)
	if !alike(message1, message(2, "/b")) || code != 0 {
		t.Errorf("%s, %d", spelled(message1), code)
	}
	hub, message2, code := take(t, hub, 0)
	if !alike(message2, over(3)) || code != 4 {
		t.Errorf("%s, %d", spelled(message2), code)
	}
	checkCancel(t, hub, 0, impl.Hub{}, 0)
}

func TestReadmeScript(t *testing.T) {
	out, code, line := run(t, `doc {"a":1}
0 watch 2 /b
1 patch [{"op":"add","path":"/b","value":2}]
2 patch [{"op":"add","path":"/c","value":3}]
1 get /c
0 take
picks 0 1 2 2 1 1 d d 0 1`)
	want := []impl.Event{watched(0, 0, 0, 0), published(2, 2, 1), published(1, 1, 2), took(0, 4, 0, message(2, "/b")), got(1, 3, 2, 0, "3")}
	if code != 0 || line != 0 || !alike(out.Events, want) {
		t.Errorf("%s, %d, %d", spelled(out.Events), code, line)
	}
	if headOf(out.Store).Doc != `{"a":1,"b":2,"c":3}` || !alike(out.Hub, watches(watch(0, "/b", 2, 0))) {
		t.Errorf("%s, %s", spelled(out.Store), spelled(out.Hub))
	}
	s, code, line := parse(t, "doc {}\n1 get /a\n0 patch [{\"op\":\"add\",\"path\":\"/a\",\"value\":1}]\npicks 0 0 1")
	if code != 0 || line != 0 {
		t.Fatalf("%d, %d", code, line)
	}
	checkRun(t, s, published(0, 1, 1), got(1, 0, 1, 0, "1"))
	checkSerial(t, s.Doc, calls(s.Calls[1], s.Calls[0]), published(0, 0, 1), got(1, 1, 1, 0, "1"))
}
