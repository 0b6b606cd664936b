package tests

import (
	"slices"
	"testing"

	"loop.example/s04350/impl"
)

// TestReadmeExamples does what README.md shows.
func TestReadmeExamples(t *testing.T) {
	text, code := impl.Canon(` {"b": [1, -0], "a": "\u0041"} `)
	if text != `{"a":"A","b":[1,0]}` || code != 0 {
		t.Errorf("%s, %d", text, code)
	}
	if depth, count, code := impl.Measure(text); depth != 3 || count != 5 || code != 0 {
		t.Errorf("%d, %d, %d", depth, count, code)
	}
	checkResolve(t, text, []resolveCase{{"/b/1", "0", 0}})
	if ptrs, code := impl.Places(text); !slices.Equal(ptrs, []string{"", "/a", "/b", "/b/0", "/b/1"}) || code != 0 {
		t.Errorf("%q, %d", ptrs, code)
	}
	if tokens, ok := impl.PtrTokens("/a~1b/0"); !slices.Equal(tokens, []string{"a/b", "0"}) || !ok {
		t.Errorf("%q, %v", tokens, ok)
	}
	if where := impl.Within("/b", "/b/1"); where != 2 {
		t.Errorf("%d", where)
	}
	ops, code, at := impl.DecodePatch(`[{"op":"add","path":"/b/-","value":7},{"op":"move","from":"/a","path":"/c"}]`)
	if !slices.Equal(ops, patch(add("/b/-", "7"), move("/a", "/c"))) || code != 0 || at != 0 {
		t.Errorf("%s, %d, %d", told(ops), code, at)
	}
	next := `{"b":[1,0,7],"c":"A"}`
	checkApply(t, text, ops, next)
	checkTouched(t, ops, "/a", "/b", "/c")
	checkClash(t, impl.Touched(ops), []string{"/b/0"}, true)
	checkDiff(t, next, text, patch(add("/a", `"A"`), replace("/b", "[1,0]"), remove("/c")))
	checkQuery(t, next, "$.b[?@>0]", "/b/0", "/b/2")
	segs, code := impl.ParsePath("$..b[-2:]")
	if written, ok := impl.PathText(segs); code != 0 || written != "$..['b'][-2:]" || !ok {
		t.Errorf("%d, %s, %v", code, written, ok)
	}
	checkQuery(t, next, "$..b[-2:]", "/b/1", "/b/2")
}
