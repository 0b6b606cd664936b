package tests

import (
	"fmt"
	"slices"
	"strings"
	"testing"

	"loop.example/s04350/impl"
)

func checkDiff(t *testing.T, old, now string, want []impl.POp) {
	t.Helper()
	ops, ok := impl.Diff(old, now)
	if !slices.Equal(ops, want) || !ok {
		t.Errorf("Diff(%s, %s) = %s, %v; want %s", short(old), short(now), told(ops), ok, told(want))
	}
	var ptrs []string
	for _, op := range want {
		ptrs = append(ptrs, op.Path)
	}
	if got, ok := impl.Changes(old, now); !slices.Equal(got, ptrs) || !ok {
		t.Errorf("Changes(%s, %s) = %q, %v; want %q", short(old), short(now), got, ok, ptrs)
	}
	checkDiffApplies(t, old, now)
}

// checkDiffApplies holds two good documents that are small enough against promise 8.
func checkDiffApplies(t *testing.T, old, now string) {
	t.Helper()
	before, _ := impl.Canon(old)
	after, _ := impl.Canon(now)
	ptrs, ok := impl.Changes(old, now)
	if !ok || (len(ptrs) == 0) != (before == after) {
		t.Errorf("Changes(%s, %s) = %q, %v", short(old), short(now), ptrs, ok)
	}
	ops, ok := impl.Diff(old, now)
	got, code, at := impl.Apply(old, ops)
	if !ok || got != after || code != 0 {
		t.Errorf("Diff(%s, %s) = %s, %v: it gives %s, %d, %d", short(old), short(now), told(ops), ok, short(got), code, at)
	}
}

func TestChangesInObjects(t *testing.T) {
	checkDiff(t, `{"a":1}`, `{"a":2}`, patch(replace("/a", "2")))
	checkDiff(t, `{"a":1}`, `{}`, patch(remove("/a")))
	checkDiff(t, `{}`, `{"a":1}`, patch(add("/a", "1")))
	checkDiff(t, `{"a":1}`, `{"b":1}`, patch(remove("/a"), add("/b", "1")))
	checkDiff(t, `{"b":1}`, `{"a":1}`, patch(add("/a", "1"), remove("/b")))
	checkDiff(t, `{"a":null}`, `{}`, patch(remove("/a")))
	checkDiff(t, `{}`, `{"a":null}`, patch(add("/a", "null")))
	checkDiff(t, `{"a":{"b":{"c":1,"d":2}},"e":3}`, `{"a":{"b":{"c":1,"d":4}},"e":3}`, patch(replace("/a/b/d", "4")))
	checkDiff(t, `{"a":{"b":1}}`, `{"a":{}}`, patch(remove("/a/b")))
	checkDiff(t, `{"":{"":1}}`, `{"":{"":2}}`, patch(replace("//", "2")))
	checkDiff(t, `{"a":{"x":[{}]}}`, `{"b":{"x":[{}]}}`, patch(remove("/a"), add("/b", `{"x":[{}]}`)))
	checkDiff(t, `{"-":1,"0":1,"~":1,"/":1}`, `{"~1":2}`, patch(remove("/-"), remove("/~1"), remove("/0"), remove("/~0"), add("/~01", "2")))
	// The order is that of the keys' bytes, not of the pointers.
	checkDiff(t, `{"a":{"b":1},"a!":1}`, `{"a":{"b":2},"a!":2}`, patch(replace("/a/b", "2"), replace("/a!", "2")))
	checkDiff(t, `{"~":1,"}":1}`, `{"/":2,"\u007f":2,"\u00e9":2}`, patch(add("/~1", "2"), remove("/}"), remove("/~0"), add("/\x7f", "2"), add("/\u00e9", "2")))
	checkDiff(t, `{"10":1,"9":1}`, `{"10":2,"9":2}`, patch(replace("/10", "2"), replace("/9", "2")))
}

func TestChangesInArrays(t *testing.T) {
	checkDiff(t, "[1,2,3]", "[1,4,3]", patch(replace("/1", "4")))
	checkDiff(t, "[1,2]", "[2,1]", patch(replace("/0", "2"), replace("/1", "1")))
	checkDiff(t, "[1,[2,{\"a\":3}]]", "[1,[2,{\"a\":4,\"b\":5}]]", patch(replace("/1/1/a", "4"), add("/1/1/b", "5")))
	checkDiff(t, "[1,2]", "[1]", patch(replace("", "[1]")))
	checkDiff(t, "[1]", "[1,2]", patch(replace("", "[1,2]")))
	checkDiff(t, "[]", "[1]", patch(replace("", "[1]")))
	checkDiff(t, `{"a":[1,2],"b":[0]}`, `{"a":[2],"b":[1]}`, patch(replace("/a", "[2]"), replace("/b/0", "1")))
	checkDiff(t, "[[1],[1]]", "[[1,2],[3]]", patch(replace("/0", "[1,2]"), replace("/1/0", "3")))
	var want []impl.POp
	for i := range 12 {
		want = append(want, replace(fmt.Sprintf("/%d", i), "1"))
	}
	checkDiff(t, "["+strings.Repeat("0,", 11)+"0]", "["+strings.Repeat("1,", 11)+"1]", want)
}

func TestChangesOfKind(t *testing.T) {
	kinds := []string{"null", "true", "false", "0", "1", "-1", `""`, `"0"`, `"null"`, "[]", "[0]", "[[]]", `{"a":0}`, `[1,{"a":0}]`}
	for i, old := range kinds {
		for j, now := range kinds {
			in := func(v string) string { return "[{\"k\":" + v + "}]" }
			if i == j {
				checkDiff(t, old, now, nil)
				checkDiff(t, in(old), in(now), nil)
				continue
			}
			if old[0] == '[' && now[0] == '[' {
				continue
			}
			checkDiff(t, old, now, patch(replace("", now)))
			checkDiff(t, in(old), in(now), patch(replace("/0/k", now)))
		}
	}
	checkDiff(t, "[]", "{}", patch(replace("", "{}")))
	checkDiff(t, "{}", "[]", patch(replace("", "[]")))
	checkDiff(t, `{"a":[]}`, `{"a":{}}`, patch(replace("/a", "{}")))
	checkDiff(t, `["x"]`, `{"0":"x"}`, patch(replace("", `{"0":"x"}`)))
	checkDiff(t, "[0]", "[[]]", patch(replace("/0", "[]")))
}

func TestChangesWrittenOtherwise(t *testing.T) {
	checkDiff(t, ` { "b" : [ -0 ] , "a" : "\u0041\/" } `, `{"a":"A/","b":[0]}`, nil)
	checkDiff(t, "[ 1, 2 ]", "[1,{\"b\" : -0, \"a\" : \"\\u0061\"}]", patch(replace("/1", `{"a":"a","b":0}`)))
	checkDiff(t, `{"\u0061":1}`, `{"a":1 , "\u0062" : [ ] }`, patch(add("/b", "[]")))
}

func TestChangesNotGood(t *testing.T) {
	for _, text := range []string{"", "{", "[1,]", "9223372036854775808", `{"a":1,"a":1}`, nest(impl.MaxDepth+1, "[", "]", ""), flat(impl.MaxValues + 1), wide(impl.MaxText + 1), "\"\xff\""} {
		for _, pair := range [][2]string{{text, "1"}, {"1", text}, {text, text}} {
			if ptrs, ok := impl.Changes(pair[0], pair[1]); len(ptrs) != 0 || ok {
				t.Errorf("Changes(%s, %s) = %q, %v", short(pair[0]), short(pair[1]), ptrs, ok)
			}
			if ops, ok := impl.Diff(pair[0], pair[1]); len(ops) != 0 || ok {
				t.Errorf("Diff(%s, %s) = %s, %v", short(pair[0]), short(pair[1]), told(ops), ok)
			}
		}
	}
}

func TestDiffMaxOps(t *testing.T) {
	list := func(n int, v string) string { return "[" + strings.Repeat(v+",", n-1) + v + "]" }
	var want []impl.POp
	for i := range impl.MaxOps {
		want = append(want, replace(fmt.Sprintf("/%d", i), "1"))
	}
	checkDiff(t, list(impl.MaxOps, "0"), list(impl.MaxOps, "1"), want)
	old, now := list(impl.MaxOps+1, "0"), list(impl.MaxOps+1, "1")
	ops, ok := impl.Diff(old, strings.ReplaceAll(now, ",", " , "))
	if !ok || !slices.Equal(ops, patch(replace("", now))) {
		t.Errorf("%s, %v", told(ops), ok)
	}
	if ptrs, ok := impl.Changes(old, now); len(ptrs) != impl.MaxOps+1 || !ok {
		t.Errorf("%d changes, %v", len(ptrs), ok)
	}
	checkDiffApplies(t, old, now)
	all, none := list(impl.MaxValues-1, "0"), list(impl.MaxValues-1, "1")
	if ptrs, ok := impl.Changes(all, none); len(ptrs) != impl.MaxValues-1 || !ok || ptrs[impl.MaxValues-2] != fmt.Sprintf("/%d", impl.MaxValues-2) {
		t.Errorf("%d changes, %v", len(ptrs), ok)
	}
	checkDiffApplies(t, all, none)
}

// TestDiffAtBounds has documents that together are as great as promise 8 allows;
// in between, what is added stands beside what is still to be removed.
func TestDiffAtBounds(t *testing.T) {
	half := wide(impl.MaxText/2 - len(`{"a":}`))
	checkDiff(t, `{"b":`+half+"}", `{"a":`+half+"}", patch(add("/a", half), remove("/b")))
	many := flat(impl.MaxValues/2 - 1)
	checkDiff(t, `{"b":`+many+"}", `{"a":`+many+"}", patch(add("/a", many), remove("/b")))
	deep := nest(impl.MaxDepth-1, "[", "]", "")
	checkDiff(t, `{"b":`+deep+"}", `{"a":`+deep+"}", patch(add("/a", deep), remove("/b")))
}

func TestChangesOfMadeValues(t *testing.T) {
	m := newMaker(17)
	for range 3000 {
		v := m.value(4)
		now := v
		for range m.Intn(4) {
			if next, code := modelOp(now, m.op(now)); code == 0 {
				now = next
			}
		}
		checkMadeDiff(t, m, v, now)
		checkMadeDiff(t, m, v, m.value(4))
	}
}

func checkMadeDiff(t *testing.T, m maker, v, now any) {
	t.Helper()
	want := modelDiff(nil, "", v, now)
	if len(want) <= impl.MaxOps {
		checkDiff(t, m.spell(v), m.spell(now), want)
	}
}

func modelDiff(list []impl.POp, ptr string, v, now any) []impl.POp {
	if canonOf(v) == canonOf(now) {
		return list
	}
	a, aOk := v.(map[string]any)
	b, bOk := now.(map[string]any)
	if aOk && bOk {
		for _, key := range slices.Compact(slices.Sorted(slices.Values(append(keysOf(a), keysOf(b)...)))) {
			at := ptr + impl.PtrText([]string{key})
			if _, there := b[key]; !there {
				list = append(list, remove(at))
			} else if _, there := a[key]; !there {
				list = append(list, add(at, canonOf(b[key])))
			} else {
				list = modelDiff(list, at, a[key], b[key])
			}
		}
		return list
	}
	x, xOk := v.([]any)
	y, yOk := now.([]any)
	if !xOk || !yOk || len(x) != len(y) {
		return append(list, replace(ptr, canonOf(now)))
	}
	for i := range x {
		list = modelDiff(list, fmt.Sprintf("%s/%d", ptr, i), x[i], y[i])
	}
	return list
}
