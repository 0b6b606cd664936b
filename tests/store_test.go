package tests

import (
	"fmt"
	"math"
	"slices"
	"strings"
	"testing"

	"loop.example/s04350/impl"
)

func TestOpen(t *testing.T) {
	for _, doc := range []string{"1", " { } ", ` {"b": [1, -0], "a": "\u0041"} `, wide(impl.MaxText), nest(impl.MaxDepth, "[", "]", ""), flat(impl.MaxValues)} {
		canon, _ := impl.Canon(doc)
		s, code := impl.Open(doc)
		if !alike(s, versions(impl.Version{Doc: canon})) || code != 0 {
			t.Errorf("Open(%s) = %s, %d", short(doc), shortly(spelled(s)), code)
		}
		if !storeOk(t, s) {
			t.Errorf("Open(%s) is not valid", short(doc))
		}
	}
	for doc, code := range map[string]int{
		strings.Repeat(" ", impl.MaxText) + "1": 1,
		"":                                      2,
		"{":                                     2,
		"[9223372036854775808":                  2,
		"9223372036854775808":                   3,
		`[{"a":1,"\u0061":1},9223372036854775808]`:  3,
		`{"a":1,"\u0061":1}`:                        4,
		nest(impl.MaxDepth+1, "[", "]", ""):         5,
		flat(impl.MaxValues + 1):                    5,
		"[" + flat(impl.MaxValues) + ",{\"a\":1} ]": 5,
	} {
		if s, got := impl.Open(doc); !alike(s, impl.Store{}) || got != code {
			t.Errorf("Open(%s) = %s, %d; want code %d", short(doc), spelled(s), got, code)
		}
	}
}

// checkStore holds a store against StoreOk, and what Begin and Attempt answer for
// one that is not valid.
func checkStore(t *testing.T, s impl.Store, valid bool) {
	t.Helper()
	if got := storeOk(t, s); got != valid {
		t.Errorf("StoreOk(%s) = %v", shortly(spelled(s)), got)
	}
	p, v := begin(t, s, "[]")
	if (v == impl.Verdict{Kind: impl.Running}) != valid {
		t.Errorf("Begin(%s) = .., %+v", shortly(spelled(s)), v)
	}
	if valid {
		return
	}
	if !alike(p, impl.Pending{}) || v != (impl.Verdict{}) {
		t.Errorf("Begin(%s) = %s, %+v", shortly(spelled(s)), spelled(p), v)
	}
	checkBegin(t, s, "no patch", impl.Pending{}, impl.Verdict{})
	checkBegin(t, s, `[{"op":"remove","path":"/none"}]`, impl.Pending{}, impl.Verdict{})
	for _, base := range []int{0, 1, 1000000} {
		checkRefused(t, s, pending(base, 0, "1", addX()))
	}
	if len(s.Versions) > 0 {
		checkRefused(t, s, pending(headOf(s).No, 0, "1"))
	}
}

func TestStoreOkLengths(t *testing.T) {
	checkStore(t, impl.Store{}, false)
	for count := 1; count <= impl.MaxHistory; count++ {
		checkStore(t, numbered(0, count), true)
		checkStore(t, numbered(5, count), true)
	}
	checkStore(t, numbered(0, impl.MaxHistory+1), false)
	checkStore(t, numbered(0, 100), false)
}

func TestStoreOkNumbers(t *testing.T) {
	for _, first := range []int{0, 1, 999999, 1000000} {
		checkStore(t, numbered(first, 1), true)
		checkStore(t, numbered(first, impl.MaxHistory), true)
	}
	for _, first := range []int{-1, -2, -8, 1000001, 1000007, math.MinInt, math.MaxInt - 20, math.MinInt32, 1 << 32} {
		checkStore(t, numbered(first, 1), false)
		checkStore(t, numbered(first, impl.MaxHistory), false)
	}
	for at := 1; at < 4; at++ {
		for _, no := range []int{0, 9 + at, 11 + at, 20, -1, 10 - at, math.MaxInt, math.MinInt} {
			s := numbered(10, 4)
			s.Versions[at].No = no
			checkStore(t, s, false)
		}
	}
	down := numbered(3, 3)
	slices.Reverse(down.Versions)
	checkStore(t, down, false)
	same := numbered(0, 1)
	checkStore(t, versions(same.Versions[0], same.Versions[0]), false)
	// Numbers do not go on from the greatest to the least.
	checkStore(t, versions(impl.Version{No: math.MaxInt, Doc: "1"}, impl.Version{No: math.MinInt, Doc: "1"}), false)
}

func TestStoreOkDocs(t *testing.T) {
	for at := range 3 {
		for _, doc := range notCanonical() {
			s := numbered(0, 3)
			s.Versions[at].Doc = doc
			checkStore(t, s, false)
		}
		for _, doc := range []string{"null", "0", `"\u001f"`, `{"a":1,"b":2}`, wide(impl.MaxText), nest(impl.MaxDepth, "[", "]", ""), flat(impl.MaxValues)} {
			s := numbered(0, 3)
			s.Versions[at].Doc = doc
			checkStore(t, s, true)
		}
	}
}

// counted makes so many pointers that are sorted.
func counted(count int) []string {
	var ptrs []string
	for i := range count {
		ptrs = append(ptrs, fmt.Sprintf("/%04d", i))
	}
	return ptrs
}

func TestStoreOkTouched(t *testing.T) {
	check := func(valid bool, touched ...string) {
		t.Helper()
		for at := range 2 {
			s := numbered(0, 2)
			s.Versions[at].Touched = touched
			checkStore(t, s, valid)
		}
	}
	check(true)
	check(true, "")
	check(true, "", "/", "/a", "/a!", "/a/b", "/b", "/~0", "/~1", "/\u00e9", "/\xff")
	check(true, counted(impl.MaxTouched)...)
	check(false, counted(impl.MaxTouched+1)...)
	check(false, append(counted(impl.MaxTouched), "/0999")...)
	check(false, "", "")
	check(false, "/a", "/a")
	check(false, "/a", "/b", "/b", "/c")
	check(false, "/a", "/b", "/a")
	check(false, "/b", "/a")
	check(false, "/a", "/c", "/b")
	check(false, "/a/b", "/a!")
	check(false, "/\xff", "/\u00e9")
	check(false, "/a", "")
	for _, text := range []string{"a", " ", "/~", "/a~", "/a~2", "~0", "a/b"} {
		check(false, text)
	}
	check(false, "/a", "/b~", "/c")
	check(false, "/a", "b")
	check(false, "", "x")
}

func TestBegin(t *testing.T) {
	s := versions(impl.Version{No: 3, Doc: `{"a":9}`, Touched: []string{"", "/b"}}, impl.Version{No: 4, Doc: `{"a":[1]}`, Touched: []string{"/a"}})
	checkBegin(t, s, ` [ { "value" : { "z":1, "b":-0 }, "op":"\u0061dd", "path":"/x" }, {"op":"move","from":"/a/0","path":"/y","more":[]} ] `,
		pending(4, 0, `{"a":[],"x":{"b":0,"z":1},"y":1}`, add("/x", `{"b":0,"z":1}`), move("/a/0", "/y")), impl.Verdict{Kind: impl.Running})
	checkBegin(t, s, "[]", pending(4, 0, `{"a":[1]}`), impl.Verdict{Kind: impl.Running})
	checkBegin(t, s, `[{"op":"replace","path":"","value":null}]`, pending(4, 0, "null", replace("", "null")), impl.Verdict{Kind: impl.Running})
	// The head alone is looked at.
	checkBegin(t, s, `[{"op":"test","path":"/a","value":9}]`, impl.Pending{}, impl.Verdict{Kind: impl.Failed, Code: 5})
	checkBegin(t, s, `[{"op":"test","path":"/a","value":[1]}]`, pending(4, 0, `{"a":[1]}`, test("/a", "[1]")), impl.Verdict{Kind: impl.Running})
	most := strings.Repeat(`{"op":"add","path":"/a/-","value":1},`, impl.MaxOps-1) + `{"op":"add","path":"/a/-","value":1}`
	checkBegin(t, numbered(0, 1), "["+most+"]", impl.Pending{}, impl.Verdict{Kind: impl.Failed, Code: 3})
	p, v := begin(t, s, "["+most+"]")
	if !alike(p.Ops, manyOps(impl.MaxOps, add("/a/-", "1"))) || p.Base != 4 || p.Tries != 0 || v != (impl.Verdict{Kind: impl.Running}) {
		t.Errorf("%s, %+v", shortly(spelled(p)), v)
	}
	checkBegin(t, s, "["+most+","+most+"]", impl.Pending{}, impl.Verdict{Kind: impl.Malformed, Code: 3, At: impl.MaxOps})
}

func TestBeginMalformed(t *testing.T) {
	s := numbered(0, 3)
	check := func(text string, code, at int) {
		t.Helper()
		checkBegin(t, s, text, impl.Pending{}, impl.Verdict{Kind: impl.Malformed, Code: code, At: at})
	}
	check("", 1, 0)
	check("[", 1, 0)
	check(`[{"op":"remove","op":"remove","path":"/a"}]`, 1, 0)
	check(strings.Repeat(" ", impl.MaxText)+"[]", 1, 0)
	check("{}", 2, 0)
	check("1", 2, 0)
	check("["+strings.Repeat("1,", impl.MaxOps)+"1]", 3, impl.MaxOps)
	check("[1]", 4, 0)
	check(`[{"op":"remove","path":"/none"},{"op":"remove","path":"a"}]`, 4, 1)
	check(`[{"op":"remove","path":"/none"},{"op":"test","path":"/a"},{}]`, 4, 1)
	check(`[{"op":"remove","path":"/n"},{"op":"add","path":"/a","value":1},{"op":"move","path":"/a"}]`, 4, 2)
}

func TestBeginFailed(t *testing.T) {
	s := versions(impl.Version{No: 8, Doc: `{"a":{"b":1},"c":` + wide(impl.MaxText-40) + "}"})
	check := func(text string, code, at int) {
		t.Helper()
		checkBegin(t, s, text, impl.Pending{}, impl.Verdict{Kind: impl.Failed, Code: code, At: at})
	}
	check(`[{"op":"remove","path":"/x"}]`, 3, 0)
	check(`[{"op":"remove","path":"/a/b"},{"op":"remove","path":"/a/b"}]`, 3, 1)
	check(`[{"op":"test","path":"/a/b","value":1},{"op":"test","path":"/a","value":{}}]`, 5, 1)
	check(`[{"op":"move","from":"/a","path":"/a/b"}]`, 6, 0)
	check(`[{"op":"add","path":"/d","value":1},{"op":"add","path":"/e","value":2},{"op":"copy","from":"/c","path":"/f"}]`, 7, 2)
}

func TestPublishedVersion(t *testing.T) {
	s := versions(impl.Version{No: 4, Doc: `{"a":[1]}`, Touched: []string{"/a"}})
	p, _ := begin(t, s, `[{"op":"copy","from":"/a/0","path":"/b"},{"op":"add","path":"/a/0","value":2}]`)
	want := versions(s.Versions[0], impl.Version{No: 5, Doc: `{"a":[2,1],"b":1}`, Touched: []string{"/a", "/a/0", "/b"}})
	checkAttempt(t, s, p, want, impl.Pending{}, impl.Verdict{Kind: impl.Published, No: 5})
	// A patch of nothing is a version too.
	checkAttempt(t, s, pending(4, 0, `{"a":[1]}`), versions(s.Versions[0], impl.Version{No: 5, Doc: `{"a":[1]}`}), impl.Pending{}, impl.Verdict{Kind: impl.Published, No: 5})
	// What a Pending says is published as it is, whatever its tries were and however its operations would end.
	checkAttempt(t, s, pending(4, impl.MaxTries, "7", remove("/none"), test("/a/0", "3")),
		versions(s.Versions[0], impl.Version{No: 5, Doc: "7", Touched: []string{"/a/0", "/none"}}), impl.Pending{}, impl.Verdict{Kind: impl.Published, No: 5})
	var most []impl.POp
	for i := range impl.MaxOps {
		most = append(most, move(fmt.Sprintf("/a%03d", i), fmt.Sprintf("/b%03d", i)))
	}
	next, _, v := attempt(t, s, pending(4, 0, "{}", most...))
	if v.Kind != impl.Published || !slices.Equal(next.Versions[1].Touched, impl.Touched(most)) || len(next.Versions[1].Touched) != 2*impl.MaxOps {
		t.Errorf("%s, %+v", shortly(spelled(next)), v)
	}
}

func TestPublishDropsTheOldest(t *testing.T) {
	for count := 1; count <= impl.MaxHistory; count++ {
		s := numbered(3, count)
		no := 3 + count
		want := append(slices.Clone(s.Versions), impl.Version{No: no, Doc: "[]", Touched: []string{"/x"}})
		if count == impl.MaxHistory {
			want = want[1:]
		}
		checkAttempt(t, s, pending(no-1, 0, "[]", addX()), versions(want...), impl.Pending{}, impl.Verdict{Kind: impl.Published, No: no})
	}
	s := open(t, `{"n":[]}`)
	for i := 1; i <= 3*impl.MaxHistory; i++ {
		s = publish(t, s, add("/n/-", "1"))
		first := max(0, i-impl.MaxHistory+1)
		if len(s.Versions) != min(i+1, impl.MaxHistory) || s.Versions[0].No != first || headOf(s).No != i || !storeOk(t, s) {
			t.Fatalf("after %d versions: %s", i, shortly(spelled(s)))
		}
	}
}

// TestNumbersAtTheirBound has a store whose oldest version may become the number
// 1000000 and no greater one.
func TestNumbersAtTheirBound(t *testing.T) {
	s := publish(t, numbered(999999, impl.MaxHistory), setN())
	if !storeOk(t, s) || s.Versions[0].No != 1000000 || headOf(s).No != 1000007 {
		t.Errorf("%s", spelled(s))
	}
	s = publish(t, s, setN())
	if len(s.Versions) != impl.MaxHistory || s.Versions[0].No != 1000001 || headOf(s).No != 1000008 {
		t.Errorf("%s", spelled(s))
	}
	checkStore(t, s, false)
	s = publish(t, numbered(1000000, 1), setN())
	if !storeOk(t, s) || len(s.Versions) != 2 || headOf(s).No != 1000001 {
		t.Errorf("%s", spelled(s))
	}
}
