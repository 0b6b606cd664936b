package tests

import (
	"strconv"
	"strings"
	"testing"

	"loop.example/s04350/impl"
)

func checkApply(t *testing.T, doc string, ops []impl.POp, want string) {
	t.Helper()
	got, code, at := impl.Apply(doc, ops)
	if got != want || code != 0 || at != 0 {
		t.Errorf("Apply(%s, %s) = %s, %d, %d; want %s", short(doc), told(ops), short(got), code, at, short(want))
	}
	if canon, code := impl.Canon(got); canon != got || code != 0 {
		t.Errorf("Apply(%s, %s) = %s with the code %d of Canon", short(doc), told(ops), short(got), code)
	}
}

func checkNotApplied(t *testing.T, doc string, ops []impl.POp, code, at int) {
	t.Helper()
	if got, c, i := impl.Apply(doc, ops); got != "" || c != code || i != at {
		t.Errorf("Apply(%s, %s) = %s, %d, %d; want %d, %d", short(doc), told(ops), short(got), c, i, code, at)
	}
}

// applyCase is one operation with the document that comes out, or a code when it is above 0.
type applyCase struct {
	op   impl.POp
	want string
	code int
}

func checkApplyCases(t *testing.T, doc string, cases []applyCase) {
	t.Helper()
	for _, c := range cases {
		if c.code == 0 {
			checkApply(t, doc, patch(c.op), c.want)
		} else {
			checkNotApplied(t, doc, patch(c.op), c.code, 0)
		}
	}
}

func TestApplyAddInObjects(t *testing.T) {
	checkApplyCases(t, ` { "b" : {"c": 1} , "a": 2 } `, []applyCase{
		{add("/c", "3"), `{"a":2,"b":{"c":1},"c":3}`, 0},
		{add("/a", "3"), `{"a":3,"b":{"c":1}}`, 0},
		{add("/b", "3"), `{"a":2,"b":3}`, 0},
		{add("/b/c", "null"), `{"a":2,"b":{"c":null}}`, 0},
		{add("/b/", `{"x":[]}`), `{"a":2,"b":{"":{"x":[]},"c":1}}`, 0},
		{add("/", "3"), `{"":3,"a":2,"b":{"c":1}}`, 0},
		{add("/-", "3"), `{"-":3,"a":2,"b":{"c":1}}`, 0},
		{add("/b/0", "3"), `{"a":2,"b":{"0":3,"c":1}}`, 0},
		{add("/b/99999999", "3"), `{"a":2,"b":{"99999999":3,"c":1}}`, 0},
		{add("/b/~0~1", "3"), `{"a":2,"b":{"c":1,"~/":3}}`, 0},
		{add("/b/\x00", "3"), `{"a":2,"b":{"\u0000":3,"c":1}}`, 0},
		{add("/\U0010FFFF", "3"), "{\"a\":2,\"b\":{\"c\":1},\"\U0010FFFF\":3}", 0},
		{add("", "3"), "3", 0},
		{add("", `{"a":[]}`), `{"a":[]}`, 0},
		{add("/a/x", "3"), "", 3}, {add("/a/0", "3"), "", 3}, {add("/a/-", "3"), "", 3}, {add("/a/", "3"), "", 3},
		{add("/x/y", "3"), "", 3}, {add("/b/x/y", "3"), "", 3}, {add("/b/c/d", "3"), "", 3}, {add("//", "3"), "", 3},
	})
	for _, token := range []string{"\xff", "a\xe4\xb8", "\xed\xa0\x80", "\xc0\xaf", "\xf4\x90\x80\x80", "ok\x80"} {
		checkApplyCases(t, `{"b":{}}`, []applyCase{
			{add("/"+token, "1"), "", 3}, {add("/b/"+token, "1"), "", 3}, {copyOp("/b", "/"+token), "", 3}, {move("/b", "/"+token), "", 3},
			{replace("/"+token, "1"), "", 3}, {remove("/" + token), "", 3}, {test("/"+token, "1"), "", 3}, {copyOp("/"+token, "/c"), "", 3}, {move("/"+token, "/c"), "", 3},
			{add("/"+token+"/x", "1"), "", 3},
		})
		checkApplyCases(t, "[1]", []applyCase{{add("/"+token, "1"), "", 3}, {add("/0/"+token, "1"), "", 3}})
	}
}

func TestApplyAddInArrays(t *testing.T) {
	checkApplyCases(t, `[10,[20],{"k":[]}]`, []applyCase{
		{add("/0", "9"), `[9,10,[20],{"k":[]}]`, 0},
		{add("/1", "9"), `[10,9,[20],{"k":[]}]`, 0},
		{add("/2", "9"), `[10,[20],9,{"k":[]}]`, 0},
		{add("/3", "9"), `[10,[20],{"k":[]},9]`, 0},
		{add("/-", "9"), `[10,[20],{"k":[]},9]`, 0},
		{add("/1/0", "[]"), `[10,[[],20],{"k":[]}]`, 0},
		{add("/1/1", "[]"), `[10,[20,[]],{"k":[]}]`, 0},
		{add("/2/k/0", "1"), `[10,[20],{"k":[1]}]`, 0},
		{add("/2/k/-", "1"), `[10,[20],{"k":[1]}]`, 0},
		{add("/2/-", "1"), `[10,[20],{"-":1,"k":[]}]`, 0},
		{add("/4", "9"), "", 3}, {add("/1/2", "9"), "", 3}, {add("/2/k/1", "9"), "", 3}, {add("/00", "9"), "", 3}, {add("/01", "9"), "", 3}, {add("/03", "9"), "", 3},
		{add("/", "9"), "", 3}, {add("/--", "9"), "", 3}, {add("/-1", "9"), "", 3}, {add("/-0", "9"), "", 3}, {add("/+1", "9"), "", 3}, {add("/a", "9"), "", 3}, {add("/1 ", "9"), "", 3}, {add("/1.0", "9"), "", 3},
		{add("/-/0", "9"), "", 3}, {add("/3/0", "9"), "", 3}, {add("/0/0", "9"), "", 3}, {add("/100000", "9"), "", 3}, {add("/1000000", "9"), "", 3}, {add("/18446744073709551616", "9"), "", 3}, {add("/18446744073709551619", "9"), "", 3},
	})
	checkApplyCases(t, "[]", []applyCase{{add("/0", "1"), "[1]", 0}, {add("/-", "1"), "[1]", 0}, {add("/1", "1"), "", 3}})
	for _, doc := range []string{"null", "true", "0", `"ab"`} {
		checkApplyCases(t, doc, []applyCase{{add("", "1"), "1", 0}, {add("/", "1"), "", 3}, {add("/0", "1"), "", 3}, {add("/-", "1"), "", 3}, {add("/a", "1"), "", 3}})
	}
}

func TestApplyRemove(t *testing.T) {
	checkApplyCases(t, `{"a":[1,2,3],"b":{"c":null,"":0},"0":4}`, []applyCase{
		{remove("/a"), `{"0":4,"b":{"":0,"c":null}}`, 0},
		{remove("/a/0"), `{"0":4,"a":[2,3],"b":{"":0,"c":null}}`, 0},
		{remove("/a/1"), `{"0":4,"a":[1,3],"b":{"":0,"c":null}}`, 0},
		{remove("/a/2"), `{"0":4,"a":[1,2],"b":{"":0,"c":null}}`, 0},
		{remove("/b/c"), `{"0":4,"a":[1,2,3],"b":{"":0}}`, 0},
		{remove("/b/"), `{"0":4,"a":[1,2,3],"b":{"c":null}}`, 0},
		{remove("/0"), `{"a":[1,2,3],"b":{"":0,"c":null}}`, 0},
		{remove(""), "", 3}, {remove("/"), "", 3}, {remove("/c"), "", 3}, {remove("/a/3"), "", 3}, {remove("/a/-"), "", 3}, {remove("/a/00"), "", 3}, {remove("/a/0/0"), "", 3}, {remove("/b/c/d"), "", 3}, {remove("/x/y"), "", 3},
	})
	checkApplyCases(t, "[1]", []applyCase{{remove("/0"), "[]", 0}, {remove(""), "", 3}, {remove("/1"), "", 3}})
	checkApplyCases(t, `{"":1}`, []applyCase{{remove("/"), "{}", 0}, {remove(""), "", 3}})
	checkApplyCases(t, "1", []applyCase{{remove(""), "", 3}, {remove("/0"), "", 3}})
	checkApply(t, "[1,2]", patch(remove("/0"), remove("/0")), "[]")
	checkNotApplied(t, "[1,2]", patch(remove("/0"), remove("/1")), 3, 1)
}

func TestApplyReplace(t *testing.T) {
	checkApplyCases(t, `{"a":[1,2,3],"b":{"c":null}}`, []applyCase{
		{replace("", "7"), "7", 0},
		{replace("/a", "7"), `{"a":7,"b":{"c":null}}`, 0},
		{replace("/a/0", "[7]"), `{"a":[[7],2,3],"b":{"c":null}}`, 0},
		{replace("/a/2", "7"), `{"a":[1,2,7],"b":{"c":null}}`, 0},
		{replace("/b/c", `{"d":1}`), `{"a":[1,2,3],"b":{"c":{"d":1}}}`, 0},
		{replace("/b/c", "null"), `{"a":[1,2,3],"b":{"c":null}}`, 0},
		{replace("/a/3", "7"), "", 3}, {replace("/a/-", "7"), "", 3}, {replace("/a/01", "7"), "", 3}, {replace("/c", "7"), "", 3}, {replace("/b/d", "7"), "", 3}, {replace("/", "7"), "", 3}, {replace("/b/c/d", "7"), "", 3}, {replace("/a/0/0", "7"), "", 3},
	})
}

func TestApplyMove(t *testing.T) {
	checkApplyCases(t, `{"a":[1,2,3],"b":{"c":{"d":4}},"e":5}`, []applyCase{
		{move("/e", "/f"), `{"a":[1,2,3],"b":{"c":{"d":4}},"f":5}`, 0},
		{move("/e", "/a/0"), `{"a":[5,1,2,3],"b":{"c":{"d":4}}}`, 0},
		{move("/e", "/a/-"), `{"a":[1,2,3,5],"b":{"c":{"d":4}}}`, 0},
		{move("/e", "/a"), `{"a":5,"b":{"c":{"d":4}}}`, 0},
		{move("/e", "/b/c/d"), `{"a":[1,2,3],"b":{"c":{"d":5}}}`, 0},
		{move("/a/0", "/a/1"), `{"a":[2,1,3],"b":{"c":{"d":4}},"e":5}`, 0},
		{move("/a/0", "/a/2"), `{"a":[2,3,1],"b":{"c":{"d":4}},"e":5}`, 0},
		{move("/a/0", "/a/-"), `{"a":[2,3,1],"b":{"c":{"d":4}},"e":5}`, 0},
		{move("/a/2", "/a/0"), `{"a":[3,1,2],"b":{"c":{"d":4}},"e":5}`, 0},
		{move("/a/0", "/a/3"), "", 3},
		{move("/a/0", "/0"), `{"0":1,"a":[2,3],"b":{"c":{"d":4}},"e":5}`, 0},
		// to the same place
		{move("/a", "/a"), `{"a":[1,2,3],"b":{"c":{"d":4}},"e":5}`, 0},
		{move("/a/2", "/a/2"), `{"a":[1,2,3],"b":{"c":{"d":4}},"e":5}`, 0},
		{move("", ""), `{"a":[1,2,3],"b":{"c":{"d":4}},"e":5}`, 0},
		{move("/x", "/x"), "", 3}, {move("/a/3", "/a/3"), "", 3}, {move("/a/-", "/a/-"), "", 3},
		// into the moved value
		{move("/b", "/b/x"), "", 6}, {move("/b", "/b/c"), "", 6}, {move("/b", "/b/c/d"), "", 6}, {move("/b/c", "/b/c/"), "", 6}, {move("", "/x"), "", 6}, {move("", "/a/-"), "", 6},
		{move("/a", "/a/0"), "", 6}, {move("/a/0", "/a/0/x"), "", 6}, {move("/e", "/e/no/such/place"), "", 6}, {move("/b", "/b/\xff"), "", 6},
		{move("/x", "/x/y"), "", 3}, {move("/a/3", "/a/3/y"), "", 3},
		// a key that begins with the other one is not inside of it
		{move("/b", "/bb"), `{"a":[1,2,3],"bb":{"c":{"d":4}},"e":5}`, 0},
		{move("/a/1", "/a/10"), "", 3},
		// out of the value that is there
		{move("/b/c", "/b"), `{"a":[1,2,3],"b":{"d":4},"e":5}`, 0},
		{move("/b/c/d", "/b"), `{"a":[1,2,3],"b":4,"e":5}`, 0},
		{move("/b/c/d", ""), "4", 0},
		{move("/a/1", "/a"), `{"a":2,"b":{"c":{"d":4}},"e":5}`, 0},
		{move("/a", ""), "[1,2,3]", 0},
		{move("/x", "/f"), "", 3}, {move("/e", "/x/y"), "", 3}, {move("/e", "/a/x"), "", 3}, {move("/e", "/a/4"), "", 3}, {move("/a/-", "/f"), "", 3}, {move("/x", ""), "", 3},
	})
	checkApplyCases(t, "[[1],[2],[3]]", []applyCase{
		// the places of Path are those behind the taking out
		{move("/0", "/0/0"), "", 6},
		{move("/0", "/1/0"), "[[2],[[1],3]]", 0},
		{move("/0", "/2/0"), "", 3},
		{move("/1", "/0/-"), "[[1,[2]],[3]]", 0},
		{move("/2/0", "/0"), "[3,[1],[2],[]]", 0},
	})
}

func TestApplyCopy(t *testing.T) {
	checkApplyCases(t, `{"a":[1,2],"b":{"c":3}}`, []applyCase{
		{copyOp("/a", "/d"), `{"a":[1,2],"b":{"c":3},"d":[1,2]}`, 0},
		{copyOp("/a", "/a"), `{"a":[1,2],"b":{"c":3}}`, 0},
		{copyOp("/a/0", "/a/0"), `{"a":[1,1,2],"b":{"c":3}}`, 0},
		{copyOp("/a/0", "/a/2"), `{"a":[1,2,1],"b":{"c":3}}`, 0},
		{copyOp("/a/1", "/a/-"), `{"a":[1,2,2],"b":{"c":3}}`, 0},
		{copyOp("/a", "/a/0"), `{"a":[[1,2],1,2],"b":{"c":3}}`, 0},
		{copyOp("/b", "/b/c"), `{"a":[1,2],"b":{"c":{"c":3}}}`, 0},
		{copyOp("", "/b/c"), `{"a":[1,2],"b":{"c":{"a":[1,2],"b":{"c":3}}}}`, 0},
		{copyOp("", ""), `{"a":[1,2],"b":{"c":3}}`, 0},
		{copyOp("/b/c", ""), "3", 0},
		{copyOp("/x", "/a"), "", 3}, {copyOp("/a/2", "/x"), "", 3}, {copyOp("/a/-", "/x"), "", 3}, {copyOp("/a", "/x/y"), "", 3}, {copyOp("/a", "/a/3"), "", 3}, {copyOp("/a", "/b/c/d"), "", 3},
	})
}

// TestApplySharesNothingSeen changes one of two places that came from one value.
func TestApplySharesNothingSeen(t *testing.T) {
	doc := `{"a":{"k":[1,2]}}`
	for _, c := range []struct {
		ops  []impl.POp
		want string
	}{
		{patch(copyOp("/a", "/b"), add("/b/x", "1")), `{"a":{"k":[1,2]},"b":{"k":[1,2],"x":1}}`},
		{patch(copyOp("/a", "/b"), add("/a/k/-", "3")), `{"a":{"k":[1,2,3]},"b":{"k":[1,2]}}`},
		{patch(copyOp("/a", "/b"), add("/b/k/0", "3"), add("/a/k/1", "4")), `{"a":{"k":[1,4,2]},"b":{"k":[3,1,2]}}`},
		{patch(copyOp("/a", "/b"), remove("/b/k/0")), `{"a":{"k":[1,2]},"b":{"k":[2]}}`},
		{patch(copyOp("/a", "/b"), remove("/a/k")), `{"a":{},"b":{"k":[1,2]}}`},
		{patch(copyOp("/a", "/b"), replace("/b/k/1", "9")), `{"a":{"k":[1,2]},"b":{"k":[1,9]}}`},
		{patch(copyOp("/a", "/b"), move("/a/k/1", "/b/k/0")), `{"a":{"k":[1]},"b":{"k":[2,1,2]}}`},
		{patch(copyOp("/a/k", "/a/k/-"), replace("/a/k/2/0", "9"), test("/a/k/0", "1")), `{"a":{"k":[1,2,[9,2]]}}`},
	} {
		checkApply(t, doc, c.ops, c.want)
	}
}

func TestApplyTest(t *testing.T) {
	doc := ` { "b" : [ 1, -0, "\u0041\/\u001F" ] , "a" : { "y" : null, "x" : true } } `
	same := `{"a":{"x":true,"y":null},"b":[1,0,"A/\u001f"]}`
	for _, op := range patch(test("", same), test("/a", `{"x":true,"y":null}`), test("/b", `[1,0,"A/\u001f"]`), test("/b/1", "0"), test("/b/2", `"A/\u001f"`), test("/a/y", "null")) {
		checkApply(t, doc, patch(op), same)
	}
	for _, op := range patch(test("", "{}"), test("/a", `{"x":true}`), test("/a", `{"x":true,"y":null,"z":0}`), test("/b", "[]"), test("/b/0", `"1"`), test("/b/0", "true"), test("/a/y", "0"), test("/a/y", `""`), test("/a/x", "1"), test("/b/0", "-1"), test("/b/0", "[1]"), test("/b/2", `"A/"`)) {
		checkNotApplied(t, doc, patch(op), 5, 0)
	}
	for _, op := range patch(test("/c", "null"), test("/b/3", "null"), test("/b/-", "null"), test("/a/y/z", "null"), test("/", "null")) {
		checkNotApplied(t, doc, patch(op), 3, 0)
	}
	checkApply(t, "[1]", patch(test("/0", "1"), replace("/0", "2"), test("/0", "2"), test("", "[2]")), "[2]")
	checkNotApplied(t, "[1]", patch(test("/0", "1"), replace("/0", "2"), test("/0", "1")), 5, 2)
}

func TestApplyFirstCode(t *testing.T) {
	good, bad := remove("/a"), add("/a", " 1")
	for _, doc := range []string{"", "{", "[1,]", "9223372036854775808", `{"a":1,"a":2}`, nest(impl.MaxDepth+1, "[", "]", ""), flat(impl.MaxValues + 1), wide(impl.MaxText + 1), "\xff"} {
		checkNotApplied(t, doc, nil, 1, 0)
		checkNotApplied(t, doc, patch(good, bad), 1, 0)
		checkNotApplied(t, doc, manyOps(impl.MaxOps+1, bad), 1, 0)
	}
	for _, op := range illFormed() {
		checkNotApplied(t, `{"a":1}`, patch(op), 2, 0)
		checkNotApplied(t, `{"a":1}`, patch(good, good, good, op, op), 2, 3)
		checkNotApplied(t, `{"a":1}`, patch(test("", "2"), move("", "/a"), op), 2, 2)
		checkNotApplied(t, `{"a":1}`, append(manyOps(impl.MaxOps-1, good), op), 2, impl.MaxOps-1)
		checkNotApplied(t, `{"a":1}`, append(patch(op), manyOps(impl.MaxOps, good)...), 2, impl.MaxOps)
	}
	checkApply(t, `{"a":1}`, manyOps(impl.MaxOps, add("/a", "2")), `{"a":2}`)
	checkNotApplied(t, `{"a":1}`, manyOps(impl.MaxOps+1, add("/a", "2")), 2, impl.MaxOps)
	checkNotApplied(t, `{"a":1}`, manyOps(3*impl.MaxOps, add("/a", "2")), 2, impl.MaxOps)
	checkNotApplied(t, `{"a":1}`, manyOps(impl.MaxOps, remove("/a")), 3, 1)
	checkApply(t, ` { "b" : 1 , "a" : -0 } `, nil, `{"a":0,"b":1}`)
}

// growth is a canonical document with an operation that keeps it just within a
// limit, and one that does not.
type growth struct {
	doc   string
	fits  impl.POp
	grows impl.POp
}

func growthsInDepth() []growth {
	deepest, nearly := nest(impl.MaxDepth, "[", "]", ""), nest(impl.MaxDepth-1, "[", "]", "")
	bottom := strings.Repeat("/0", impl.MaxDepth-1)
	inner := nest(impl.MaxDepth-2, "[", "]", "1")
	return []growth{
		{"[0]", add("/1", nearly), add("/1", deepest)},
		{"[0]", replace("/0", nearly), replace("/0", deepest)},
		{"[" + inner + ",[]]", copyOp("/0/0", "/1/-"), copyOp("/0", "/1/-")},
		{`{"a":` + inner + `,"b":[]}`, move("/a/0", "/b/-"), move("/a", "/b/-")},
		{deepest, test(bottom, "[]"), add(bottom+"/-", "0")},
		{deepest, replace(bottom, "0"), replace(bottom, `{"a":0}`)},
	}
}

func growthsInCount() []growth {
	return []growth{
		{`{"a":` + flat(impl.MaxValues-2) + "}", add("/a/-", "0"), add("/a/-", "[0]")},
		{"[" + flat(impl.MaxValues/2-1) + ",0]", copyOp("/0", "/-"), copyOp("", "/-")},
		{flat(impl.MaxValues), replace("/0", `"x"`), replace("/0", "[0]")},
		{flat(impl.MaxValues), remove("/0"), add("/0", "0")},
	}
}

func growthsInBytes() []growth {
	return []growth{
		{"[" + wide(impl.MaxText-2) + "]", test("/0", wide(impl.MaxText-2)), add("/-", "1")},
		{"[" + wide(impl.MaxText-4) + "]", add("/-", "1"), add("/-", "10")},
		{"[" + wide(impl.MaxText-4) + "]", add("/0", "1"), add("/0", `"\n"`)},
		{`{"k":` + wide(impl.MaxText-6) + "}", move("/k", "/l"), move("/k", "/kk")},
		{`{"k":` + wide(impl.MaxText-6) + "}", move("/k", "/l"), move("/k", "/\n")},
		{`{"k":0}`, replace("/k", wide(impl.MaxText-6)), replace("/k", wide(impl.MaxText-5))},
		{`{"k":0}`, add("/"+strings.Repeat("x", impl.MaxText-12), "1"), add("/"+strings.Repeat("x", impl.MaxText-11), "1")},
		{`{"k":0}`, add("/"+strings.Repeat("\n", impl.MaxText/2-6), "1"), add("/"+strings.Repeat("\n", impl.MaxText/2-5), "1")},
		{`{"k":0}`, add("/k", "1"), add("/"+strings.Repeat("x", 3*impl.MaxText), "1")},
		{"[" + wide(impl.MaxText/2-2) + "]", copyOp("/0", "/-"), copyOp("", "/-")},
	}
}

func TestApplyTooGreat(t *testing.T) {
	all := append(append(growthsInDepth(), growthsInCount()...), growthsInBytes()...)
	for i, g := range all {
		if _, code, _ := impl.Apply(g.doc, patch(g.fits)); code != 0 {
			t.Errorf("growth %d: code %d for what fits", i, code)
		}
		same, small := test("", g.doc), replace("", "0")
		checkNotApplied(t, g.doc, patch(g.grows), 7, 0)
		checkNotApplied(t, g.doc, patch(g.grows, small), 7, 0)
		checkNotApplied(t, g.doc, patch(same, g.grows, small, test("", "1")), 7, 1)
		checkNotApplied(t, g.doc, patch(same, same, g.grows), 7, 2)
		checkNotApplied(t, g.doc, append(manyOps(impl.MaxOps-1, move("", "")), g.grows), 7, impl.MaxOps-1)
		checkNotApplied(t, g.doc, patch(g.grows, remove("a")), 2, 1)
		checkNotApplied(t, g.doc, patch(test("", "\"no\""), g.grows), 5, 0)
	}
}

// TestApplyExactBytes fills the room that a made value leaves, to the last byte.
func TestApplyExactBytes(t *testing.T) {
	m := newMaker(18)
	for range 200 {
		v := canonOf(m.value(5))
		doc := `{"p":"","v":` + v + "}"
		full := wide(impl.MaxText - len(doc) + len(`""`))
		checkApply(t, doc, patch(replace("/p", full)), `{"p":`+full+`,"v":`+v+"}")
		checkNotApplied(t, doc, patch(replace("/p", "\"x"+full[1:])), 7, 0)
	}
}

// TestApplyTooGreatComesLast has operations that cannot be done and would make too much too.
func TestApplyTooGreatComesLast(t *testing.T) {
	deepest := nest(impl.MaxDepth, "[", "]", "")
	checkNotApplied(t, "[0]", patch(add("/2", deepest)), 3, 0)
	checkNotApplied(t, "[0]", patch(replace("/1", deepest)), 3, 0)
	checkNotApplied(t, "[0]", patch(add("/0/0", deepest)), 3, 0)
	checkNotApplied(t, "{}", patch(add("/\xff"+strings.Repeat("x", impl.MaxText), "0")), 3, 0)
	checkNotApplied(t, flat(impl.MaxValues), patch(copyOp("", "/x")), 3, 0)
	// What counts is the canonical text, not the one that was handed in.
	checkApply(t, "["+strings.Repeat(" ", impl.MaxText-2)+"]", patch(add("/-", "1")), "[1]")
	checkApply(t, strings.Repeat(" ", impl.MaxText-2)+"[]", patch(add("/-", wide(impl.MaxText-2))), "["+wide(impl.MaxText-2)+"]")
}

// checkModel holds Apply to a text of a made value against the model, and gives the model's code.
func checkModel(t *testing.T, v any, doc string, ops []impl.POp) int {
	t.Helper()
	want, code, at := modelApply(v, ops)
	if code == 0 {
		checkApply(t, doc, ops, canonOf(want))
	} else {
		checkNotApplied(t, doc, ops, code, at)
	}
	return code
}

// TestApplyMadeOps holds Apply against a model that does one operation at a time on plain Go values.
func TestApplyMadeOps(t *testing.T) {
	m := newMaker(13)
	codes := map[int]int{}
	for range 6000 {
		v := m.value(4)
		var ops []impl.POp
		now := v
		for range m.Intn(6) {
			op := m.op(now)
			ops = append(ops, op)
			if next, code := modelOp(now, op); code == 0 {
				now = next
			} else if m.Intn(2) == 0 {
				ops = ops[:len(ops)-1]
			}
		}
		codes[checkModel(t, v, m.spell(v), ops)]++
	}
	if codes[0] < 1000 || codes[3] < 500 || codes[5] < 10 || codes[6] < 50 {
		t.Errorf("the made patches have the codes %v", codes)
	}
}

// TestApplyMadeGrowth copies a document into itself until a limit stops it.
func TestApplyMadeGrowth(t *testing.T) {
	m := newMaker(14)
	codes := map[int]int{}
	for range 60 {
		v := any([]any{m.value(3), m.value(3)})
		var ops []impl.POp
		for range 20 {
			ops = append(ops, copyOp([]string{"", "/0", "/1"}[m.Intn(3)], "/"+strconv.Itoa(m.Intn(3))))
		}
		codes[checkModel(t, v, m.spell(v), ops)]++
	}
	if codes[7] < 20 {
		t.Errorf("the made patches have the codes %v", codes)
	}
}
