package tests

import (
	"slices"
	"strings"
	"testing"

	"loop.example/s04350/impl"
)

func TestDecodePatchForms(t *testing.T) {
	for _, c := range []struct {
		text string
		want []impl.POp
	}{
		{"[]", nil},
		{" [ ] ", nil},
		{`[{"op":"add","path":"/a","value":1}]`, patch(add("/a", "1"))},
		{`[{"op":"remove","path":"/a"}]`, patch(remove("/a"))},
		{`[{"op":"replace","path":"/a","value":[]}]`, patch(replace("/a", "[]"))},
		{`[{"op":"move","from":"/a","path":"/b"}]`, patch(move("/a", "/b"))},
		{`[{"op":"copy","from":"/a","path":"/b"}]`, patch(copyOp("/a", "/b"))},
		{`[{"op":"test","path":"/a","value":"x"}]`, patch(test("/a", `"x"`))},
		{`[{"op":"add","path":"","value":null}]`, patch(add("", "null"))},
		{`[{"op":"move","from":"","path":""}]`, patch(move("", ""))},
		{`[ { "value" : { "b" : -0 , "a" : "\u0041\/" } , "path" : "\u002fa" , "op" : "\u0061dd" } ]`, patch(add("/a", `{"a":"A/","b":0}`))},
		{`[{"op":"remove","path":"/~0/~1/~01//-/0"}]`, patch(remove("/~0/~1/~01//-/0"))},
		{"[{\"op\":\"copy\",\"from\":\"/\\u00e9\",\"path\":\"/\\ud83d\\ude00\"}]", patch(copyOp("/\u00e9", "/\U0001F600"))},
		{`[{"op":"remove","path":"/a"},{"op":"test","path":"","value":0},{"op":"remove","path":"/a"}]`, patch(remove("/a"), test("", "0"), remove("/a"))},
	} {
		checkDecoded(t, c.text, c.want)
	}
}

// TestDecodePatchOtherMembers has members that the kind does not use, some of
// them of a form that they could not have where they are used.
func TestDecodePatchOtherMembers(t *testing.T) {
	for _, c := range []struct {
		text string
		want impl.POp
	}{
		{`{"op":"add","path":"/a","value":1,"from":"/b"}`, add("/a", "1")},
		{`{"op":"add","path":"/a","value":1,"from":"no pointer","Op":"remove","PATH":3,"":[]}`, add("/a", "1")},
		{`{"op":"remove","path":"/a","value":1,"from":[]}`, remove("/a")},
		{`{"op":"replace","path":"/a","value":1,"from":null}`, replace("/a", "1")},
		{`{"op":"test","path":"/a","value":1,"from":7}`, test("/a", "1")},
		{`{"op":"move","path":"/a","from":"/b","value":1}`, move("/b", "/a")},
		{`{"op":"copy","path":"/a","from":"/b","value":{"op":"x"},"0":1}`, copyOp("/b", "/a")},
	} {
		checkDecoded(t, "["+c.text+"]", patch(c.want))
	}
}

func checkDecoded(t *testing.T, text string, want []impl.POp) {
	t.Helper()
	if got, code, at := impl.DecodePatch(text); !slices.Equal(got, want) || code != 0 || at != 0 {
		t.Errorf("DecodePatch(%s) = %s, %d, %d; want %s", short(text), told(got), code, at, told(want))
	}
}

func checkNotDecoded(t *testing.T, text string, code, at int) {
	t.Helper()
	if ops, c, i := impl.DecodePatch(text); len(ops) != 0 || c != code || i != at {
		t.Errorf("DecodePatch(%s) = %s, %d, %d; want %d, %d", short(text), told(ops), c, i, code, at)
	}
}

func TestDecodePatchNotGood(t *testing.T) {
	for _, text := range []string{
		"", "[", "[{]", "x", "[1,]", "[{\"op\":\"remove\",\"path\":\"/\xff\"}]", strings.Repeat(" ", impl.MaxText-1) + "[]",
		`[{"op":"add","path":"","value":9223372036854775808}]`, `[{"op":"remove","path":"/a","path":"/a"}]`,
		"[{\"op\":\"add\",\"path\":\"\",\"value\":" + nest(impl.MaxDepth-1, "[", "]", "") + "}]",
		"[{\"op\":\"add\",\"path\":\"\",\"value\":" + flat(impl.MaxValues-3) + "}]",
	} {
		checkNotDecoded(t, text, 1, 0)
	}
	checkDecoded(t, strings.Repeat(" ", impl.MaxText-2)+"[]", nil)
	deep := nest(impl.MaxDepth-2, "[", "]", "")
	checkDecoded(t, "[{\"op\":\"add\",\"path\":\"\",\"value\":"+deep+"}]", patch(add("", deep)))
	many := flat(impl.MaxValues - 4)
	checkDecoded(t, "[{\"op\":\"add\",\"path\":\"\",\"value\":"+many+"}]", patch(add("", many)))
}

func TestDecodePatchNoArray(t *testing.T) {
	for _, text := range []string{"{}", "null", "true", "0", `"[]"`, `{"op":"remove","path":"/a"}`, `{"0":{"op":"remove","path":"/a"}}`} {
		checkNotDecoded(t, text, 2, 0)
	}
}

func TestDecodePatchMaxOps(t *testing.T) {
	const one = `{"op":"remove","path":"/a"}`
	list := func(n int) string { return strings.Repeat(one+",", n-1) + one }
	checkDecoded(t, "["+list(impl.MaxOps)+"]", manyOps(impl.MaxOps, remove("/a")))
	checkNotDecoded(t, "["+list(impl.MaxOps+1)+"]", 3, impl.MaxOps)
	checkNotDecoded(t, "["+list(3*impl.MaxOps)+"]", 3, impl.MaxOps)
	checkNotDecoded(t, "[1,"+list(impl.MaxOps)+"]", 3, impl.MaxOps)
	checkNotDecoded(t, flat(impl.MaxOps+2), 3, impl.MaxOps)
	checkNotDecoded(t, "["+list(impl.MaxOps-1)+",1]", 4, impl.MaxOps-1)
	checkNotDecoded(t, flat(impl.MaxOps+1), 4, 0)
	checkNotDecoded(t, "["+list(impl.MaxOps+1)+",", 1, 0)
}

func TestDecodePatchWrongElements(t *testing.T) {
	wrong := []string{
		"null", "1", "[]", "{}", `"add"`, `["op","add"]`, `[{"op":"remove","path":"/a"}]`,
		`{"path":"/a"}`, `{"path":"/a","value":1}`, `{"op":"add"}`, `{"op":"add","path":"/a"}`, `{"op":"add","value":1}`, `{"Op":"add","path":"/a","value":1}`,
		`{"op":"replace","path":"/a"}`, `{"op":"test","path":"/a"}`, `{"op":"test","path":"/a","Value":1}`, `{"op":"remove"}`, `{"op":"remove","Path":"/a"}`,
		`{"op":"move","path":"/a"}`, `{"op":"move","from":"/a"}`, `{"op":"copy","path":"/a"}`, `{"op":"copy","from":"/a"}`, `{"op":"move","path":"/a","value":1}`,
	}
	for _, name := range []string{`"Add"`, `"ADD"`, `""`, `"adds"`, `" add"`, `"add\u0000"`, `"rem"`, `"delete"`, "1", "null", `["add"]`, `{"add":1}`, "true"} {
		wrong = append(wrong, `{"op":`+name+`,"path":"/a","from":"/b","value":1}`)
	}
	for _, ptr := range []string{`"a"`, `"~0"`, `"/~"`, `"/~2"`, `"/a~"`, `"/a/~x/b"`, `" /a"`, `"#/a"`, "null", "0", "[]", `["/a"]`, `{"/a":1}`, "false"} {
		for _, op := range []string{"add", "remove", "replace", "move", "copy", "test"} {
			wrong = append(wrong, `{"op":"`+op+`","path":`+ptr+`,"from":"/b","value":1}`)
		}
		wrong = append(wrong, `{"op":"move","path":"/a","from":`+ptr+`}`, `{"op":"copy","path":"/a","from":`+ptr+`}`)
	}
	const one = `{"op":"remove","path":"/a"}`
	for _, element := range wrong {
		checkNotDecoded(t, "["+element+"]", 4, 0)
		checkNotDecoded(t, "["+one+","+one+","+element+","+one+",0]", 4, 2)
	}
}

func TestEncodePatchTexts(t *testing.T) {
	for _, c := range []struct {
		ops  []impl.POp
		want string
	}{
		{nil, "[]"},
		{patch(add("/a", "1")), `[{"op":"add","path":"/a","value":1}]`},
		{patch(remove("/a/0")), `[{"op":"remove","path":"/a/0"}]`},
		{patch(remove("")), `[{"op":"remove","path":""}]`},
		{patch(replace("", `{"a":[1,"x"]}`)), `[{"op":"replace","path":"","value":{"a":[1,"x"]}}]`},
		{patch(move("/a", "/b")), `[{"from":"/a","op":"move","path":"/b"}]`},
		{patch(move("", "")), `[{"from":"","op":"move","path":""}]`},
		{patch(copyOp("", "/b")), `[{"from":"","op":"copy","path":"/b"}]`},
		{patch(test("/~0~1", "null")), `[{"op":"test","path":"/~0~1","value":null}]`},
		{patch(remove("/\"\\\n\x00\u00e9/")), "[{\"op\":\"remove\",\"path\":\"/\\\"\\\\\\n\\u0000\u00e9/\"}]"},
		{patch(test("", "false"), test("", "false"), remove("/x")), `[{"op":"test","path":"","value":false},{"op":"test","path":"","value":false},{"op":"remove","path":"/x"}]`},
	} {
		if got, ok := impl.EncodePatch(c.ops); got != c.want || !ok {
			t.Errorf("EncodePatch(%s) = %q, %v; want %q", told(c.ops), got, ok, c.want)
		}
		checkRoundTrip(t, c.ops)
	}
}

// checkRoundTrip holds operations that have a text against promise 5.
func checkRoundTrip(t *testing.T, ops []impl.POp) {
	t.Helper()
	text, ok := impl.EncodePatch(ops)
	if canon, code := impl.Canon(text); !ok || canon != text || code != 0 {
		t.Errorf("EncodePatch(%s) = %s, %v; its Canon has code %d", told(ops), short(text), ok, code)
	}
	checkDecoded(t, text, ops)
}

func checkNotEncoded(t *testing.T, ops []impl.POp) {
	t.Helper()
	if text, ok := impl.EncodePatch(ops); text != "" || ok {
		t.Errorf("EncodePatch(%s) = %s, %v", told(ops), short(text), ok)
	}
}

func TestEncodePatchIllFormed(t *testing.T) {
	for _, op := range illFormed() {
		checkNotEncoded(t, patch(op))
		checkNotEncoded(t, patch(remove("/a"), op))
		checkNotEncoded(t, patch(op, remove("/a")))
	}
}

// TestEncodePatchNoText has well-formed operations whose text would not be good:
// bytes that no string stands for, or more than a good text may have.
func TestEncodePatchNoText(t *testing.T) {
	for _, token := range []string{"/\xff", "/a\xe4\xb8", "/\xed\xa0\x80", "/\xc0\x80", "/\xf4\x90\x80\x80/b"} {
		for _, op := range patch(remove(token), add(token, "1"), test(token, "1"), move("/a", token), move(token, "/a"), copyOp(token, "/a")) {
			checkNotEncoded(t, patch(op))
			checkNotEncoded(t, patch(remove("/a"), op))
		}
	}
	checkRoundTrip(t, manyOps(impl.MaxOps, remove("/a")))
	checkNotEncoded(t, manyOps(impl.MaxOps+1, remove("/a")))
	checkRoundTrip(t, patch(add("", nest(impl.MaxDepth-2, "[", "]", ""))))
	checkNotEncoded(t, patch(add("", nest(impl.MaxDepth-1, "[", "]", ""))))
	checkRoundTrip(t, patch(add("", flat(impl.MaxValues-4))))
	checkNotEncoded(t, patch(add("", flat(impl.MaxValues-3))))
	around := len(`[{"op":"add","path":"","value":}]`)
	checkRoundTrip(t, patch(add("", wide(impl.MaxText-around))))
	checkNotEncoded(t, patch(add("", wide(impl.MaxText-around+1))))
	around = len(`[{"op":"remove","path":"/"}]`)
	checkRoundTrip(t, patch(remove("/"+strings.Repeat("x", impl.MaxText-around))))
	checkNotEncoded(t, patch(remove("/"+strings.Repeat("x", impl.MaxText-around+1))))
	checkNotEncoded(t, patch(remove("/"+strings.Repeat("\n", impl.MaxText-around))))
	checkNotEncoded(t, patch(remove("/"+strings.Repeat("x", 2*impl.MaxText))))
	checkNotEncoded(t, patch(add("", wide(impl.MaxText/2)), add("", wide(impl.MaxText/2))))
}

func TestPatchTextsOfMadeOps(t *testing.T) {
	m := newMaker(11)
	for range 1000 {
		v := m.value(3)
		var ops []impl.POp
		for range m.Intn(5) {
			ops = append(ops, m.op(v))
		}
		checkRoundTrip(t, ops)
	}
}

// TestDecodePatchDamagedTexts asks for promise 5 whatever the text: a code with
// nothing beside it, or operations that are well formed.
func TestDecodePatchDamagedTexts(t *testing.T) {
	m := newMaker(12)
	for range 3000 {
		v := m.value(3)
		text, _ := impl.EncodePatch(patch(m.op(v), m.op(v)))
		at := m.Intn(len(text))
		text = text[:at] + []string{"", "x", "\"", "/", "~", "1", "{", "a"}[m.Intn(8)] + text[at+m.Intn(2):]
		ops, code, i := impl.DecodePatch(text)
		_, good := impl.Canon(text)
		switch {
		case (code == 1) != (good != 0) || code < 0 || code > 4 || code != 4 && i != 0 || i < 0 || i > 1 || code != 0 && len(ops) != 0:
			t.Fatalf("DecodePatch(%q) = %s, %d, %d; Canon has code %d", text, told(ops), code, i, good)
		case code == 0:
			checkRoundTrip(t, ops)
		}
	}
}
