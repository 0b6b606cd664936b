package tests

import (
	"fmt"
	"slices"
	"strings"
	"testing"

	"loop.example/s04350/impl"
)

type resolveCase struct {
	ptr  string
	want string
	code int
}

func checkResolve(t *testing.T, doc string, cases []resolveCase) {
	t.Helper()
	for _, c := range cases {
		if got, code := impl.Resolve(doc, c.ptr); got != c.want || code != c.code {
			t.Errorf("Resolve(%s, %q) = %s, %d; want %s, %d", short(doc), c.ptr, short(got), code, short(c.want), c.code)
		}
	}
}

func TestResolveObjects(t *testing.T) {
	doc := ` { "b" : [ true , -0 ] , "" : { "" : 1 } , "a/b" : 2, "~" : 3, "~1" : 4, "0" : 5, "00" : 6, "-" : 7, "1000000" : 8, "\u00e9" : "\u0041\/", "\n" : null } `
	checkResolve(t, doc, []resolveCase{
		{"", "{\"\":{\"\":1},\"\\n\":null,\"-\":7,\"0\":5,\"00\":6,\"1000000\":8,\"a/b\":2,\"b\":[true,0],\"~\":3,\"~1\":4,\"\u00e9\":\"A/\"}", 0},
		{"/b", "[true,0]", 0}, {"/b/0", "true", 0}, {"/b/1", "0", 0},
		{"/", "{\"\":1}", 0}, {"//", "1", 0}, {"///", "", 3},
		{"/a~1b", "2", 0}, {"/a/b", "", 3}, {"/~0", "3", 0}, {"/~01", "4", 0}, {"/~1", "", 3},
		{"/0", "5", 0}, {"/00", "6", 0}, {"/000", "", 3}, {"/-", "7", 0}, {"/1000000", "8", 0},
		{"/\u00e9", "\"A/\"", 0}, {"/\\u00e9", "", 3}, {"/\xe9", "", 3}, {"/\n", "null", 0}, {"/\\n", "", 3},
		{"/B", "", 3}, {"/b ", "", 3}, {"/b/", "", 3}, {"/b/b", "", 3}, {"/b/0/0", "", 3}, {"/a~1b/", "", 3}, {"/\n/x", "", 3},
	})
}

func TestResolveIndexes(t *testing.T) {
	doc := `[10,[20,21],"abc",{"0":30,"a":31},4,5,6,7,8,9,100,110]`
	checkResolve(t, doc, []resolveCase{
		{"/0", "10", 0}, {"/1", "[20,21]", 0}, {"/1/1", "21", 0}, {"/9", "9", 0}, {"/10", "100", 0}, {"/11", "110", 0}, {"/12", "", 3}, {"/13", "", 3},
		{"/3/0", "30", 0}, {"/3/1", "", 3}, {"/3/a", "31", 0}, {"/2/0", "", 3}, {"/0/", "", 3},
		{"/", "", 3}, {"/-", "", 3}, {"/-0", "", 3}, {"/-1", "", 3}, {"/+1", "", 3}, {"/00", "", 3}, {"/01", "", 3}, {"/010", "", 3}, {"/000001", "", 3}, {"/0000001", "", 3},
		{"/1 ", "", 3}, {"/ 1", "", 3}, {"/1a", "", 3}, {"/a", "", 3}, {"/1.0", "", 3}, {"/1e0", "", 3}, {"/0x1", "", 3}, {"/1_0", "", 3}, {"/\u0661", "", 3}, {"/1\x00", "", 3}, {"/:", "", 3}, {"/1/", "", 3}, {"/\xff", "", 3},
		{"/100000", "", 3}, {"/999999", "", 3}, {"/1000000", "", 3}, {"/4294967296", "", 3}, {"/18446744073709551616", "", 3}, {"/18446744073709551617", "", 3}, {"/" + strings.Repeat("1", 100000), "", 3},
	})
	checkResolve(t, "[]", []resolveCase{{"", "[]", 0}, {"/0", "", 3}, {"/-", "", 3}, {"/", "", 3}})
	most := "[" + strings.Repeat("1,", impl.MaxValues-2) + "7]"
	checkResolve(t, most, []resolveCase{{fmt.Sprintf("/%d", impl.MaxValues-2), "7", 0}, {fmt.Sprintf("/%d", impl.MaxValues-1), "", 3}, {"/0", "1", 0}, {"/999", "1", 0}})
}

func TestResolvePlainValues(t *testing.T) {
	for _, doc := range []string{"null", "true", "false", "0", "-5", `"abc"`, `""`, "{}", "[]"} {
		checkResolve(t, doc, []resolveCase{{"", doc, 0}, {"/", "", 3}, {"/0", "", 3}, {"/a", "", 3}, {"/-", "", 3}, {"/length", "", 3}})
	}
}

func TestResolveFirstCode(t *testing.T) {
	tooLong := strings.Repeat(" ", impl.MaxText) + "1"
	for _, doc := range []string{"", "{", "[1,]", "9223372036854775808", `{"a":1,"a":2}`, nest(impl.MaxDepth+1, "[", "]", ""), tooLong, "\xff"} {
		checkResolve(t, doc, []resolveCase{{"", "", 1}, {"/a", "", 1}, {"a", "", 1}, {"/~", "", 1}})
		if ptrs, code := impl.Places(doc); len(ptrs) != 0 || code != 1 {
			t.Errorf("Places(%s) = %q, %d", short(doc), ptrs, code)
		}
	}
	checkResolve(t, `{"a":1,"~":2}`, []resolveCase{{"a", "", 2}, {"/~", "", 2}, {"/a/~", "", 2}, {"/b/~2", "", 2}, {"~", "", 2}, {"/b", "", 3}})
}

func TestPlacesOrder(t *testing.T) {
	for _, c := range []struct {
		doc  string
		want []string
	}{
		{"1", []string{""}},
		{" [] ", []string{""}},
		{"{}", []string{""}},
		{`"a"`, []string{""}},
		{"[1,[2,3],4]", []string{"", "/0", "/1", "/1/0", "/1/1", "/2"}},
		{`{"b":1,"a":{"d":[{}],"c":0}}`, []string{"", "/a", "/a/c", "/a/d", "/a/d/0", "/b"}},
		{`{"~":1,"/":{"":2},"":[[]],"\"":3,"A":4,"\u0000":5}`, []string{"", "/", "//0", "/\x00", "/\"", "/~1", "/~1/", "/A", "/~0"}},
		{`{"10":1,"9":2,"a0":4,"a":{"z":3}}`, []string{"", "/10", "/9", "/a", "/a/z", "/a0"}},
		{`{"a":{"b":1},"a!":2}`, []string{"", "/a", "/a/b", "/a!"}},
		{"[0,0,0,0,0,0,0,0,0,0,0]", []string{"", "/0", "/1", "/2", "/3", "/4", "/5", "/6", "/7", "/8", "/9", "/10"}},
	} {
		got, code := impl.Places(c.doc)
		if !slices.Equal(got, c.want) || code != 0 {
			t.Errorf("Places(%s) = %q, %d; want %q", c.doc, got, code, c.want)
		}
		checkPlaces(t, c.doc)
	}
}

// checkPlaces holds a good document against promise 4.
func checkPlaces(t *testing.T, doc string) {
	t.Helper()
	ptrs, code := impl.Places(doc)
	_, count, _ := impl.Measure(doc)
	if code != 0 || len(ptrs) != count {
		t.Fatalf("Places of %s: %d of them, code %d, the count is %d", short(doc), len(ptrs), code, count)
	}
	there := map[string]int{}
	for _, ptr := range ptrs {
		there[ptr]++
	}
	for _, ptr := range ptrs {
		value, code := impl.Resolve(doc, ptr)
		if code != 0 || there[ptr] != 1 {
			t.Errorf("Resolve(%s, %q) has code %d, it is listed %d times", short(doc), ptr, code, there[ptr])
		}
		if canon, code := impl.Canon(value); canon != value || code != 0 {
			t.Errorf("Resolve(%s, %q) = %s, its Canon %s, %d", short(doc), ptr, short(value), short(canon), code)
		}
		for _, near := range []string{ptr + "/", ptr + "/0", ptr + "/1", ptr + "/00", ptr + "/-", ptr + "/a", ptr + "/~0", ptr + "/~1", ptr + "0", ptr + "x"} {
			got, code := impl.Resolve(doc, near)
			if there[near] == 0 && (code == 0 || got != "") || there[near] != 0 && code != 0 {
				t.Errorf("Resolve(%s, %q) = %s, %d; it is listed %d times", short(doc), near, short(got), code, there[near])
			}
		}
	}
}

func TestPlacesOfMadeValues(t *testing.T) {
	m := newMaker(3)
	for range 500 {
		v := m.value(4)
		doc := m.spell(v)
		checkPlaces(t, doc)
		want := placesOf(nil, nil, v)
		got, _ := impl.Places(doc)
		if len(got) != len(want) {
			t.Fatalf("Places(%q) = %q", doc, got)
		}
		for i, w := range want {
			if text, _ := impl.Resolve(doc, w.ptr); got[i] != w.ptr || text != w.text {
				t.Fatalf("Places(%q): place %d is %q with %q; want %q with %q", doc, i, got[i], text, w.ptr, w.text)
			}
		}
	}
}

type place struct {
	ptr  string
	text string
}

// placesOf lists the places of a made value and what is there.
func placesOf(list []place, tokens []string, v any) []place {
	list = append(list, place{impl.PtrText(tokens), canonOf(v)})
	switch x := v.(type) {
	case []any:
		for i, item := range x {
			list = placesOf(list, append(slices.Clone(tokens), fmt.Sprint(i)), item)
		}
	case map[string]any:
		for _, key := range keysOf(x) {
			list = placesOf(list, append(slices.Clone(tokens), key), x[key])
		}
	}
	return list
}

func TestPlacesAtBounds(t *testing.T) {
	deepest := nest(impl.MaxDepth, "[", "]", "")
	ptrs, code := impl.Places(deepest)
	if code != 0 || len(ptrs) != impl.MaxDepth || ptrs[impl.MaxDepth-1] != strings.Repeat("/0", impl.MaxDepth-1) {
		t.Errorf("%d places, code %d", len(ptrs), code)
	}
	most := "[" + strings.Repeat("1,", impl.MaxValues-2) + "1]"
	ptrs, code = impl.Places(most)
	if code != 0 || len(ptrs) != impl.MaxValues || ptrs[impl.MaxValues-1] != fmt.Sprintf("/%d", impl.MaxValues-2) {
		t.Errorf("%d places, code %d", len(ptrs), code)
	}
	longKey := strings.Repeat("/", impl.MaxText-6)
	ptrs, code = impl.Places("{\"" + longKey + "\":1}")
	if code != 0 || len(ptrs) != 2 || ptrs[1] != "/"+strings.Repeat("~1", impl.MaxText-6) {
		t.Errorf("%d places, code %d", len(ptrs), code)
	}
	checkResolve(t, "{\""+longKey+"\":1}", []resolveCase{{ptrs[1], "1", 0}})
}
