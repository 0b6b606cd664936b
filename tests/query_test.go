package tests

import (
	"fmt"
	"slices"
	"strings"
	"testing"

	"loop.example/s04350/impl"
)

// checkQuery holds a query against promise 10 and against the pointers that it
// should find.
func checkQuery(t *testing.T, doc, path string, want ...string) {
	t.Helper()
	hits, code := impl.Query(doc, path)
	var ptrs []string
	for _, h := range hits {
		ptrs = append(ptrs, h.Ptr)
	}
	if code != 0 || !slices.Equal(ptrs, want) {
		t.Errorf("Query(%s, %s) = %q, %d; want %q", short(doc), short(path), ptrs, code, want)
	}
	checkHits(t, doc, hits)
	segs, _ := impl.ParsePath(path)
	if again, code := impl.Eval(doc, segs); code != 0 || !slices.Equal(again, hits) {
		t.Errorf("Eval of %s in %s differs from Query: %q, %d", short(path), short(doc), again, code)
	}
}

func checkHits(t *testing.T, doc string, hits []impl.Hit) {
	t.Helper()
	for _, h := range hits {
		checkResolve(t, doc, []resolveCase{{h.Ptr, h.Value, 0}})
	}
}

// checkQueryCode holds for a path without hits but with a code.
func checkQueryCode(t *testing.T, doc, path string, code int) {
	t.Helper()
	if hits, got := impl.Query(doc, path); len(hits) != 0 || got != code {
		t.Errorf("Query(%s, %s) has %d hits, code %d; want code %d", short(doc), short(path), len(hits), got, code)
	}
}

func TestQueryWhole(t *testing.T) {
	for _, doc := range []string{"null", "true", "0", "-5", `"a"`, `""`, "[]", "{}", "[1]", `{"a":{}}`} {
		if hits, code := impl.Query(doc, "$"); code != 0 || !slices.Equal(hits, []impl.Hit{{Value: doc}}) {
			t.Errorf("Query(%s, $) = %q, %d", doc, hits, code)
		}
		if hits, code := impl.Eval(doc, nil); code != 0 || !slices.Equal(hits, []impl.Hit{{Value: doc}}) {
			t.Errorf("Eval(%s) = %q, %d", doc, hits, code)
		}
	}
	spaced := ` { "b" : [ 1 , -0 ] , "a" : "\u0041" } `
	if hits, code := impl.Query(spaced, "$"); code != 0 || !slices.Equal(hits, []impl.Hit{{Value: `{"a":"A","b":[1,0]}`}}) {
		t.Errorf("%q, %d", hits, code)
	}
	if hits, code := impl.Query(spaced, "$.*"); code != 0 || !slices.Equal(hits, []impl.Hit{{Ptr: "/a", Value: `"A"`}, {Ptr: "/b", Value: "[1,0]"}}) {
		t.Errorf("%q, %d", hits, code)
	}
}

func TestQueryNames(t *testing.T) {
	doc := `{"a":{"b":1,"a/b":2,"~":3,"":{"":4}},"0":5,"-1":6,"*":7,"it's":8,"\\":9,"\u00e9":10,"ab":11,"length":12,"c":[{"a":13},[14]]}`
	checkQuery(t, doc, "$.a", "/a")
	checkQuery(t, doc, "$.a.b", "/a/b")
	checkQuery(t, doc, "$['a']['a/b']", "/a/a~1b")
	checkQuery(t, doc, "$.a['~']", "/a/~0")
	checkQuery(t, doc, "$.a['']['']", "/a//")
	checkQuery(t, doc, "$['0']", "/0")
	checkQuery(t, doc, "$['-1','*']", "/-1", "/*")
	checkQuery(t, doc, `$['it\'s','\\']`, "/it's", "/\\")
	checkQuery(t, doc, "$['\u00e9']", "/\u00e9")
	checkQuery(t, doc, "$.length", "/length")
	checkQuery(t, doc, "$['ab','a','ab','x','a']", "/ab", "/a", "/ab", "/a")
	for _, path := range []string{"$.b", "$.A", "$['a ']", "$['\xe9']", "$['\xc3']", "$['a/b']", "$[0]", "$[-1]", "$[0:]", "$[:]", "$.a.b.c", "$.a.b['0']", "$.c['0']", "$.c['-1']", "$.c.length", "$.c.a", "$.c['']", "$.c[1]['0']", "$['*'].*"} {
		checkQuery(t, doc, path)
	}
	checkQuery(t, doc, "$.c.*.a", "/c/0/a")
	checkQuery(t, doc, "$.*.*.*", "/a//", "/c/0/a", "/c/1/0")
	for _, doc := range []string{"1", `"abc"`, "null", "true", "[]", "{}"} {
		for _, path := range []string{"$.a", "$['']", "$.*", "$[0]", "$[-1]", "$[:]", "$[::-1]", "$[?@]", "$..*", "$..a", "$..[0]", "$..[?@]", "$[?1==1]"} {
			checkQuery(t, doc, path)
		}
	}
}

func TestQueryOrder(t *testing.T) {
	doc := `{"b":[3,1,2],"a":{"d":1,"c":[]},"a!":0,"B":null,"10":1,"9":2,"\u00e9":3,"~":4,"/":5}`
	checkQuery(t, doc, "$.*", "/~1", "/10", "/9", "/B", "/a", "/a!", "/b", "/~0", "/\u00e9")
	checkQuery(t, doc, "$[?1==1]", "/~1", "/10", "/9", "/B", "/a", "/a!", "/b", "/~0", "/\u00e9")
	checkQuery(t, doc, "$.b.*", "/b/0", "/b/1", "/b/2")
	checkQuery(t, doc, "$.b[*,0,*]", "/b/0", "/b/1", "/b/2", "/b/0", "/b/0", "/b/1", "/b/2")
	checkQuery(t, doc, "$['b','a'].*", "/b/0", "/b/1", "/b/2", "/a/c", "/a/d")
	checkQuery(t, doc, "$['b','b'][0,1]", "/b/0", "/b/1", "/b/0", "/b/1")
	checkQuery(t, doc, "$.b[2,0:2,?@>1]", "/b/2", "/b/0", "/b/1", "/b/0", "/b/2")
	long := "[0,1,2,3,4,5,6,7,8,9,10,11]"
	checkQuery(t, long, "$.*", "/0", "/1", "/2", "/3", "/4", "/5", "/6", "/7", "/8", "/9", "/10", "/11")
}

func TestQueryDeep(t *testing.T) {
	doc := `{"a":[{"a":1,"b":[2,3]},4],"b":{"a":{"a":5}},"c":"a"}`
	checkQuery(t, doc, "$..a", "/a", "/a/0/a", "/b/a", "/b/a/a")
	checkQuery(t, doc, "$..*", "/a", "/b", "/c", "/a/0", "/a/1", "/a/0/a", "/a/0/b", "/a/0/b/0", "/a/0/b/1", "/b/a", "/b/a/a")
	checkQuery(t, doc, "$..[0]", "/a/0", "/a/0/b/0")
	checkQuery(t, doc, "$..[-1]", "/a/1", "/a/0/b/1")
	checkQuery(t, doc, "$..[::-1]", "/a/1", "/a/0", "/a/0/b/1", "/a/0/b/0")
	checkQuery(t, doc, "$..['b','a']", "/b", "/a", "/a/0/b", "/a/0/a", "/b/a", "/b/a/a")
	checkQuery(t, doc, "$..[*,0]", "/a", "/b", "/c", "/a/0", "/a/1", "/a/0", "/a/0/a", "/a/0/b", "/a/0/b/0", "/a/0/b/1", "/a/0/b/0", "/b/a", "/b/a/a")
	checkQuery(t, doc, "$..[?@.a]", "/b", "/a/0", "/b/a")
	checkQuery(t, doc, "$.b..a", "/b/a", "/b/a/a")
	checkQuery(t, doc, "$.c..a")
	checkQuery(t, doc, "$..a..a", "/a/0/a", "/b/a/a")
	checkQuery(t, doc, "$.*..a", "/a/0/a", "/b/a", "/b/a/a")
	checkQuery(t, doc, "$['b','b']..a", "/b/a", "/b/a/a", "/b/a", "/b/a/a")
	checkQuery(t, doc, "$..a..*", "/a/0", "/a/1", "/a/0/a", "/a/0/b", "/a/0/b/0", "/a/0/b/1", "/b/a/a")
	deepest := nest(impl.MaxDepth-1, "[", "]", "7")
	checkQuery(t, deepest, "$"+strings.Repeat("[0]", impl.MaxDepth-1), strings.Repeat("/0", impl.MaxDepth-1))
	checkQuery(t, deepest, "$..[?@==7]", strings.Repeat("/0", impl.MaxDepth-1))
	checkHitCount(t, deepest, "$..*", impl.MaxDepth-1)
}

// TestQueryDeepIsPlaces holds the places that `..` visits against Places.
func TestQueryDeepIsPlaces(t *testing.T) {
	m := newMaker(23)
	for range 300 {
		doc := canonOf([]any{m.value(5)})
		ptrs, _ := impl.Places(doc)
		var want []string
		for _, ptr := range ptrs {
			if text, _ := impl.Resolve(doc, ptr); strings.HasPrefix(text, "[") && text != "[]" {
				want = append(want, ptr+"/0")
			}
		}
		checkQuery(t, doc, "$..[0]", want...)
	}
}

func TestQueryIndexes(t *testing.T) {
	doc := `[10,11,[20,21,22],"abc",{"0":1,"-1":2}]`
	for path, want := range map[string]string{
		"$[0]": "/0", "$[4]": "/4", "$[5]": "", "$[6]": "", "$[-1]": "/4", "$[-5]": "/0", "$[-6]": "", "$[-4]": "/1", "$[999999999]": "", "$[-999999999]": "",
		"$[2][0]": "/2/0", "$[2][-1]": "/2/2", "$[2][-3]": "/2/0", "$[2][-4]": "", "$[2][3]": "",
		"$[3][0]": "", "$[3][-1]": "", "$[4][0]": "", "$[4][-1]": "", "$[4]['0']": "/4/0", "$[0][0]": "",
	} {
		if want == "" {
			checkQuery(t, doc, path)
			continue
		}
		checkQuery(t, doc, path, want)
	}
	checkQuery(t, doc, "$[4,-1,5,0,-5]", "/4", "/4", "/0", "/0")
	checkQuery(t, "[]", "$[0,-1,1]")
}

func TestQuerySlices(t *testing.T) {
	doc := "[0,1,2,3,4]"
	for path, want := range map[string]string{
		"$[:]": "01234", "$[::]": "01234", "$[::1]": "01234", "$[0:]": "01234", "$[:5]": "01234", "$[0:5:1]": "01234",
		"$[1:]": "1234", "$[4:]": "4", "$[5:]": "", "$[6:]": "", "$[999999999:]": "", "$[-1:]": "4", "$[-5:]": "01234", "$[-6:]": "01234", "$[-999999999:]": "01234",
		"$[:0]": "", "$[:1]": "0", "$[:4]": "0123", "$[:6]": "01234", "$[:999999999]": "01234", "$[:-1]": "0123", "$[:-4]": "0", "$[:-5]": "", "$[:-6]": "", "$[:-999999999]": "",
		"$[1:3]": "12", "$[3:1]": "", "$[2:2]": "", "$[-3:-1]": "23", "$[-1:-3]": "", "$[1:-1]": "123", "$[-4:4]": "123", "$[-9:9]": "01234", "$[-9:-8]": "", "$[8:9]": "",
		"$[::2]": "024", "$[1::2]": "13", "$[::3]": "03", "$[::4]": "04", "$[::5]": "0", "$[::999999999]": "0", "$[4::999999999]": "4", "$[1:4:2]": "13", "$[1:5:2]": "13", "$[-7::2]": "024",
		"$[::0]": "", "$[0:5:0]": "", "$[4:0:0]": "", "$[:2:0]": "", "$[-1::0]": "",
		"$[::-1]": "43210", "$[4::-1]": "43210", "$[5::-1]": "43210", "$[999999999::-1]": "43210", "$[3::-1]": "3210", "$[0::-1]": "0", "$[-1::-1]": "43210", "$[-2::-1]": "3210", "$[-5::-1]": "0", "$[-6::-1]": "", "$[-999999999::-1]": "",
		"$[:0:-1]": "4321", "$[:3:-1]": "4", "$[:4:-1]": "", "$[:9:-1]": "", "$[:-1:-1]": "", "$[:-2:-1]": "4", "$[:-5:-1]": "4321", "$[:-6:-1]": "43210", "$[:-7:-1]": "43210", "$[:-999999999:-1]": "43210",
		"$[3:1:-1]": "32", "$[1:3:-1]": "", "$[2:0:-1]": "21", "$[-1:-3:-1]": "43", "$[9:-9:-1]": "43210", "$[-9:9:-1]": "", "$[4:-6:-1]": "43210", "$[2:2:-1]": "",
		"$[::-2]": "420", "$[3::-2]": "31", "$[::-3]": "41", "$[::-4]": "40", "$[::-5]": "4", "$[::-999999999]": "4", "$[9::-2]": "420", "$[0::-999999999]": "0", "$[:0:-2]": "42",
	} {
		var ptrs []string
		for _, digit := range want {
			ptrs = append(ptrs, "/"+string(digit))
		}
		checkQuery(t, doc, path, ptrs...)
	}
	for _, path := range []string{"$[:]", "$[::-1]", "$[0:1]", "$[-1:1]", "$[5:-5:-1]", "$[::2]", "$[-1:-1:-1]", "$[:-1:-1]"} {
		checkQuery(t, "[]", path)
	}
	checkQuery(t, "[7]", "$[::-1,:,-1:,:-1,0:1,-1::-1]", "/0", "/0", "/0", "/0", "/0")
	checkQuery(t, `{"0":1,"1":2}`, "$[:,::-1,0:2]")
	checkQuery(t, `"abc"`, "$[:,::-1]")
}

// TestSlicesAllBounds goes through all bounds and steps around short arrays.
func TestSlicesAllBounds(t *testing.T) {
	bounds := []any{nil}
	for i := -7; i <= 7; i++ {
		bounds = append(bounds, i)
	}
	for n := range 5 {
		list := make([]any, n)
		for i := range list {
			list[i] = int64(i)
		}
		doc := canonOf(list)
		for _, a := range bounds {
			for _, b := range bounds {
				for _, c := range bounds {
					checkModelPath(t, list, doc, path(seg(slice(a, b, c))))
				}
			}
		}
	}
}

// checkModelPath says how many hits there are, and the code.
func checkModelPath(t *testing.T, v any, doc string, segs []impl.Seg) (int, int) {
	t.Helper()
	hits, code := impl.Eval(doc, segs)
	want, wantCode := modelEval(v, segs)
	if !slices.Equal(hits, want) || code != wantCode {
		text, _ := impl.PathText(segs)
		t.Fatalf("Eval(%s, %s) = %q, %d; want %q, %d", doc, text, hits, code, want, wantCode)
	}
	return len(hits), code
}

func TestQueryFilters(t *testing.T) {
	doc := `{"a":{"x":1,"y":"b"},"b":{"x":2,"y":null},"c":{"x":null},"d":[1,2],"e":[],"f":5,"g":"b","h":false,"i":{}}`
	checkQuery(t, doc, "$[?@.x]", "/a", "/b", "/c")
	checkQuery(t, doc, "$[?!@.x]", "/d", "/e", "/f", "/g", "/h", "/i")
	checkQuery(t, doc, "$[?@['x']]", "/a", "/b", "/c")
	checkQuery(t, doc, "$[?@[0]]", "/d")
	checkQuery(t, doc, "$[?@[-2]]", "/d")
	checkQuery(t, doc, "$[?@[-3]]")
	checkQuery(t, doc, "$[?@[2]]")
	checkQuery(t, doc, "$[?@['0']]")
	checkQuery(t, doc, "$[?@.length]")
	checkQuery(t, doc, "$[?@]", "/a", "/b", "/c", "/d", "/e", "/f", "/g", "/h", "/i")
	checkQuery(t, doc, "$[?$]", "/a", "/b", "/c", "/d", "/e", "/f", "/g", "/h", "/i")
	checkQuery(t, doc, "$[?$.x]")
	checkQuery(t, doc, "$[?$.a.x==@.x]", "/a")
	checkQuery(t, doc, "$[?@==$.g||@.y==$.g]", "/a", "/g")
	checkQuery(t, doc, "$[?@.x==1]", "/a")
	checkQuery(t, doc, "$[?@.x!=1]", "/b", "/c", "/d", "/e", "/f", "/g", "/h", "/i")
	checkQuery(t, doc, "$[?@.x>1]", "/b")
	checkQuery(t, doc, "$[?@.x&&@.y]", "/a", "/b")
	checkQuery(t, doc, "$[?@.x&&!@.y]", "/c")
	checkQuery(t, doc, "$[?@.y==null]", "/b")
	checkQuery(t, doc, "$[?@.x==null]", "/c")
	checkQuery(t, doc, "$[?@==false]", "/h")
	checkQuery(t, doc, "$[?@==true]")
	checkQuery(t, doc, "$[?@.z||@==5]", "/f")
	checkQuery(t, doc, "$[?@.x==1||@.x==2&&@.y==1]", "/a")
	checkQuery(t, doc, "$[?(@.x==1||@.x==2)&&@.y=='b']", "/a")
	checkQuery(t, doc, "$.d[?@>1]", "/d/1")
	checkQuery(t, doc, "$.d[?@==$.d[0],?@==$.d[-1]]", "/d/0", "/d/1")
	checkQuery(t, doc, "$.a[?@=='b']", "/a/y")
	checkQuery(t, doc, "$.f[?@]")
	checkQuery(t, doc, "$.*[?@==1]", "/a/x", "/d/0")
	checkQuery(t, doc, "$[?1==1&&'a'<'b'&&!null<null]", "/a", "/b", "/c", "/d", "/e", "/f", "/g", "/h", "/i")
}

// TestQueryCompares holds each sign against each pair of operands.
func TestQueryCompares(t *testing.T) {
	doc := `{"v":{"n":1,"m":2,"s":"a","u":"b","t":true,"f":false,"z":null,"e":[],"a":[1,{"x":2,"y":[]}],"b":[1,{"y":[],"x":2}],"c":[1,{"x":2,"y":{}}],"o":{},"p":{"k":1}}}`
	equal := map[[2]string]bool{{"1", "@.n"}: true, {"'a'", "@.s"}: true, {"true", "@.t"}: true, {"false", "@.f"}: true, {"null", "@.z"}: true, {"@.a", "@.b"}: true, {"@.q", "@.r"}: true, {"length(@.n)", "@.q"}: true, {"length(@.n)", "@.r"}: true, {"length(@.p)", "@.n"}: true, {"length(@.p)", "1"}: true, {"length(@.a)", "@.m"}: true, {"length(@.s)", "@.n"}: true, {"length(@.s)", "1"}: true, {"length(@.s)", "length(@.p)"}: true}
	less := map[[2]string]bool{{"'a'", "@.u"}: true, {"@.s", "@.u"}: true}
	small, great := []string{"1", "@.n", "length(@.p)", "length(@.s)"}, []string{"@.m", "length(@.a)"}
	for _, a := range small {
		for _, b := range great {
			less[[2]string{a, b}] = true
		}
	}
	operands := []string{"1", "'a'", "true", "false", "null", "@.n", "@.m", "@.s", "@.u", "@.t", "@.f", "@.z", "@.e", "@.a", "@.b", "@.c", "@.o", "@.p", "@.q", "@.r", "length(@.n)", "length(@.p)", "length(@.a)", "length(@.s)"}
	for _, a := range operands {
		for _, b := range operands {
			isEqual := a == b || equal[[2]string{a, b}] || equal[[2]string{b, a}]
			isLess, isGreater := less[[2]string{a, b}], less[[2]string{b, a}]
			for sign, holds := range map[string]bool{"==": isEqual, "!=": !isEqual, "<": isLess, "<=": isLess || isEqual, ">": isGreater, ">=": isGreater || isEqual} {
				if path := "$[?" + a + sign + b + "]"; holds {
					checkQuery(t, doc, path, "/v")
				} else {
					checkQuery(t, doc, path)
				}
			}
		}
	}
}

func TestQueryComparesNumbersAndStrings(t *testing.T) {
	numbers := `[-9223372036854775808,-10,-9,0,9,10,9223372036854775807]`
	checkQuery(t, numbers, "$[?@<9]", "/0", "/1", "/2", "/3")
	checkQuery(t, numbers, "$[?@<=-9]", "/0", "/1", "/2")
	checkQuery(t, numbers, "$[?@>9]", "/5", "/6")
	checkQuery(t, numbers, "$[?@>=-999999999]", "/1", "/2", "/3", "/4", "/5", "/6")
	checkQuery(t, numbers, "$[?@>$[5]]", "/6")
	checkQuery(t, numbers, "$[?@==0]", "/3")
	checkQuery(t, numbers, "$[?@<'a'||@>'a']")
	words := `["","A","a","aa","ab","b","\u00e9","\uffff","\ud800\udc00","10","9"]`
	checkQuery(t, words, "$[?@<'a']", "/0", "/1", "/9", "/10")
	checkQuery(t, words, "$[?@>'aa']", "/4", "/5", "/6", "/7", "/8")
	checkQuery(t, words, "$[?@<='']", "/0")
	checkQuery(t, words, "$[?@>$[7]]", "/8")
	checkQuery(t, words, "$[?@>'b'&&@<'\xc4']", "/6")
	checkQuery(t, words, "$[?@>'\xf0']", "/8")
	checkQuery(t, words, "$[?@<'\xff'&&@>'\xef']", "/7", "/8")
	checkQuery(t, words, "$[?@<9||@>9]")
	checkQuery(t, `["\ufffd"]`, "$[?@=='\ufffd']", "/0")
	checkQuery(t, `["\ufffd"]`, "$[?@=='\xff'||'\xff'=='\ufffd'||'\xff'=='\xfe']")
	checkQuery(t, `["\ufffd"]`, "$[?'\xff'=='\xff'&&'\xfe'<'\xff']", "/0")
}

func TestQueryLength(t *testing.T) {
	doc := `["","a","\u00e9","\u20ac\u20ac","\ud83d\ude00a","abc","\u0000\n",[],[1],[[1,2]],{},{"a":1,"b":[1,2,3]},0,12,null,true,false]`
	checkQuery(t, doc, "$[?length(@)==0]", "/0", "/7", "/10")
	checkQuery(t, doc, "$[?length(@)==1]", "/1", "/2", "/8", "/9")
	checkQuery(t, doc, "$[?length(@)==2]", "/3", "/4", "/6", "/11")
	checkQuery(t, doc, "$[?length(@)==3]", "/5")
	checkQuery(t, doc, "$[?length(@)==length(@.nothing)]", "/12", "/13", "/14", "/15", "/16")
	checkQuery(t, doc, "$[?length(@)==@.nothing]", "/12", "/13", "/14", "/15", "/16")
	checkQuery(t, doc, "$[?length(@)<0||length(@)>99||length(@)==null]")
	checkQuery(t, doc, "$[?length($)==17&&@==0]", "/12")
	checkQuery(t, doc, "$[?length(@.b)==3]", "/11")
	checkQuery(t, doc, "$[?length(@[0])==2]", "/9")
	checkQuery(t, doc, "$[?length(@)>=2]", "/3", "/4", "/5", "/6", "/11")
	checkQuery(t, doc, "$[?length(@)!=length(@)]")
}

func TestQueryMissing(t *testing.T) {
	doc := `[{"a":null},{},[],0,"a"]`
	checkQuery(t, doc, "$[?@.a]", "/0")
	checkQuery(t, doc, "$[?@.a==null]", "/0")
	checkQuery(t, doc, "$[?@.a==@.b]", "/1", "/2", "/3", "/4")
	checkQuery(t, doc, "$[?@.a!=@.b]", "/0")
	checkQuery(t, doc, "$[?@.a<=@.b]", "/1", "/2", "/3", "/4")
	checkQuery(t, doc, "$[?@.a>=@.b]", "/1", "/2", "/3", "/4")
	checkQuery(t, doc, "$[?@.a<@.b||@.a>@.b]")
	checkQuery(t, doc, "$[?@.a.b.c==@[0][1]]", "/0", "/1", "/2", "/3", "/4")
	checkQuery(t, doc, "$[?@.a!=0]", "/0", "/1", "/2", "/3", "/4")
	checkQuery(t, doc, "$[?@.a<0||@.a>0||@.a==0]")
	checkQuery(t, doc, "$[?@.a<=null]", "/0")
	checkQuery(t, doc, "$[?$.a||$[9]||$['0']]")
	empty := `[{"":1,"0":2},["x"]]`
	checkQuery(t, empty, "$[?@['']]", "/0")
	checkQuery(t, empty, "$[?@['0']==2]", "/0")
	checkQuery(t, empty, "$[?@[0]]", "/1")
	checkQuery(t, empty, "$[?@[-1]]", "/1")
	checkQuery(t, doc, "$[?$[0].a==@.a]", "/0")
}

// lists is an array of empty arrays.
func lists(count int) string {
	return "[" + strings.TrimSuffix(strings.Repeat("[],", count), ",") + "]"
}

func checkHitCount(t *testing.T, doc, path string, want int) {
	t.Helper()
	if hits, code := impl.Query(doc, path); len(hits) != want || code != 0 {
		t.Errorf("Query(%s, %s) has %d hits, code %d; want %d", short(doc), short(path), len(hits), code, want)
	}
}

func TestQueryMaxHits(t *testing.T) {
	half := lists(impl.MaxHits / 2)
	for _, path := range []string{"$[*,1:]", "$[?@,:-1]"} {
		checkHitCount(t, half, path, impl.MaxHits-1)
	}
	for _, path := range []string{"$[*,*]", "$[:,::-1]", "$[?@,*]", "$..[*,*]", "$[*,1:,0]"} {
		checkHitCount(t, half, path, impl.MaxHits)
	}
	for _, path := range []string{"$[*,*,0]", "$[0,*,*]", "$[*,:,-1]", "$[*,*,0][0]", "$[*,*,0][?@.x]", "$[*,*,*]..x", "$..[*,?@,0]"} {
		checkQueryCode(t, half, path, 3)
	}
}

// TestQueryMaxHitsOfOne has one selector give all hits.
func TestQueryMaxHitsOfOne(t *testing.T) {
	for _, path := range []string{"$.*", "$[:]", "$[::-1]", "$[?@]", "$..*", "$..[?@==0]"} {
		most := "[" + strings.Repeat("0,", impl.MaxHits-1) + "0]"
		checkHitCount(t, most, path, impl.MaxHits)
		checkQueryCode(t, "["+strings.Repeat("0,", impl.MaxHits)+"0]", path, 3)
	}
}

// TestQueryMaxHitsLater has the lists in front and behind of a long one short.
func TestQueryMaxHitsLater(t *testing.T) {
	doc := lists(100)
	zeros := "0" + strings.Repeat(",0", 19)
	checkHitCount(t, "["+doc+"]", "$["+zeros+"].*", impl.MaxHits)
	checkHitCount(t, "["+doc+"]", "$["+zeros+"].*.*", 0)
	checkQueryCode(t, "["+doc+"]", "$["+zeros+",0].*", 3)
	checkQueryCode(t, "["+doc+"]", "$["+zeros+",0].*.*", 3)
	checkQueryCode(t, "["+doc+"]", "$["+zeros+",0].*.x.y", 3)
	checkQuery(t, "["+doc+"]", "$.x["+zeros+",0].*")
}

func TestQueryFirstCode(t *testing.T) {
	tooDeep := "$[?" + nest(impl.MaxNest+1, "(", ")", "@") + "]"
	tooMany := "$[*,*,0]"
	for _, doc := range []string{"", "x", "[1,]", "9223372036854775808", `{"a":1,"a":2}`, nest(impl.MaxDepth+1, "[", "]", ""), flat(impl.MaxValues + 1), wide(impl.MaxText + 1), "\xff"} {
		for _, path := range []string{"$", "$.a", "", "x", tooDeep, tooMany, strings.Repeat("$", impl.MaxPath+1)} {
			checkQueryCode(t, doc, path, 1)
		}
		if hits, code := impl.Eval(doc, nil); len(hits) != 0 || code != 1 {
			t.Errorf("Eval(%s) has %d hits, code %d", short(doc), len(hits), code)
		}
	}
	doc := lists(impl.MaxHits / 2)
	for _, path := range []string{"", "x", "$.", "$[*,*,0", tooMany + ".", tooDeep, tooMany + tooDeep[1:], "$" + strings.Repeat(".a", impl.MaxPath/2)} {
		checkQueryCode(t, doc, path, 2)
	}
	checkQueryCode(t, doc, tooMany, 3)
	wrong := path(seg(all(), all(), index(0)), seg())
	if hits, code := impl.Eval(doc, wrong); len(hits) != 0 || code != 2 {
		t.Errorf("Eval has %d hits, code %d", len(hits), code)
	}
	if hits, code := impl.Eval(doc, wrong[:1]); len(hits) != 0 || code != 3 {
		t.Errorf("Eval has %d hits, code %d", len(hits), code)
	}
}

// TestEvalMoreThanAPath has segments that no path of MaxPath bytes stands for.
func TestEvalMoreThanAPath(t *testing.T) {
	long := strings.Repeat("k", impl.MaxPath)
	doc := `{"` + long + `":[1]}`
	for _, segs := range [][]impl.Seg{
		path(seg(name(long)), seg(index(0))),
		path(seg(filter(append([]impl.FOp{exists()}, slices.Repeat([]impl.FOp{plain(impl.FNot)}, impl.MaxPath-2)...)...)), seg(all())),
		path(seg(filter(ref(impl.FValue, "$", long, 0), number(1), compare(1))), seg(all())),
	} {
		if hits, code := impl.Eval(doc, segs); code != 0 || !slices.Equal(hits, []impl.Hit{{Ptr: "/" + long + "/0", Value: "1"}}) {
			t.Errorf("%q, %d", hits, code)
		}
	}
	deepest := nest(impl.MaxDepth-1, "[", "]", "7")
	if hits, code := impl.Eval(deepest, slices.Repeat(path(seg(index(0))), impl.MaxPath)); len(hits) != 0 || code != 0 {
		t.Errorf("%d hits, code %d", len(hits), code)
	}
	steps := slices.Repeat([]any{0}, impl.MaxDepth-2)
	if hits, code := impl.Eval(deepest, path(seg(filter(here(steps...), number(7), compare(1))))); len(hits) != 1 || code != 0 {
		t.Errorf("%d hits, code %d", len(hits), code)
	}
}

func TestQueriesOfMadeValues(t *testing.T) {
	m := newMaker(24)
	some := 0
	for range 8000 {
		v := m.searched()
		segs, text, _ := m.path(v)
		doc := m.spell(v)
		hits, _ := checkModelPath(t, v, doc, segs)
		if hits > 0 {
			some++
		}
		got, code := impl.Query(doc, text)
		if want, wantCode := modelEval(v, segs); !slices.Equal(got, want) || code != wantCode {
			t.Fatalf("Query(%s, %s) = %q, %d; want %q, %d", doc, text, got, code, want, wantCode)
		}
		checkHits(t, doc, got)
	}
	if some < 2000 {
		t.Errorf("only %d queries have hits", some)
	}
}

// searched makes a value in which plain names and small numbers are found often.
func (m maker) searched() any {
	names := []string{"a", "b", "_", "a1", "length", "true"}
	var grow func(depth int) any
	grow = func(depth int) any {
		switch kind := m.Intn(5); {
		case depth == 0 || kind == 0:
			return []any{int64(m.Intn(4)), int64(m.Intn(4)), "a", "b", "", nil, true, false, m.value(1)}[m.Intn(9)]
		case kind < 3:
			list := []any{}
			for range m.Intn(5) {
				list = append(list, grow(depth-1))
			}
			return list
		}
		members := map[string]any{}
		for range 1 + m.Intn(4) {
			members[names[m.Intn(len(names))]] = grow(depth - 1)
		}
		return members
	}
	return grow(3)
}

// TestQueriesNearMaxHits has made paths with many hits.
func TestQueriesNearMaxHits(t *testing.T) {
	m := newMaker(25)
	codes := map[int]int{}
	for range 150 {
		list := make([]any, 3+m.Intn(25))
		for i := range list {
			list[i] = []any{int64(i), m.searched(), []any{[]any{}, m.searched()}}
		}
		_, code := checkModelPath(t, list, canonOf(list), path(seg(all(), slice(nil, nil, m.Intn(3)-1)), deep(all(), index(0)), deep(all(), name("a"))))
		codes[code]++
	}
	if codes[0] < 20 || codes[3] < 20 {
		t.Errorf("codes %v", codes)
	}
}

func TestEvalNewMemory(t *testing.T) {
	doc := `{"a":[1,2],"b":[1,2]}`
	segs, _ := impl.ParsePath("$[?@[0]==1&&length(@)==2,'a'][*,0:1]")
	before := copyOf(segs)
	first, _ := impl.Eval(doc, segs)
	want := fmt.Sprint(first)
	for i := range first {
		first[i] = impl.Hit{Ptr: "x"}
	}
	second, _ := impl.Eval(doc, segs)
	if fmt.Sprint(second) != want || !sameSegs(segs, before) {
		t.Errorf("%q, then %q; the segments are %s", want, second, toldPath(segs))
	}
}
