package tests

import (
	"encoding/json"
	"fmt"
	"strings"
	"testing"

	"loop.example/s04350/impl"
)

// canonCase is a text with what Canon answers to it.
type canonCase struct {
	text string
	want string
	code int
}

func checkCanon(t *testing.T, cases []canonCase) {
	t.Helper()
	for _, c := range cases {
		got, code := impl.Canon(c.text)
		if got != c.want || code != c.code {
			t.Errorf("Canon(%s) = %s, %d; want %s, %d", short(c.text), short(got), code, short(c.want), c.code)
		}
		checkGood(t, c.text)
	}
}

// checkGood holds a text against what promise 1 says of every text.
func checkGood(t *testing.T, text string) {
	t.Helper()
	got, code := impl.Canon(text)
	depth, count, measured := impl.Measure(text)
	if measured != code {
		t.Errorf("%s: Canon has code %d, Measure %d", short(text), code, measured)
	}
	if code != 0 {
		if got != "" || depth != 0 || count != 0 {
			t.Errorf("%s: code %d beside %s, %d, %d", short(text), code, short(got), depth, count)
		}
		return
	}
	again, code := impl.Canon(got)
	if again != got || code != 0 {
		t.Errorf("%s: Canon of %s is %s, %d", short(text), short(got), short(again), code)
	}
	if len(got) > len(text) {
		t.Errorf("%s: the canonical text %s is longer", short(text), short(got))
	}
	if d, n, c := impl.Measure(got); d != depth || n != count || c != 0 {
		t.Errorf("%s: measures %d, %d; its canonical text %d, %d, %d", short(text), depth, count, d, n, c)
	}
}

func short(s string) string {
	if len(s) > 80 {
		return fmt.Sprintf("%q.. (%d bytes)", s[:80], len(s))
	}
	return fmt.Sprintf("%q", s)
}

// bad gives each text the code 2.
func bad(texts ...string) []canonCase {
	var cases []canonCase
	for _, text := range texts {
		cases = append(cases, canonCase{text, "", 2})
	}
	return cases
}

// same gives each text itself as its canonical text.
func same(texts ...string) []canonCase {
	var cases []canonCase
	for _, text := range texts {
		cases = append(cases, canonCase{text, text, 0})
	}
	return cases
}

func TestCanonWords(t *testing.T) {
	checkCanon(t, same("null", "true", "false", "[null,true,false]"))
	checkCanon(t, bad("n", "nul", "nulll", "Null", "NULL", "tru", "true1", "True", "falsee", "fals", "truefalse", "undefined", "\x00", "null\x00"))
}

func TestCanonNumbers(t *testing.T) {
	checkCanon(t, same("0", "1", "-1", "10", "9", "-90", "1234567890", "9223372036854775807", "-9223372036854775808", "9223372036854775806", "-9223372036854775807"))
	checkCanon(t, []canonCase{
		{"-0", "0", 0},
		{"[-0,0]", "[0,0]", 0},
		{"9223372036854775808", "", 3},
		{"-9223372036854775809", "", 3},
		{"18446744073709551616", "", 3},
		{"18446744073709551617", "", 3},
		{"[0,{\"a\":[99999999999999999999]}]", "", 3},
		{strings.Repeat("9", impl.MaxText), "", 3},
		{"-" + strings.Repeat("1", impl.MaxText-1), "", 3},
	})
	checkCanon(t, bad("-", "--1", "+1", "+0", "00", "01", "-01", "-00", "1.", "1.0", ".5", "1e3", "1E3", "0e0", "0x10", "1_000", "1 0", "- 1", "0-", "1-", "1a", "a1", "Infinity", "NaN", "\u0661"))
}

func TestCanonBlanks(t *testing.T) {
	checkCanon(t, []canonCase{
		{" \t\r\n1\n\r\t ", "1", 0},
		{" [ ] ", "[]", 0},
		{"\n{\t}\r", "{}", 0},
		{" [ 1 , 2 , [ ] ] ", "[1,2,[]]", 0},
		{" { \"b\" : 1 , \"a\" : { } } ", "{\"a\":{},\"b\":1}", 0},
		{"\t{\r\"a\"\n:\t[\rnull\n]\t}\n", "{\"a\":[null]}", 0},
		{"\" \"", "\" \"", 0},
	})
	for _, blank := range []string{"\x0b", "\x0c", "\x00", "\x1f", "\x7f", "\u00a0", "\u0085", "\u2028", "\ufeff", "/**/", "//\n"} {
		checkCanon(t, bad(blank, blank+"1", "1"+blank, "["+blank+"1]", "[1"+blank+"]", "{\"a\""+blank+":1}"))
	}
	checkCanon(t, bad("", " ", "\n", "nu ll", "1 1", "[1 2]", "\"a\" \"b\"", "{\"a\" 1}"))
}

func TestCanonForm(t *testing.T) {
	checkCanon(t, []canonCase{
		{"[1,[2,[3]],{}]", "[1,[2,[3]],{}]", 0},
		{"{\"a\":{\"a\":{\"a\":1}}}", "{\"a\":{\"a\":{\"a\":1}}}", 0},
		{"[{\"a\":1},{\"a\":1}]", "[{\"a\":1},{\"a\":1}]", 0},
		{"{\"c\":3,\"a\":[3,2,1],\"b\":\"x\"}", "{\"a\":[3,2,1],\"b\":\"x\",\"c\":3}", 0},
	})
	checkCanon(t, bad("[", "]", "{", "}", "[]]", "[[]", "{}}", "[}", "{]", "[,]", "[1,]", "[,1]", "[1,,2]", "[1", "[1,", "[1;2]", ",", ":", "1,",
		"{\"a\"}", "{\"a\":}", "{\"a\":1,}", "{,}", "{,\"a\":1}", "{\"a\":1\"b\":2}", "{\"a\":1,,\"b\":2}", "{\"a\"::1}", "{\"a\",1}", "{\"a\":1", "{\"a\":", "{\"a\"", "{\"a", "{\"a\":1,",
		"{a:1}", "{1:1}", "{null:1}", "{[]:1}", "{'a':1}", "{\"a\":1]", "[\"a\":1]", "[1}"))
}

func TestCanonStrings(t *testing.T) {
	checkCanon(t, []canonCase{
		{`"\"\\\/\b\f\n\r\t"`, `"\"\\/\b\f\n\r\t"`, 0},
		{`"\u0022\u005c\u005C\u002f\u0008\u000c\u000a\u000d\u0009"`, `"\"\\\\/\b\f\n\r\t"`, 0},
		{`"\u0041\u00e9\u00E9\u20ac\u20AC"`, "\"A\u00e9\u00e9\u20ac\u20ac\"", 0},
		{`"\u007f\u0080\u07ff\u0800\uffff\ufffd"`, "\"\x7f\u0080\u07ff\u0800\uffff\ufffd\"", 0},
		{`"\uD7FF\uE000"`, "\"\ud7ff\ue000\"", 0},
		{`"\uabcd\uABCD\uaBcD"`, "\"\uabcd\uabcd\uabcd\"", 0},
	})
	for c := range 256 {
		text := "\"" + string([]byte{byte(c)}) + "\""
		if c < 32 || c > 127 || c == '"' || c == '\\' {
			checkCanon(t, bad(text))
		} else {
			checkCanon(t, same(text))
		}
		if !strings.ContainsRune(`"\/bfnrtu`, rune(c)) {
			checkCanon(t, bad("\"\\"+string([]byte{byte(c)})+"\""))
		}
	}
	checkCanon(t, bad(`"`, `"a`, `"\`, `"\"`, `"\u`, `"\u"`, `"\u1"`, `"\u12"`, `"\u123"`, `"\u123`, `"\u123g"`, `"\u 123"`, `"\U0041"`, `"\u-041"`, `"\u+041"`, `"\u{41}"`, `"\u004`, `"\0"`, `"\x41"`, `"\v"`, `"\'"`, `'a'`, `"a"b"`, `a"`))
}

func TestCanonControlBytes(t *testing.T) {
	named := map[int]string{8: `\b`, 9: `\t`, 10: `\n`, 12: `\f`, 13: `\r`}
	for c := range 32 {
		want := named[c]
		if want == "" {
			want = fmt.Sprintf(`\u%04x`, c)
		}
		checkCanon(t, []canonCase{
			{fmt.Sprintf(`"\u%04x"`, c), `"` + want + `"`, 0},
			{fmt.Sprintf(`"\u%04X"`, c), `"` + want + `"`, 0},
			{fmt.Sprintf(`{"\u%04x":"a"}`, c), `{"` + want + `":"a"}`, 0},
		})
	}
}

func TestCanonSurrogates(t *testing.T) {
	checkCanon(t, []canonCase{
		{`"\ud800\udc00"`, "\"\U00010000\"", 0},
		{`"\uDBFF\uDFFF"`, "\"\U0010FFFF\"", 0},
		{`"\ud800\udfff"`, "\"\U000103FF\"", 0},
		{`"\udbff\udc00"`, "\"\U0010FC00\"", 0},
		{`"\uD83D\ude00x"`, "\"\U0001F600x\"", 0},
		{`"\ud83d\ude00\ud83d\ude00"`, "\"\U0001F600\U0001F600\"", 0},
	})
	checkCanon(t, bad(`"\ud800"`, `"\udbff"`, `"\udc00"`, `"\udfff"`, `"\ud800x"`, `"\ud800\n"`, `"\ud800\u0041"`, `"\ud800\ud800"`, `"\ud800\udbff"`, `"\ud800\ue000"`,
		`"\udc00\ud800"`, `"\udc00\udc00"`, `"\udfff\udfff"`, `"\ud800\udc00\udc00"`, `"\ud800 \udc00"`, `"\ud800\\udc00"`, `"\ud800\udc0"`, `"\ud800\u`, `"\ud800\`, `"\ud800`, `"\ud800/udc00"`, "\"\\ud800\xed\xb0\x80\""))
	// In bytes a surrogate stands nowhere, not even as one of a pair.
	checkCanon(t, bad("\"\xed\xa0\x80\"", "\"\xed\xad\xbf\"", "\"\xed\xae\x80\"", "\"\xed\xaf\xbf\"", "\"\xed\xb0\x80\"", "\"\xed\xbf\xbf\"", "\"\xed\xa0\xbd\xed\xb8\x80\""))
	checkCanon(t, same("\"\xed\x9f\xbf\"", "\"\xee\x80\x80\""))
}

func TestCanonUTF8(t *testing.T) {
	checkCanon(t, same("\"\xc2\x80\"", "\"\xdf\xbf\"", "\"\xe0\xa0\x80\"", "\"\xef\xbf\xbf\"", "\"\xef\xbf\xbd\"", "\"\xf0\x90\x80\x80\"", "\"\xf4\x8f\xbf\xbf\"", "{\"\u20ac\":\"\U0001F600\"}"))
	tooLong := []string{"\xc0\x80", "\xc0\xaf", "\xc1\xbf", "\xe0\x80\x80", "\xe0\x9f\xbf", "\xf0\x80\x80\x80", "\xf0\x8f\xbf\xbf", "\xf8\x88\x80\x80\x80", "\xfc\x84\x80\x80\x80\x80"}
	broken := []string{"\x80", "\xbf", "\xff", "\xfe", "\xc2", "\xe0\xa0", "\xe2\x82", "\xf0\x90\x80", "\xc2a", "\xe2\x82a", "\xf0\x9f\x98a", "\xc2\xc2\x80", "\xf4\x90\x80\x80", "\xf5\x80\x80\x80", "\xf7\xbf\xbf\xbf", "\u20ac\x82"}
	for _, bytes := range append(tooLong, broken...) {
		checkCanon(t, bad("\""+bytes+"\"", "\""+bytes, "{\""+bytes+"\":1}", "[\"a\",\""+bytes+"\"]", bytes))
	}
}

func TestCanonKeyOrder(t *testing.T) {
	// Each list is sorted by what its keys stand for. Canonical texts, runes as
	// pairs of surrogates and lengths would sort some of them otherwise.
	for _, keys := range [][]string{
		{"", "\x00", "\x00\x00", "a", "a\x00", "a!", "aa", "b"},
		{"\n", " ", "\"", "A", "\\", "a"},
		{"\x01", "\x1f", "!", "\"", "#", "[", "\\", "]"},
		{"Z", "a", "z", "\u00e9", "\u20ac", "\uffff", "\U00010000", "\U0010FFFF"},
		{"1", "10", "2", "9"},
		{"/", "0", "~"},
	} {
		checkCanon(t, []canonCase{{objectText(keys, true), objectText(keys, false), 0}})
	}
	checkCanon(t, []canonCase{{`{"b":1,"\u0061":2}`, `{"a":2,"b":1}`, 0}})
}

// objectText writes an object with these keys, each with its position as value.
func objectText(keys []string, backwards bool) string {
	var members []string
	for i, key := range keys {
		quoted, _ := impl.Quote(key)
		members = append(members, fmt.Sprintf("%s:%d", quoted, i))
	}
	if backwards {
		for i, j := 0, len(members)-1; i < j; i, j = i+1, j-1 {
			members[i], members[j] = members[j], members[i]
		}
	}
	return "{" + strings.Join(members, ",") + "}"
}

func TestCanonSameKeys(t *testing.T) {
	for _, text := range []string{
		`{"a":1,"a":1}`, `{"a":1,"b":2,"a":3}`, `{"a":1,"\u0061":1}`, `{"":0,"":0}`, `{"/":0,"\/":0}`, `{"\n":0,"\u000a":0}`, `{"\u00e9":0,"\u00E9":0}`,
		"{\"\\ud83d\\ude00\":0,\"\U0001F600\":0}", `[[{"x":{"a":[],"a":{}}}]]`, `{"a":{"b":1,"b":2}}`, `{"a":1,"a":2,"a":3}`,
	} {
		checkCanon(t, []canonCase{{text, "", 4}})
	}
	checkCanon(t, same(`{"A":1,"a":1}`, `{"a":{"a":1},"b":{"a":1}}`, "{\"e\u0301\":0,\"\u00e9\":0}", `{"":0,"\u0000":0}`))
}

func TestCanonFirstCode(t *testing.T) {
	const big, twice = "9223372036854775808", `{"a":1,"a":2}`
	deep := nest(impl.MaxDepth+1, "[", "]", "")
	pad := strings.Repeat(" ", impl.MaxText)
	checkCanon(t, []canonCase{
		{pad + "[", "", 1}, {pad + big, "", 1}, {pad + twice, "", 1}, {pad + deep, "", 1}, {pad + "1", "", 1}, {pad + "\xff", "", 1},
		{"[" + big + ",", "", 2}, {"[" + twice + ",", "", 2}, {"[" + deep + ",", "", 2}, {deep + "]", "", 2},
		{"[" + big + "," + twice + "," + deep + "]]", "", 2}, {"[" + twice + "," + big + ".0]", "", 2},
		{"[" + big + "," + twice + "]", "", 3}, {"[" + twice + "," + big + "]", "", 3},
		{"[" + big + "," + deep + "]", "", 3}, {"[" + deep + "," + big + "]", "", 3},
		{`{"a":1,"a":` + big + "}", "", 3}, {`{"a":` + big + `,"a":1}`, "", 3},
		{nest(impl.MaxDepth+1, "[", "]", big), "", 3},
		{"[" + twice + "," + deep + "]", "", 4}, {"[" + deep + "," + twice + "]", "", 4}, {nest(impl.MaxDepth+1, "[", "]", twice), "", 4},
		{"[" + twice + "," + strings.Repeat("1,", impl.MaxValues) + "1]", "", 4}, {"[" + strings.Repeat("1,", impl.MaxValues) + twice + "]", "", 4},
	})
}

// nest puts a text inside of brackets, depth times.
func nest(depth int, open, shut, inner string) string {
	return strings.Repeat(open, depth) + inner + strings.Repeat(shut, depth)
}

func TestCanonTextBound(t *testing.T) {
	letters := strings.Repeat("a", impl.MaxText-2)
	checkCanon(t, []canonCase{
		{"\"" + letters + "\"", "\"" + letters + "\"", 0},
		{"\"" + letters + "a\"", "", 1},
		{strings.Repeat(" ", impl.MaxText-1) + "1", "1", 0},
		{"1" + strings.Repeat(" ", impl.MaxText-1), "1", 0},
		{"1" + strings.Repeat(" ", impl.MaxText), "", 1},
		{strings.Repeat("x", impl.MaxText), "", 2},
		{strings.Repeat("x", impl.MaxText+1), "", 1},
		{strings.Repeat("[", impl.MaxText), "", 2},
		{strings.Repeat("{\"\":", impl.MaxText/4), "", 2},
		{nest(impl.MaxText/2, "[", "]", ""), "", 5},
	})
}

func TestCanonDepthBound(t *testing.T) {
	for _, inner := range []string{"", "1", "[]", "{}", "\"x\",[]"} {
		extra := 1
		if inner == "" {
			extra = 0
		}
		most := nest(impl.MaxDepth-extra, "[", "]", inner)
		checkCanon(t, append(same(most), canonCase{"[" + most + "]", "", 5}, canonCase{"[1," + most + ",2]", "", 5}))
	}
	most := nest(impl.MaxDepth-1, "{\"a\":", "}", "{}")
	checkCanon(t, append(same(most), canonCase{"{\"a\":" + most + "}", "", 5}))
	mixed := nest((impl.MaxDepth-2)/2, "[{\"a\":", "}]", "[null]")
	checkCanon(t, append(same(mixed), canonCase{"[" + mixed + "]", "", 5}))
}

func TestCanonCountBound(t *testing.T) {
	ones := func(n int) string { return "[" + strings.Repeat("1,", n-1) + "1]" }
	// An object of one member has two values: its key does not count.
	objects := func(n int, more string) string { return "[" + strings.Repeat(`{"a":1},`, n) + more + "]" }
	checkCanon(t, same(ones(impl.MaxValues-1), "["+ones(impl.MaxValues-2)+"]", "["+ones(1000)+","+ones(1997)+"]", objects(1499, "1")))
	for _, text := range []string{ones(impl.MaxValues), "[" + ones(impl.MaxValues-1) + "]", "[" + ones(1000) + "," + ones(1998) + "]", ones(9999), objects(1499, "1,1"), objects(1499, "[1]")} {
		checkCanon(t, []canonCase{{text, "", 5}})
	}
}

func TestMeasureValues(t *testing.T) {
	for _, c := range []struct {
		text         string
		depth, count int
	}{
		{"null", 1, 1}, {"-0", 1, 1}, {"\"[[]]\"", 1, 1}, {"[]", 1, 1}, {"{}", 1, 1}, {" [ ] ", 1, 1},
		{"[1]", 2, 2}, {"{\"a\":1}", 2, 2}, {"[[]]", 2, 2}, {"[{},[],1]", 2, 4},
		{"[[[]],1]", 3, 4}, {"[1,[[]]]", 3, 4}, {"[[1],[[2]],[3]]", 4, 8}, {"{\"a\":{\"b\":{\"c\":[]}},\"d\":[[]]}", 4, 6},
		{nest(impl.MaxDepth, "[", "]", ""), impl.MaxDepth, impl.MaxDepth},
		{"[" + strings.Repeat("1,", impl.MaxValues-2) + "1]", 2, impl.MaxValues},
	} {
		depth, count, code := impl.Measure(c.text)
		if depth != c.depth || count != c.count || code != 0 {
			t.Errorf("Measure(%s) = %d, %d, %d; want %d, %d, 0", short(c.text), depth, count, code, c.depth, c.count)
		}
	}
}

// TestCanonShortTexts holds every short text of an alphabet in which the form
// and the library's JSON agree against the library.
func TestCanonShortTexts(t *testing.T) {
	const most = 5
	eachText("[]{},:\"a10- ", most, func(text string) {
		_, code := impl.Canon(text)
		if json.Valid([]byte(text)) != (code != 2) {
			t.Errorf("Canon(%q) has code %d", text, code)
		}
		if code != 2 {
			checkGood(t, text)
		}
	})
}

// eachText goes through all texts of an alphabet up to a length.
func eachText(alphabet string, most int, see func(text string)) {
	var grow func(text string)
	grow = func(text string) {
		see(text)
		if len(text) == most {
			return
		}
		for i := range len(alphabet) {
			grow(text + alphabet[i:i+1])
		}
	}
	grow("")
}

// TestCanonSameValue reads made values, written in several manners, and holds
// the canonical text against the library's own writing of the value.
func TestCanonSameValue(t *testing.T) {
	m := newMaker(1)
	for range 2000 {
		v := m.value(5)
		want := canonOf(v)
		for range 3 {
			text := m.spell(v)
			if got, code := impl.Canon(text); got != want || code != 0 {
				t.Fatalf("Canon(%q) = %q, %d; want %q", text, got, code, want)
			}
			checkGood(t, text)
		}
	}
}

// TestCanonDamagedTexts cuts and changes good texts: whatever comes out gets an
// answer, and what is good keeps promise 1.
func TestCanonDamagedTexts(t *testing.T) {
	m := newMaker(2)
	for range 3000 {
		text := []byte(m.spell(m.value(4)))
		for range 1 + m.Intn(3) {
			at := m.Intn(len(text) + 1)
			switch m.Intn(3) {
			case 0:
				text = text[:at]
			case 1:
				text = append(text[:at:at], append([]byte{byte(m.Intn(256))}, text[at:]...)...)
			case 2:
				if at < len(text) {
					text[at] = byte(m.Intn(256))
				}
			}
		}
		checkGood(t, string(text))
	}
}
