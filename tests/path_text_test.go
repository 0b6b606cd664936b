package tests

import (
	"math"
	"slices"
	"strings"
	"testing"

	"loop.example/s04350/impl"
)

// checkPath holds a path against promise 9: the segments it stands for, valid
// ones, and the same ones again by way of PathText.
func checkPath(t *testing.T, text string, want ...impl.Seg) {
	t.Helper()
	got, code := impl.ParsePath(text)
	if code != 0 || !sameSegs(got, want) {
		t.Errorf("ParsePath(%s) = %s, %d; want %s", short(text), toldPath(got), code, toldPath(want))
	}
	if !impl.PathOk(got) {
		t.Errorf("ParsePath(%s) gives segments that are not valid: %s", short(text), toldPath(got))
	}
	checkPathAgain(t, got)
}

// checkPathAgain says which code ParsePath has for what PathText writes.
func checkPathAgain(t *testing.T, segs []impl.Seg) int {
	t.Helper()
	text, ok := impl.PathText(segs)
	if !ok || text == "" {
		t.Errorf("PathText(%s) = %s, %v", toldPath(segs), short(text), ok)
	}
	got, code := impl.ParsePath(text)
	if code == 0 && !sameSegs(got, segs) {
		t.Errorf("PathText(%s) = %s, which is read as %s", toldPath(segs), short(text), toldPath(got))
	}
	if code == 2 || (code == 1) != (len(text) > impl.MaxPath) {
		t.Errorf("PathText(%s) = %s, which is read with code %d", toldPath(segs), short(text), code)
	}
	return code
}

func checkNoPath(t *testing.T, code int, texts ...string) {
	t.Helper()
	for _, text := range texts {
		if segs, got := impl.ParsePath(text); got != code || len(segs) != 0 {
			t.Errorf("ParsePath(%s) = %s, %d; want code %d", short(text), toldPath(segs), got, code)
		}
	}
}

func TestParsePathSegments(t *testing.T) {
	checkPath(t, "$")
	checkPath(t, "$.a", seg(name("a")))
	checkPath(t, "$._", seg(name("_")))
	checkPath(t, "$.aZ_09z", seg(name("aZ_09z")))
	checkPath(t, "$._1.A.z", seg(name("_1")), seg(name("A")), seg(name("z")))
	checkPath(t, "$.*", seg(all()))
	checkPath(t, "$['a']", seg(name("a")))
	checkPath(t, "$['']", seg(name("")))
	checkPath(t, "$[*]", seg(all()))
	checkPath(t, "$..a", deep(name("a")))
	checkPath(t, "$..*", deep(all()))
	checkPath(t, "$..['a']", deep(name("a")))
	checkPath(t, "$..[*]", deep(all()))
	checkPath(t, "$..[0]..[1:]", deep(index(0)), deep(slice(1, nil, nil)))
	checkPath(t, "$['a',0,*,1:2,?@,'b']", seg(name("a"), index(0), all(), slice(1, 2, nil), filter(exists()), name("b")))
	checkPath(t, "$.a..b['c'].*..*[-1]", seg(name("a")), deep(name("b")), seg(name("c")), seg(all()), deep(all()), seg(index(-1)))
	checkPath(t, "$[*,*][*]", seg(all(), all()), seg(all()))
}

func TestParsePathWrong(t *testing.T) {
	checkNoPath(t, 2, "", "a", " ", "@", "@.a", ".a", "['a']", " $", "$ ", "$$", "$a", "$*", "$1", "$?@", "$'a'", "\xff", "\x00", "$\x00", "$\n",
		"$.", "$..", "$...", "$...a", "$.a.", "$.a..", "$. a", "$.a b", "$ .a", "$.1", "$.1a", "$.-", "$.a-b", "$.'a'", "$.?@", "$.a*", "$.*a", "$.**", "$..**", "$.$", "$.@", "$.a\x00", "$.\x00", "$.a\t",
		"$.\u00e9", "$.a\u00e9", "$.\xff", "$.a\x80", "$.{", "$.`", "$.[", "$.@a", "$.a:", "$.a/",
		"$.['a']", "$.[0]", "$.[*]", "$...['a']", "$..['a'", "$..[", "$..[]", "$..[ 0]",
		"$[", "$[]", "$]", "$[[0]]", "$[0]]", "$[0", "$[,]", "$[0,]", "$[,0]", "$[0,,1]", "$[0 ]", "$[ 0]", "$[0, 1]", "$[0 ,1]", "$[a]", "$[.a]", "$[@]", "$[$]", "$[**]", "$['a''b']", "$['a'b]", "$[*0]", "$[0*]", "$[\"a\"]", "$[(0)]", "$[true]",
		"$[?]", "$[??@]", "$[?@?]", "$[?,0]", "$[?@,]", "$[?@", "$[@?]", "$[?*]", "$[?@]x", "$[? @]", "$[?@ ]")
}

func TestParsePathInts(t *testing.T) {
	for text, n := range map[string]int{
		"0": 0, "1": 1, "9": 9, "10": 10, "-1": -1, "-9": -9, "-10": -10, "100000000": 100000000, "123456789": 123456789, "999999999": 999999999, "-999999999": -999999999,
	} {
		checkPath(t, "$["+text+"]", seg(index(n)))
		checkPath(t, "$["+text+":]", seg(slice(n, nil, nil)))
		checkPath(t, "$[:"+text+"]", seg(slice(nil, n, nil)))
		checkPath(t, "$[::"+text+"]", seg(slice(nil, nil, n)))
		checkPath(t, "$["+text+":"+text+":"+text+"]", seg(slice(n, n, n)))
		checkPath(t, "$[?@["+text+"]]", seg(filter(exists(n))))
		checkPath(t, "$[?"+text+"==@]", seg(filter(number(n), here(), compare(1))))
		checkPath(t, "$[?@<"+text+"]", seg(filter(here(), number(n), compare(3))))
	}
	for _, text := range []string{
		"-0", "00", "01", "-01", "+1", "+0", "-", "--1", "1-", "1-2", "-a", "1.0", "1.", "1e3", "0x1", "1_0", "\u0663", "- 1", "1 ", " 1", "0 ",
		"1000000000", "-1000000000", "1234567890", "9999999999", "-9999999999", "18446744073709551617", strings.Repeat("1", 100),
	} {
		checkNoPath(t, 2, "$["+text+"]", "$["+text+":]", "$[:"+text+"]", "$[::"+text+"]", "$[?@["+text+"]]", "$[?"+text+"==@]", "$[?@<"+text+"]", "$."+text)
	}
}

func TestParsePathSlices(t *testing.T) {
	checkPath(t, "$[:]", seg(slice(nil, nil, nil)))
	checkPath(t, "$[::]", seg(slice(nil, nil, nil)))
	checkPath(t, "$[1:]", seg(slice(1, nil, nil)))
	checkPath(t, "$[1::]", seg(slice(1, nil, nil)))
	checkPath(t, "$[:2]", seg(slice(nil, 2, nil)))
	checkPath(t, "$[:2:]", seg(slice(nil, 2, nil)))
	checkPath(t, "$[::3]", seg(slice(nil, nil, 3)))
	checkPath(t, "$[1:2:3]", seg(slice(1, 2, 3)))
	checkPath(t, "$[-1:-2:-3]", seg(slice(-1, -2, -3)))
	checkPath(t, "$[0:0:0]", seg(slice(0, 0, 0)))
	checkPath(t, "$[:,0,::]", seg(slice(nil, nil, nil), index(0), slice(nil, nil, nil)))
	checkNoPath(t, 2, "$[:::]", "$[1:2:3:4]", "$[1:2:3:]", "$[1: 2]", "$[1 :2]", "$['a':]", "$[:'a']", "$[*:]", "$[:*]", "$[?@:]", "$[@:]", "$[?@[1:2]]", "$[?@[:]]", "$.:", "$:")
}

func TestParsePathStrings(t *testing.T) {
	for c := range 256 {
		s := string([]byte{byte(c)})
		if c < 32 || s == "'" || s == "\\" {
			checkNoPath(t, 2, "$['"+s+"']", "$['a"+s+"b']", "$[?@['"+s+"']]", "$[?@=='"+s+"']")
		} else {
			checkPath(t, "$['"+s+"']", seg(name(s)))
			checkPath(t, "$..['a"+s+"b']", deep(name("a"+s+"b")))
			checkPath(t, "$[?@['"+s+"']]", seg(filter(exists(s))))
			checkPath(t, "$[?@=='"+s+"']", seg(filter(here(), word(s), compare(1))))
		}
		if s == "'" || s == "\\" {
			checkPath(t, "$['\\"+s+"']", seg(name(s)))
			checkPath(t, "$['a\\"+s+"b']", seg(name("a"+s+"b")))
			checkPath(t, "$[?@['\\"+s+"']]", seg(filter(exists(s))))
			checkPath(t, "$[?@=='\\"+s+"']", seg(filter(here(), word(s), compare(1))))
		} else {
			checkNoPath(t, 2, "$['\\"+s+"']", "$[?@['\\"+s+"']]", "$[?'\\"+s+"'==@]")
		}
	}
	checkPath(t, "$['\u00e9\u20ac\U0010FFFF\xff\xc0\x80']", seg(name("\u00e9\u20ac\U0010FFFF\xff\xc0\x80")))
	checkPath(t, `$['\\\\\'\'','\\n',' "/~*]?,']`, seg(name(`\\''`), name(`\n`), name(` "/~*]?,`)))
	checkPath(t, "$[?''==''&&@['']]", seg(filter(word(""), word(""), compare(1), exists(""), plain(impl.FAnd))))
	checkNoPath(t, 2, "$['", "$[']", "$['a", "$['a]", "$['\\", "$['\\'", "$['\\']", "$['\\\\\\']", "$[''']", "$['a'", "$[?@=='a]", "$[?@['a]]", "$[?@['a'", "$[?'a']", "$[?'']")
}

func TestParsePathWords(t *testing.T) {
	checkPath(t, "$.true.false.null.length", seg(name("true")), seg(name("false")), seg(name("null")), seg(name("length")))
	checkPath(t, "$..length", deep(name("length")))
	checkPath(t, "$[?@.true]", seg(filter(exists("true"))))
	checkPath(t, "$[?@.length.null]", seg(filter(exists("length", "null"))))
	checkPath(t, "$[?@.length==length(@.length)]", seg(filter(here("length"), length("length"), compare(1))))
	checkPath(t, "$[?true==false]", seg(filter(plain(impl.FTrue), plain(impl.FFalse), compare(1))))
	checkPath(t, "$[?null<@.null]", seg(filter(plain(impl.FNull), here("null"), compare(3))))
	checkPath(t, "$[?'true'==true&&@]", seg(filter(word("true"), plain(impl.FTrue), compare(1), exists(), plain(impl.FAnd))))
	checkPath(t, "$[?length($)>=length(@[0].a)]", seg(filter(ref(impl.FLength, "$"), length(0, "a"), compare(6))))
	checkPath(t, "$[?@.truex!=1]", seg(filter(here("truex"), number(1), compare(2))))
	checkNoPath(t, 2, "$[?true]", "$[?false]", "$[?null]", "$[?1]", "$[?-1]", "$[?!true]", "$[?(1)]", "$[?True==@]", "$[?TRUE==@]", "$[?tru==@]", "$[?truex==@]", "$[?true1==@]", "$[?@==truex]", "$[?@==nul]", "$[?@==nulll]", "$[?@==fals]", "$[?true.a==1]", "$[?true[0]==1]", "$[?a==1]", "$[?@==a]", "$[?undefined==@]",
		"$[?length(@)]", "$[?!length(@)]", "$[?length==1]", "$[?@==length]", "$[?length()==1]", "$[?length(@==1]", "$[?length@==1]", "$[?length (@)==1]", "$[?length( @)==1]", "$[?length(@ )==1]", "$[?length(length(@))==1]", "$[?length(true)==1]", "$[?length('a')==1]", "$[?length(1)==1]", "$[?length((@))==1]", "$[?length(@,@)==1]", "$[?length(@).a==1]", "$[?length(@)[0]==1]", "$[?Length(@)==1]", "$[?lengt(@)==1]", "$[?lengthh(@)==1]", "$[?len(@)==1]", "$[?@.length(@)==1]", "$.length(@)", "$[length(@)]")
}

func TestParsePathRefs(t *testing.T) {
	checkPath(t, "$[?@]", seg(filter(exists())))
	checkPath(t, "$[?$]", seg(filter(ref(impl.FExists, "$"))))
	checkPath(t, "$[?@.a.b]", seg(filter(exists("a", "b"))))
	checkPath(t, "$[?$['a'][0][-1].b]", seg(filter(ref(impl.FExists, "$", "a", 0, -1, "b"))))
	checkPath(t, "$[?@[0]==$[0]]", seg(filter(here(0), ref(impl.FValue, "$", 0), compare(1))))
	checkPath(t, "$[?@==@]", seg(filter(here(), here(), compare(1))))
	checkPath(t, "$[?@,?$,0]", seg(filter(exists()), filter(ref(impl.FExists, "$")), index(0)))
	checkNoPath(t, 2, "$[?@.]", "$[?@..a]", "$[?@.*]", "$[?@[*]]", "$[?@['a','b']]", "$[?@[0,1]]", "$[?@[]]", "$[?@[?@]]", "$[?@[0]", "$[?@[0", "$[?@[a]]", "$[?@a]", "$[?@@]", "$[?@$]", "$[?@'a']", "$[?@.1]", "$[?@.'a']", "$[?@.[0]]", "$[?@ .a]", "$[?.a]", "$[?['a']]", "$[?@.a b]", "$[?@.\u00e9]", "$[?@*]", "$[?@()]", "$[?$a]")
}

func TestParsePathCompares(t *testing.T) {
	for i, sign := range []string{"==", "!=", "<", "<=", ">", ">="} {
		checkPath(t, "$[?@"+sign+"1]", seg(filter(here(), number(1), compare(i+1))))
		checkPath(t, "$[?-1"+sign+"-2]", seg(filter(number(-1), number(-2), compare(i+1))))
		checkPath(t, "$[?'a'"+sign+"'b']", seg(filter(word("a"), word("b"), compare(i+1))))
		checkPath(t, "$[?length(@)"+sign+"$.a]", seg(filter(length(), ref(impl.FValue, "$", "a"), compare(i+1))))
		checkPath(t, "$[?!@"+sign+"null]", seg(filter(here(), plain(impl.FNull), compare(i+1), plain(impl.FNot))))
		checkNoPath(t, 2, "$[?"+sign+"1]", "$[?@"+sign+"]", "$[?@"+sign+sign+"1]", "$[?@ "+sign+"1]", "$[?@"+sign+" 1]", "$[?@"+sign+"@"+sign+"@]", "$[?(@)"+sign+"1]", "$[?@"+sign+"(1)]", "$[?@"+sign+"(@)]", "$[?@"+sign+"!@]", "$[?@"+sign+"*]", "$[?1"+sign+"]", "$[?(@"+sign+")1]")
	}
	checkNoPath(t, 2, "$[?@=1]", "$[?@===1]", "$[?@!1]", "$[?@!]", "$[?@<>1]", "$[?@=<1]", "$[?@=>1]", "$[?@!==1]", "$[?@<==1]", "$[?@< =1]", "$[?@= =1]", "$[?@~1]", "$[?1==2==3]", "$[?@<1<2]", "$[?=1]", "$[?!=1]", "$[?1 2]", "$[?12]", "$[?1'a']")
}

func TestParsePathOrder(t *testing.T) {
	and, or, not := plain(impl.FAnd), plain(impl.FOr), plain(impl.FNot)
	a, b, c, d := exists("a"), exists("b"), exists("c"), exists("d")
	for text, want := range map[string][]impl.FOp{
		"@.a&&@.b":                      {a, b, and},
		"@.a||@.b":                      {a, b, or},
		"@.a&&@.b&&@.c":                 {a, b, and, c, and},
		"@.a||@.b||@.c":                 {a, b, or, c, or},
		"@.a&&@.b&&@.c&&@.d":            {a, b, and, c, and, d, and},
		"@.a&&(@.b&&@.c)":               {a, b, c, and, and},
		"@.a||(@.b||@.c)":               {a, b, c, or, or},
		"@.a||@.b&&@.c":                 {a, b, c, and, or},
		"@.a&&@.b||@.c":                 {a, b, and, c, or},
		"@.a&&@.b||@.c&&@.d":            {a, b, and, c, d, and, or},
		"@.a||@.b&&@.c||@.d":            {a, b, c, and, or, d, or},
		"(@.a||@.b)&&@.c":               {a, b, or, c, and},
		"@.a&&(@.b||@.c)&&@.d":          {a, b, c, or, and, d, and},
		"!@.a&&@.b":                     {a, not, b, and},
		"!@.a||!@.b":                    {a, not, b, not, or},
		"!(@.a&&@.b)":                   {a, b, and, not},
		"!!@.a":                         {a, not, not},
		"!(!(@.a))":                     {a, not, not},
		"((@.a))":                       {a},
		"(@.a)":                         {a},
		"!@.a==1":                       {here("a"), number(1), compare(1), not},
		"@.a==1&&@.b!=2":                {here("a"), number(1), compare(1), here("b"), number(2), compare(2), and},
		"@.a&&!(@.b||@.c==1&&@.d)||@.a": {a, b, here("c"), number(1), compare(1), d, and, or, not, and, a, or},
	} {
		checkPath(t, "$[?"+text+"]", seg(filter(want...)))
	}
	checkNoPath(t, 2, "$[?@&&]", "$[?&&@]", "$[?@||]", "$[?||@]", "$[?@&@]", "$[?@|@]", "$[?@&&&@]", "$[?@|||@]", "$[?@& &@]", "$[?@ &&@]", "$[?@&& @]", "$[?@&&||@]", "$[?@&|@]", "$[?!]", "$[?!!]", "$[?@!@]", "$[?@!]", "$[?! @]", "$[?()]", "$[?(@]", "$[?@)]", "$[?((@)]", "$[?(@))]", "$[?( @)]", "$[?(@ )]", "$[?(@)(@)]", "$[?(@)@]", "$[?@(@)]", "$[?(@)!(@)]", "$[?(@).a]", "$[?(@)[0]]", "$[?(@,@)]", "$[?(?@)]", "$[?!?@]", "$[?1&&2]", "$[?@&&1]", "$[?@||'a']", "$[?(@", "$[?@&&", "$[?@&")
}

func TestParsePathMaxPath(t *testing.T) {
	exact := "$" + strings.Repeat(".aaa", 249) + ".aa"
	if segs, code := impl.ParsePath(exact); len(exact) != impl.MaxPath || len(segs) != 250 || code != 0 {
		t.Errorf("%d bytes: %d segments, code %d", len(exact), len(segs), code)
	}
	checkPath(t, "$['"+strings.Repeat("x", impl.MaxPath-5)+"']", seg(name(strings.Repeat("x", impl.MaxPath-5))))
	checkPath(t, "$[?@"+strings.Repeat(".a", 497)+"]", seg(filter(exists(slices.Repeat([]any{"a"}, 497)...))))
	checkNoPath(t, 2, exact[:impl.MaxPath-1]+".", strings.Repeat("x", impl.MaxPath), "$"+strings.Repeat("[", impl.MaxPath-1), "$[?"+strings.Repeat("(", impl.MaxPath-3), "$[?"+strings.Repeat("!", impl.MaxPath-3))
	checkNoPath(t, 1, exact+"a", exact+".", strings.Repeat("x", impl.MaxPath+1), strings.Repeat("$", 100000), "$['"+strings.Repeat("x", impl.MaxPath-4)+"']", "$[?"+nest(impl.MaxPath, "(", ")", "@")+"]", strings.Repeat("\xff", impl.MaxPath+1))
}

func TestParsePathMaxNest(t *testing.T) {
	not := plain(impl.FNot)
	for around := range impl.MaxNest + 4 {
		for _, c := range []struct {
			text string
			cond []impl.FOp
		}{
			{nest(around, "(", ")", "@"), []impl.FOp{exists()}},
			{nest(around, "!", "", "@"), append([]impl.FOp{exists()}, slices.Repeat([]impl.FOp{not}, around)...)},
			{nest(around/2, "!(", ")", nest(around%2, "!", "", "@")), append([]impl.FOp{exists()}, slices.Repeat([]impl.FOp{not}, around/2+around%2)...)},
			{"@.a&&" + nest(around, "(", ")", "@"), []impl.FOp{exists("a"), exists(), plain(impl.FAnd)}},
			{nest(around, "(", ")", "@") + "||(@.a)", []impl.FOp{exists(), exists("a"), plain(impl.FOr)}},
			{nest(around, "(", ")", "length(@)==1"), []impl.FOp{length(), number(1), compare(1)}},
		} {
			text := "$.a[0,?" + c.text + "]..b"
			if around <= impl.MaxNest {
				checkPath(t, text, seg(name("a")), seg(index(0), filter(c.cond...)), deep(name("b")))
				continue
			}
			checkNoPath(t, 3, text)
			checkNoPath(t, 2, text+".", text+"[", strings.Replace(text, "@", "", 1), strings.Replace(text, "@", "1", 1))
			checkNoPath(t, 1, text+strings.Repeat(".", impl.MaxPath))
		}
	}
	beside := strings.TrimSuffix(strings.Repeat("(!@)&&", 100), "&&")
	if _, code := impl.ParsePath("$[?" + beside + "]"); code != 0 {
		t.Errorf("prims side by side: code %d", code)
	}
	if _, code := impl.ParsePath("$[?" + nest(30, "(", ")", "@") + "&&" + nest(30, "(", ")", "@") + "][?" + nest(30, "!", "", "@") + "]"); code != 0 {
		t.Errorf("prims in three places: code %d", code)
	}
}

func TestParsePathShortTexts(t *testing.T) {
	form := newPathForm()
	good := 0
	for _, c := range []struct {
		front, alphabet, back string
		most                  int
	}{
		{"", "$.[*a", "", 6},
		{"$", ".[]*a0'", "", 5},
		{"$[", "0-1:,*'a]", "]", 5},
		{"$[?", "@$.a[0]=<", "]", 5},
		{"$[?", "@!()&|=", "]", 6},
		{"$[?@", "<>=!1&|@'", "]", 5},
	} {
		eachText(c.alphabet, c.most, func(text string) {
			good += checkForm(t, form, c.front+text+c.back)
		})
	}
	if good < 1000 {
		t.Errorf("only %d of the texts have the form", good)
	}
}

// checkForm gives 1 for a text that has the form of a path.
func checkForm(t *testing.T, form pathForm, text string) int {
	t.Helper()
	segs, code := impl.ParsePath(text)
	if fits := form.fits(text); fits && code != 0 && code != 3 || !fits && code != 2 {
		t.Fatalf("ParsePath(%q) = %s, %d; the form fits: %v", text, toldPath(segs), code, fits)
	}
	if code != 0 {
		return 0
	}
	if !impl.PathOk(segs) {
		t.Fatalf("ParsePath(%q) gives segments that are not valid: %s", text, toldPath(segs))
	}
	return 1
}

func TestParsePathMadeTexts(t *testing.T) {
	m, form := newMaker(21), newPathForm()
	for range 5000 {
		segs, text, deepest := m.path(m.value(3))
		if len(text) > impl.MaxPath || deepest > impl.MaxNest {
			continue
		}
		checkPath(t, text, segs...)
		for range 4 {
			checkForm(t, form, m.damaged(text))
		}
	}
}

// damaged changes some bytes of a text.
func (m maker) damaged(text string) string {
	const signs = "$@.*[]()'\\,:?!=<>&|0-1_a \x00\x1f\x7f\xff"
	for range 1 + m.Intn(2) {
		at, sign := m.Intn(len(text)+1), signs[m.Intn(len(signs)):][:1]
		switch kind := m.Intn(3); {
		case kind == 0:
			text = text[:at] + sign + text[at:]
		case at == len(text):
			text = text[:at-min(at, 1)]
		case kind == 1:
			text = text[:at] + text[at+1:]
		default:
			text = text[:at] + sign + text[at+1:]
		}
	}
	return text
}

// TestParsePathNewMemory writes into every list of an answer: no other one may
// change, nor a later answer.
func TestParsePathNewMemory(t *testing.T) {
	const text = "$.a[?@.a.b&&@.a.b,0,?$.a.b==@.a.b].c"
	first, _ := impl.ParsePath(text)
	want := copyOf(first)
	for i := range first {
		_ = append(first[i].Sels, name("x"))
		for j := range first[i].Sels {
			cond := first[i].Sels[j].Cond
			_ = append(cond, plain(impl.FNot))
			for k := range cond {
				_ = append(cond[k].Steps, impl.Step{Name: "y"})
			}
		}
	}
	if !sameSegs(first, want) {
		t.Errorf("lists of one answer share memory: %s", toldPath(first))
	}
	first[1].Sels[0].Cond[0].Steps[0].Name = "z"
	want[1].Sels[0].Cond[0].Steps[0].Name = "z"
	if !sameSegs(first, want) {
		t.Errorf("steps of one answer share memory: %s", toldPath(first))
	}
	if again, _ := impl.ParsePath(text); again[1].Sels[0].Cond[0].Steps[0].Name != "a" {
		t.Errorf("two answers share memory: %s", toldPath(again))
	}
}

func TestPathTextForms(t *testing.T) {
	and, or, not := plain(impl.FAnd), plain(impl.FOr), plain(impl.FNot)
	for _, c := range []struct {
		segs []impl.Seg
		want string
	}{
		{nil, "$"},
		{path(seg(name("a"))), "$['a']"},
		{path(deep(name(""))), "$..['']"},
		{path(seg(name(`it's \ "x"`), name("\u00e9\xff\x7f"))), `$['it\'s \\ "x"','` + "\u00e9\xff\x7f']"},
		{path(seg(all()), deep(all(), all())), "$[*]..[*,*]"},
		{path(seg(index(0), index(-1), index(999999999), index(-999999999))), "$[0,-1,999999999,-999999999]"},
		{path(seg(slice(nil, nil, nil), slice(0, nil, nil), slice(nil, 0, nil), slice(nil, nil, 0))), "$[:,0:,:0,::0]"},
		{path(seg(slice(1, -2, nil), slice(-1, nil, -3), slice(nil, 2, 1), slice(1, 2, 3))), "$[1:-2,-1::-3,:2:1,1:2:3]"},
		{path(seg(filter(exists()))), "$[?@]"},
		{path(seg(filter(ref(impl.FExists, "$", "a", 0, -1, "it's")))), `$[?$['a'][0][-1]['it\'s']]`},
		{path(seg(filter(number(-5), word(`\'`), compare(1)))), `$[?-5=='\\\'']`},
		{path(seg(filter(plain(impl.FTrue), plain(impl.FFalse), compare(2)))), "$[?true!=false]"},
		{path(seg(filter(plain(impl.FNull), here("null"), compare(3)))), "$[?null<@['null']]"},
		{path(seg(filter(length(), ref(impl.FLength, "$", 0), compare(4)))), "$[?length(@)<=length($[0])]"},
		{path(seg(filter(here(), number(0), compare(5)), filter(here(), number(0), compare(6)))), "$[?@>0,?@>=0]"},
		{path(seg(filter(exists("a"), not))), "$[?!@['a']]"},
		{path(seg(filter(here(), here(), compare(1), not, not))), "$[?!!@==@]"},
		{path(seg(filter(exists("a"), exists("b"), and))), "$[?(@['a']&&@['b'])]"},
		{path(seg(filter(exists("a"), exists("b"), or, not))), "$[?!(@['a']||@['b'])]"},
		{path(seg(filter(exists("a"), exists("b"), and, exists("c"), and))), "$[?((@['a']&&@['b'])&&@['c'])]"},
		{path(seg(filter(exists("a"), exists("b"), exists("c"), and, or))), "$[?(@['a']||(@['b']&&@['c']))]"},
		{path(seg(filter(exists("a"), not, here("b"), number(1), compare(3), or))), "$[?(!@['a']||@['b']<1)]"},
	} {
		if got, ok := impl.PathText(c.segs); got != c.want || !ok {
			t.Errorf("PathText(%s) = %s, %v; want %s", toldPath(c.segs), got, ok, c.want)
		}
		if !impl.PathOk(c.segs) {
			t.Errorf("PathOk(%s) is false", toldPath(c.segs))
		}
		if code := checkPathAgain(t, c.segs); code != 0 {
			t.Errorf("PathText(%s) is read with code %d", toldPath(c.segs), code)
		}
	}
}

func checkNotValid(t *testing.T, segs []impl.Seg) {
	t.Helper()
	if impl.PathOk(segs) {
		t.Errorf("PathOk(%s) is true", toldPath(segs))
	}
	if text, ok := impl.PathText(segs); text != "" || ok {
		t.Errorf("PathText(%s) = %s, %v", toldPath(segs), short(text), ok)
	}
	if hits, code := impl.Eval("[[]]", segs); len(hits) != 0 || code != 2 {
		t.Errorf("Eval of %s has %d hits, code %d", toldPath(segs), len(hits), code)
	}
	if _, code := impl.Eval("[[]", segs); code != 1 {
		t.Errorf("Eval of %s in no document has code %d", toldPath(segs), code)
	}
}

func checkValid(t *testing.T, segs []impl.Seg) {
	t.Helper()
	before := copyOf(segs)
	if !impl.PathOk(segs) {
		t.Errorf("PathOk(%s) is false", toldPath(segs))
	}
	checkPathAgain(t, segs)
	if _, code := impl.Eval("[[]]", segs); code != 0 {
		t.Errorf("Eval of %s has code %d", toldPath(segs), code)
	}
	if !sameSegs(before, segs) {
		t.Errorf("the segments were %s and are %s", toldPath(before), toldPath(segs))
	}
}

func checkSel(t *testing.T, sel impl.Sel, valid bool) {
	t.Helper()
	if segs := path(seg(all()), deep(index(0), sel)); valid {
		checkValid(t, segs)
	} else {
		checkNotValid(t, segs)
	}
}

func TestPathOkUnusedSelFields(t *testing.T) {
	for _, base := range []impl.Sel{name("a"), name(""), all(), index(0), index(-3), slice(nil, nil, nil), filter(exists())} {
		checkSel(t, base, true)
		for _, c := range []struct {
			set   func(s *impl.Sel)
			kinds []int
		}{
			{func(s *impl.Sel) { s.Name = "b" }, []int{impl.SelName}},
			{func(s *impl.Sel) { s.A = 1 }, []int{impl.SelIndex}},
			{func(s *impl.Sel) { s.HasA, s.A = false, -1 }, []int{impl.SelIndex}},
			{func(s *impl.Sel) { s.HasB, s.B = false, 1 }, nil},
			{func(s *impl.Sel) { s.HasC, s.C = false, 1 }, nil},
			{func(s *impl.Sel) { s.HasA, s.A = true, 0 }, []int{impl.SelSlice}},
			{func(s *impl.Sel) { s.HasB = true }, []int{impl.SelSlice}},
			{func(s *impl.Sel) { s.HasC = true }, []int{impl.SelSlice}},
			{func(s *impl.Sel) { s.HasA, s.A = true, 5 }, []int{impl.SelSlice}},
			{func(s *impl.Sel) { s.HasB, s.B = true, 5 }, []int{impl.SelSlice}},
			{func(s *impl.Sel) { s.HasC, s.C = true, 5 }, []int{impl.SelSlice}},
			{func(s *impl.Sel) { s.Cond = []impl.FOp{exists("b")} }, []int{impl.SelFilter}},
			{func(s *impl.Sel) { s.Cond = []impl.FOp{{}} }, nil},
			{func(s *impl.Sel) { s.K = 0 }, nil},
			{func(s *impl.Sel) { s.K = 6 }, nil},
			{func(s *impl.Sel) { s.K = -1 }, nil},
			{func(s *impl.Sel) { s.K += 1 << 40 }, nil},
		} {
			sel := base
			c.set(&sel)
			checkSel(t, sel, slices.Contains(c.kinds, sel.K))
		}
	}
}

func TestPathOkUnusedFOpFields(t *testing.T) {
	refs := []int{impl.FValue, impl.FLength, impl.FExists}
	for kind := -1; kind <= impl.FNot+2; kind++ {
		for _, c := range []struct {
			op    impl.FOp
			kinds []int
		}{
			{impl.FOp{}, []int{impl.FInt, impl.FString, impl.FTrue, impl.FFalse, impl.FNull, impl.FValue, impl.FLength, impl.FExists, impl.FAnd, impl.FOr, impl.FNot}},
			{impl.FOp{N: 1}, []int{impl.FInt, impl.FCompare}},
			{impl.FOp{N: 6}, []int{impl.FInt, impl.FCompare}},
			{impl.FOp{N: 7}, []int{impl.FInt}},
			{impl.FOp{N: -1}, []int{impl.FInt}},
			{impl.FOp{S: "a"}, []int{impl.FString}},
			{impl.FOp{S: "a", N: 1}, nil},
			{impl.FOp{Root: true}, refs},
			{impl.FOp{Root: true, Steps: []impl.Step{{Name: "a"}}}, refs},
			{impl.FOp{Steps: []impl.Step{{}}}, refs},
			{impl.FOp{Steps: []impl.Step{}}, []int{impl.FInt, impl.FString, impl.FTrue, impl.FFalse, impl.FNull, impl.FValue, impl.FLength, impl.FExists, impl.FAnd, impl.FOr, impl.FNot}},
			{impl.FOp{Steps: []impl.Step{{ByIndex: true, Index: -3}}}, refs},
			{impl.FOp{Steps: []impl.Step{{Name: "a", Index: 1}}}, nil},
			{impl.FOp{Steps: []impl.Step{{Index: -1}}}, nil},
			{impl.FOp{Steps: []impl.Step{{ByIndex: true, Name: "a"}}}, nil},
			{impl.FOp{Steps: []impl.Step{{Name: "b"}, {ByIndex: true, Index: 1, Name: "a"}}}, nil},
		} {
			op := c.op
			op.K = kind
			checkSel(t, filter(condWith(op)...), slices.Contains(c.kinds, kind))
		}
	}
}

// condWith is a cond that comes out, around an operation.
func condWith(op impl.FOp) []impl.FOp {
	switch op.K {
	case impl.FExists:
		return []impl.FOp{op}
	case impl.FNot:
		return []impl.FOp{exists(), op}
	case impl.FAnd, impl.FOr:
		return []impl.FOp{exists(), exists(), op}
	case impl.FCompare:
		return []impl.FOp{here(), here(), op}
	}
	return []impl.FOp{here(), op, compare(1)}
}

func TestPathOkInts(t *testing.T) {
	for _, n := range []int{0, 1, -1, 999999999, -999999999, 1000000000, -1000000000, 1000000001, math.MaxInt32, math.MinInt32, math.MaxInt, math.MinInt} {
		valid := -1000000000 < n && n < 1000000000
		for _, sel := range []impl.Sel{
			index(n), slice(n, nil, nil), slice(nil, n, nil), slice(nil, nil, n), slice(1, n, 1), slice(n, n, n),
			filter(here(), number(n), compare(1)), filter(exists(n)), filter(ref(impl.FExists, "$", "a", n)), filter(length(n), here(0, n, "a"), compare(3)),
		} {
			checkSel(t, sel, valid)
		}
	}
}

func TestPathOkTexts(t *testing.T) {
	texts := map[string]bool{
		"": true, "'": true, "\\": true, "a b": true, "\u00e9": true, "\xff\xfe": true, "$.a[0]": true, "a\nb": false, "\x00": false, "\x1f": false, "abc\t": false,
		strings.Repeat("x", impl.MaxPath): true, strings.Repeat("x", impl.MaxPath+1): false, strings.Repeat("'", impl.MaxPath): true, strings.Repeat("\u20ac", 333): true, strings.Repeat("\u20ac", 334): false, strings.Repeat("x", 100000): false,
	}
	for c := range 256 {
		texts[string([]byte{'a', byte(c)})] = c >= 32
	}
	for text, valid := range texts {
		for _, sel := range []impl.Sel{name(text), filter(here(), word(text), compare(1)), filter(exists(text)), filter(ref(impl.FExists, "$", 0, text, "a")), filter(length(text), number(1), compare(1))} {
			checkSel(t, sel, valid)
		}
	}
}

func TestPathOkStacks(t *testing.T) {
	and, or, not := plain(impl.FAnd), plain(impl.FOr), plain(impl.FNot)
	a, b := exists("a"), exists("b")
	for _, cond := range [][]impl.FOp{
		{a}, {a, not}, {a, not, not}, {a, b, and}, {a, b, or}, {a, b, not, or}, {a, b, a, and, or}, {a, b, and, a, or, not},
		{here(), number(1), compare(1)}, {a, here(), length(), compare(6), and}, {here(), word("x"), compare(2), a, or}, {plain(impl.FTrue), plain(impl.FNull), compare(3), not},
	} {
		checkSel(t, filter(cond...), true)
	}
	for _, cond := range [][]impl.FOp{
		nil, {}, {number(1)}, {word("a")}, {plain(impl.FTrue)}, {plain(impl.FNull)}, {here()}, {length()},
		{not}, {and}, {or}, {compare(1)}, {a, and}, {a, or}, {a, compare(1)}, {number(1), compare(1)}, {not, a}, {a, and, b}, {and, a, b}, {compare(1), here(), here()}, {here(), compare(1), here()},
		{a, b}, {a, b, not}, {a, a, b, and}, {here(), a}, {a, here()}, {here(), here(), here(), compare(1)}, {number(1), here(), here(), compare(1)}, {here(), here(), compare(1), here()},
		{here(), not}, {plain(impl.FTrue), not}, {length(), not}, {a, here(), and}, {here(), a, and}, {here(), here(), or}, {plain(impl.FTrue), plain(impl.FFalse), and}, {here(), a, or},
		{a, b, compare(1)}, {here(), a, compare(1)}, {a, here(), compare(1)}, {here(), here(), compare(1), here(), compare(1)}, {here(), here(), here(), compare(1), compare(1)},
		{a, b, and, and}, {a, b, and, not, or}, {here(), here(), compare(1), not, compare(1)}, {a, b, and, here()},
	} {
		checkSel(t, filter(cond...), false)
	}
}

func TestPathOkLists(t *testing.T) {
	for more := range 3 {
		n := impl.MaxPath - 1 + more
		valid := n <= impl.MaxPath
		checkList(t, slices.Repeat(path(seg(name("a"))), n), valid)
		checkList(t, path(seg(slices.Repeat([]impl.Sel{index(5)}, n)...)), valid)
		checkList(t, path(seg(filter(append([]impl.FOp{exists()}, slices.Repeat([]impl.FOp{plain(impl.FNot)}, n-1)...)...))), valid)
		checkList(t, path(seg(filter(exists(slices.Repeat([]any{"a"}, n)...)))), valid)
		checkList(t, path(seg(filter(ref(impl.FLength, "$", slices.Repeat([]any{0}, n)...), number(1), compare(1)))), valid)
		checkList(t, slices.Repeat(path(seg()), n), false)
	}
	checkList(t, nil, true)
	checkList(t, path(), true)
	checkList(t, path(seg()), false)
	checkList(t, path(deep()), false)
	checkList(t, path(seg(all()), seg(), seg(all())), false)
	checkList(t, path(seg(all()), seg(all(), impl.Sel{})), false)
	rightBranch := append(slices.Repeat([]impl.FOp{exists()}, 500), slices.Repeat([]impl.FOp{plain(impl.FOr)}, 499)...)
	checkList(t, path(seg(filter(rightBranch...))), true)
	checkList(t, path(seg(filter(rightBranch[1:]...))), false)
	checkList(t, path(seg(filter(append(rightBranch, plain(impl.FOr))...))), false)
}

func checkList(t *testing.T, segs []impl.Seg, valid bool) {
	t.Helper()
	if valid {
		checkValid(t, segs)
	} else {
		checkNotValid(t, segs)
	}
}

func TestPathTextOfMadePaths(t *testing.T) {
	m := newMaker(22)
	codes := map[int]int{}
	for range 5000 {
		segs, _, _ := m.path(m.value(3))
		checkValid(t, segs)
		for i := range segs {
			for j := range segs[i].Sels {
				if cond := segs[i].Sels[j].Cond; len(cond) > 0 && m.Intn(10) == 0 {
					segs[i].Sels[j].Cond = append(cond, slices.Repeat([]impl.FOp{plain(impl.FNot)}, m.Intn(100))...)
				}
			}
		}
		codes[checkPathAgain(t, segs)]++
		checkNestAgain(t, segs)
	}
	if codes[0] < 1000 || codes[3] < 100 {
		t.Errorf("codes %v", codes)
	}
}

// checkNestAgain counts the prims of a written path by its signs: with all joints
// in brackets, a `!` reaches to the end of the operand or bracket behind it.
func checkNestAgain(t *testing.T, segs []impl.Seg) {
	t.Helper()
	deepest := 0
	for _, s := range segs {
		for _, sel := range s.Sels {
			deepest = max(deepest, nestOf(sel.Cond))
		}
	}
	text, _ := impl.PathText(segs)
	_, code := impl.ParsePath(text)
	if want := deepest > impl.MaxNest; len(text) <= impl.MaxPath && (code == 3) != want {
		t.Errorf("PathText(%s) with %d prims inside of each other is read with code %d", toldPath(segs), deepest, code)
	}
}

func nestOf(cond []impl.FOp) int {
	var stack []int
	for _, op := range cond {
		last := len(stack) - 1
		switch op.K {
		case impl.FNot:
			stack[last]++
		case impl.FAnd, impl.FOr:
			stack = append(stack[:last-1], max(stack[last-1], stack[last])+1)
		case impl.FCompare:
			stack = append(stack[:last-1], 0)
		default:
			stack = append(stack, 0)
		}
	}
	if len(stack) == 0 {
		return 0
	}
	return stack[0]
}
