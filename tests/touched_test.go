package tests

import (
	"fmt"
	"slices"
	"strings"
	"testing"

	"loop.example/s04350/impl"
)

func checkTouched(t *testing.T, ops []impl.POp, want ...string) {
	t.Helper()
	if got := impl.Touched(ops); !slices.Equal(got, want) {
		t.Errorf("Touched(%s) = %q; want %q", told(ops), got, want)
	}
}

func TestTouchedKinds(t *testing.T) {
	checkTouched(t, nil)
	checkTouched(t, patch(add("/a/b", "1")), "/a/b")
	checkTouched(t, patch(add("/a/0", "1")), "/a")
	checkTouched(t, patch(remove("/a/b")), "/a/b")
	checkTouched(t, patch(remove("/a/0")), "/a")
	checkTouched(t, patch(replace("/a/0", "1")), "/a/0")
	checkTouched(t, patch(replace("/a/-", "1")), "/a/-")
	checkTouched(t, patch(test("/a/0", "1")), "/a/0")
	checkTouched(t, patch(test("/a/-", "1")), "/a/-")
	checkTouched(t, patch(move("/a/0", "/b/1")), "/a", "/b")
	checkTouched(t, patch(move("/b/x", "/a/y")), "/a/y", "/b/x")
	checkTouched(t, patch(move("/a/0", "/a/1")), "/a")
	checkTouched(t, patch(move("/a", "/a")), "/a")
	checkTouched(t, patch(copyOp("/a/0", "/b/1")), "/a/0", "/b")
	checkTouched(t, patch(copyOp("/a/-", "/b/-")), "/a/-", "/b")
	checkTouched(t, patch(copyOp("/b/x", "/a/y")), "/a/y", "/b/x")
	for _, op := range patch(add("", "1"), remove(""), replace("", "1"), move("", ""), copyOp("", ""), test("", "1")) {
		checkTouched(t, patch(op), "")
	}
}

func TestTouchedShortens(t *testing.T) {
	for _, token := range []string{"-", "0", "1", "9", "10", "00", "007", "0000000", "1000000", "18446744073709551616", strings.Repeat("5", 1000)} {
		checkTouched(t, patch(add("/"+token, "1")), "")
		checkTouched(t, patch(remove("/a/"+token)), "/a")
		checkTouched(t, patch(move("/a/1/"+token, "/b/-/"+token)), "/a/1", "/b/-")
		checkTouched(t, patch(copyOp("/a/"+token, "/b/"+token+"/x")), "/a/"+token, "/b/"+token+"/x")
		checkTouched(t, patch(test("/"+token, "1"), replace("/a/"+token, "1")), "/"+token, "/a/"+token)
	}
	for _, token := range []string{"", "--", "-1", "1-", "+1", "1a", "a1", "1.", "0x1", " 1", "1 ", "~01", "~11", "1~0", "\u0661", "\u00b2", "\xff", "1\x00", ":", ".", "e"} {
		ptr := "/a/" + token
		checkTouched(t, patch(add(ptr, "1")), ptr)
		checkTouched(t, patch(remove(ptr)), ptr)
		checkTouched(t, patch(move(ptr, "/0")), "", ptr)
		checkTouched(t, patch(copyOp("/0", ptr)), "/0", ptr)
	}
}

func TestTouchedOrder(t *testing.T) {
	checkTouched(t, patch(remove("/b"), remove("/a"), remove("/b"), remove("/B"), remove("/a/b"), remove("/a!"), remove("/~1"), remove("/~0"), remove("/"), remove("/\u00e9"), remove("/\xff"), test("", "1")),
		"", "/", "/B", "/a", "/a!", "/a/b", "/b", "/~0", "/~1", "/\u00e9", "/\xff")
	checkTouched(t, patch(add("/a/0", "1"), add("/a/1", "1"), add("/a/-", "1"), test("/a", "1")), "/a")
}

func TestTouchedLeavesOut(t *testing.T) {
	for _, op := range illFormed() {
		checkTouched(t, patch(op))
		checkTouched(t, patch(op, remove("/y"), op, remove("/x"), op), "/x", "/y")
	}
	var most []impl.POp
	for i := range impl.MaxOps {
		most = append(most, move(fmt.Sprintf("/a%02d", i), fmt.Sprintf("/b%02d", i)))
	}
	got := impl.Touched(most)
	if len(got) != 2*impl.MaxOps || got[0] != "/a00" || got[impl.MaxOps] != "/b00" || got[2*impl.MaxOps-1] != "/b99" {
		t.Errorf("%d touched: %q", len(got), got)
	}
	checkTouched(t, append(most, remove("/x")))
	checkTouched(t, append(most, impl.POp{}))
	checkTouched(t, manyOps(impl.MaxOps, remove("/x")), "/x")
	checkTouched(t, manyOps(impl.MaxOps+1, remove("/x")))
}

func checkClash(t *testing.T, a, b []string, want bool) {
	t.Helper()
	if impl.Clash(a, b) != want || impl.Clash(b, a) != want {
		t.Errorf("Clash of %s and %s is %v, and %v the other way; want %v", short(fmt.Sprintf("%q", a)), short(fmt.Sprintf("%q", b)), impl.Clash(a, b), impl.Clash(b, a), want)
	}
}

func TestClashPairs(t *testing.T) {
	for _, c := range []struct {
		a, b string
		want bool
	}{
		{"", "", true}, {"", "/a", true}, {"", "/", true}, {"/a", "/a", true}, {"/a", "/a/b", true}, {"/a", "/a/b/c", true}, {"/a", "/a/", true}, {"/", "/", true}, {"/", "//", true}, {"/~0", "/~0/~1", true}, {"/0", "/0/1", true}, {"/\xff", "/\xff/a", true},
		{"/a", "/b", false}, {"/a", "/ab", false}, {"/a", "/", false}, {"/a", "//a", false}, {"/a/b", "/a/c", false}, {"/a/b", "/a/bc", false}, {"/a/b", "/b", false}, {"/~0", "/~01", false}, {"/~1", "//1", false}, {"/a~1b", "/a/b", false}, {"/a", "/a~1b", false}, {"/1", "/01", false}, {"/1", "/10", false}, {"/\xff", "/\xfe", false}, {"/-", "/0", false}, {"/a", "/A", false},
		{"a", "a", false}, {"a", "", false}, {"/~", "/~", false}, {"/~", "", false}, {"/a~", "/a", false}, {"/a", "/a/~2", false}, {"x", "x/y", false}, {" ", " ", false},
	} {
		checkClash(t, []string{c.a}, []string{c.b}, c.want)
		if c.a != "" && c.b != "" { // which would meet the others
			checkClash(t, []string{"/other", "bad", c.a, "/p/q"}, []string{"/another", "/p/r", c.b, "~", "worse"}, c.want)
		}
		if near := impl.Within(c.a, c.b); (near > 0) != c.want {
			t.Errorf("Within(%q, %q) = %d", c.a, c.b, near)
		}
	}
	checkClash(t, nil, nil, false)
	checkClash(t, nil, []string{""}, false)
	checkClash(t, []string{"a", "/~"}, []string{"", "a"}, false)
}

func TestClashMaxTouched(t *testing.T) {
	list := func(n int, name string) []string {
		var ptrs []string
		for i := range n {
			ptrs = append(ptrs, fmt.Sprintf("/%s%d", name, i))
		}
		return ptrs
	}
	most, more := list(impl.MaxTouched, "a"), list(impl.MaxTouched+1, "a")
	last := []string{fmt.Sprintf("/a%d", impl.MaxTouched-1)}
	checkClash(t, most, last, true)
	checkClash(t, more, last, false)
	checkClash(t, most, most, true)
	checkClash(t, most, more, false)
	checkClash(t, more, more, false)
	checkClash(t, most, list(impl.MaxTouched, "b"), false)
	checkClash(t, most, append(list(impl.MaxTouched-1, "b"), last...), true)
	checkClash(t, most, append(list(impl.MaxTouched, "b"), last...), false)
	// Texts that are no pointers are elements too.
	bad := slices.Repeat([]string{"x"}, impl.MaxTouched)
	checkClash(t, append(bad, "/a"), []string{"/a"}, false)
	checkClash(t, append(bad[:impl.MaxTouched-1:impl.MaxTouched-1], "/a"), []string{"/a"}, true)
}

func TestClashMadePointers(t *testing.T) {
	m := newMaker(15)
	for range 3000 {
		a, b := m.pointers(), m.pointers()
		want := false
		for _, x := range a {
			for _, y := range b {
				want = want || impl.Within(x, y) > 0
			}
		}
		checkClash(t, a, b, want)
	}
}

// pointers makes a short list of texts, most of them pointers, few of which meet.
func (m maker) pointers() []string {
	var list []string
	for range m.Intn(4) {
		ptr := ""
		for range 1 + m.Intn(3) {
			ptr += "/" + []string{"a", "b", "", "0", "~0", "~1", "ab"}[m.Intn(7)]
		}
		list = append(list, []string{ptr, ptr, ptr, ptr[1:], ptr + "~"}[m.Intn(5)])
	}
	return list
}

// eitherOrder holds two patches of one document against promise 7, and gives the codes of both orders.
func eitherOrder(t *testing.T, doc string, a, b []impl.POp) (int, int) {
	t.Helper()
	afterA, _, _ := impl.Apply(doc, a)
	afterB, _, _ := impl.Apply(doc, b)
	ab, abCode, _ := impl.Apply(afterA, b)
	ba, baCode, _ := impl.Apply(afterB, a)
	if abCode == 0 && baCode == 0 && ab != ba || abCode != 0 && abCode != 7 || baCode != 0 && baCode != 7 {
		t.Fatalf("%s with %s and %s: %s with code %d, but %s with code %d", short(doc), told(a), told(b), short(ab), abCode, short(ba), baCode)
	}
	return abCode, baCode
}

func applies(doc string, ops []impl.POp) bool {
	_, code, _ := impl.Apply(doc, ops)
	return code == 0
}

func TestPatchesThatDoNotClash(t *testing.T) {
	m := newMaker(16)
	pairs := 0
	for range 8000 {
		v := any(map[string]any{"a": []any{m.value(2), m.value(2), m.value(1)}, "b": m.value(3), "0": []any{[]any{m.value(1)}, m.value(2)}, "-": map[string]any{"x": m.value(2), "1": m.value(1)}})
		doc := canonOf(v)
		a, b := m.ops(v), m.ops(v)
		if len(a) == 0 || len(b) == 0 || !applies(doc, a) || !applies(doc, b) || impl.Clash(impl.Touched(a), impl.Touched(b)) {
			continue
		}
		pairs++
		if first, second := eitherOrder(t, doc, a, b); first != 0 || second != 0 {
			t.Fatalf("%s with %s and %s: codes %d, %d", doc, told(a), told(b), first, second)
		}
	}
	if pairs < 1000 {
		t.Errorf("only %d pairs of patches", pairs)
	}
}

// ops makes a patch of which each operation fits what the ones before it leave.
func (m maker) ops(v any) []impl.POp {
	var ops []impl.POp
	for range 1 + m.Intn(2) {
		op := m.op(v)
		if next, code := modelOp(v, op); code == 0 {
			ops, v = append(ops, op), next
		}
	}
	return ops
}

// TestPatchesThatDoNotFitTogether has a document near its limit: one order may
// fail with code 7, but with no other code.
func TestPatchesThatDoNotFitTogether(t *testing.T) {
	doc := `{"a":"","b":"","c":` + wide(impl.MaxText-30) + "}"
	a, b := patch(add("/a", wide(10))), patch(add("/b", wide(10)))
	if first, second := eitherOrder(t, doc, a, b); first != 7 || second != 7 {
		t.Errorf("codes %d, %d", first, second)
	}
	shrinks := patch(add("/b", "\"xxxxx\""), replace("/c", "0"))
	if first, second := eitherOrder(t, doc, a, shrinks); first != 7 || second != 0 {
		t.Errorf("codes %d, %d", first, second)
	}
}

// TestTouchedIsNeeded has patches whose orders differ: each pair must clash.
func TestTouchedIsNeeded(t *testing.T) {
	doc := `{"a":[1,2,3],"b":{"x":1},"c":0}`
	for _, c := range [][2][]impl.POp{
		{patch(add("/a/0", "9")), patch(replace("/a/1", "8"))},
		{patch(remove("/a/0")), patch(test("/a/2", "3"))},
		{patch(move("/a/0", "/d")), patch(replace("/a/1", "8"))},
		{patch(move("/c", "/a/0")), patch(copyOp("/a/1", "/e"))},
		{patch(copyOp("/c", "/a/-")), patch(test("/a", "[1,2,3]"))},
		{patch(add("/a/-", "1")), patch(add("/a/-", "2"))},
		{patch(copyOp("/b", "/d")), patch(replace("/b/x", "2"))},
		{patch(remove("/b")), patch(add("/b/y", "2"))},
		{patch(test("", doc)), patch(remove("/c"))},
		{patch(add("/c", "1")), patch(add("/c", "2"))},
	} {
		if !applies(doc, c[0]) || !applies(doc, c[1]) {
			t.Fatalf("%s or %s does not apply", told(c[0]), told(c[1]))
		}
		checkClash(t, impl.Touched(c[0]), impl.Touched(c[1]), true)
	}
}
