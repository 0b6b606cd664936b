package tests

import (
	"regexp"
	"slices"
	"strings"
	"testing"

	"loop.example/s04350/impl"
)

func checkTokens(t *testing.T, tokens []string) {
	t.Helper()
	before := slices.Clone(tokens)
	ptr := impl.PtrText(tokens)
	got, ok := impl.PtrTokens(ptr)
	if !ok || !slices.Equal(got, tokens) {
		t.Errorf("PtrTokens(PtrText(%q)) = %q, %v", tokens, got, ok)
	}
	if !slices.Equal(before, tokens) {
		t.Errorf("PtrText changed %q to %q", before, tokens)
	}
}

// eachTokens goes through all lists of up to three of some tokens.
func eachTokens(see func(tokens []string)) {
	some := []string{"", "a", "~", "/", "~0", "~1", "01", "~01", "a/b~c"}
	var grow func(tokens []string)
	grow = func(tokens []string) {
		see(tokens)
		if len(tokens) == 3 {
			return
		}
		for _, token := range some {
			grow(append(slices.Clone(tokens), token))
		}
	}
	grow(nil)
}

func TestPtrTextForms(t *testing.T) {
	for _, c := range []struct {
		ptr    string
		tokens []string
	}{
		{"", nil},
		{"/", []string{""}},
		{"//", []string{"", ""}},
		{"/a", []string{"a"}},
		{"/a/", []string{"a", ""}},
		{"/a/b/0", []string{"a", "b", "0"}},
		{"/~0", []string{"~"}},
		{"/~1", []string{"/"}},
		{"/~01", []string{"~1"}},
		{"/~10", []string{"/0"}},
		{"/~0~1~1~0", []string{"~//~"}},
		{"/~00/~11", []string{"~0", "/1"}},
		{"/a~1b/~0", []string{"a/b", "~"}},
		{"/-/ /\n", []string{"-", " ", "\n"}},
		{"/\x00\xff\xc0/\u20ac", []string{"\x00\xff\xc0", "\u20ac"}},
		{"/\"\\", []string{"\"\\"}},
	} {
		if got := impl.PtrText(c.tokens); got != c.ptr {
			t.Errorf("PtrText(%q) = %q, want %q", c.tokens, got, c.ptr)
		}
		if got, ok := impl.PtrTokens(c.ptr); !slices.Equal(got, c.tokens) || !ok {
			t.Errorf("PtrTokens(%q) = %q, %v; want %q", c.ptr, got, ok, c.tokens)
		}
	}
}

func TestPtrTokensWrong(t *testing.T) {
	for _, ptr := range []string{"a", "a/b", " /a", "~0", "~", "#", "#/a", "\x00", "/~", "/a~", "/~/a", "/~2", "/~a", "/~~", "/~~0", "/~\xff", "/a/b~/c", "/a/~2/c", "/ok/~"} {
		if got, ok := impl.PtrTokens(ptr); len(got) != 0 || ok {
			t.Errorf("PtrTokens(%q) = %q, %v", ptr, got, ok)
		}
	}
}

func TestPtrTokensUndoPtrText(t *testing.T) {
	eachTokens(func(tokens []string) { checkTokens(t, tokens) })
	for c := range 256 {
		checkTokens(t, []string{string([]byte{byte(c)}), "x" + string([]byte{byte(c), byte(c)})})
	}
	checkTokens(t, []string{strings.Repeat("~/", 50000), strings.Repeat("a", 100000)})
	checkTokens(t, make([]string, 100000))
}

// TestPtrTokensShortTexts asks of every short text whether it is a pointer, and
// that PtrText writes each pointer as it stood.
func TestPtrTokensShortTexts(t *testing.T) {
	form := regexp.MustCompile(`^(/([^~/]|~[01])*)*$`)
	eachText("/~012a", 6, func(text string) {
		tokens, ok := impl.PtrTokens(text)
		if ok != form.MatchString(text) {
			t.Errorf("PtrTokens(%q) = %q, %v", text, tokens, ok)
		}
		if ok && impl.PtrText(tokens) != text {
			t.Errorf("PtrText(PtrTokens(%q)) = %q", text, impl.PtrText(tokens))
		}
	})
}

func TestPtrTokensNewMemory(t *testing.T) {
	first, _ := impl.PtrTokens("/a/b")
	first[0] = "changed"
	_ = append(first[:1], "more")
	if second, _ := impl.PtrTokens("/a/b"); !slices.Equal(second, []string{"a", "b"}) {
		t.Errorf("%q", second)
	}
}

func TestWithinForms(t *testing.T) {
	for _, c := range []struct {
		a, b string
		want int
	}{
		{"", "", 1}, {"/", "/", 1}, {"/a/b", "/a/b", 1}, {"/~0~1", "/~0~1", 1},
		{"", "/", 2}, {"", "/a", 2}, {"/a", "/a/", 2}, {"/a", "/a/b/c", 2}, {"/", "//", 2}, {"/~1", "/~1/a", 2},
		{"/", "", 3}, {"/a/b", "", 3}, {"/a/", "/a", 3}, {"/a/b/c", "/a/b", 3}, {"//", "/", 3},
		{"/a", "/b", 0}, {"/a", "/ab", 0}, {"/ab", "/a", 0}, {"/a/b", "/a/c", 0}, {"/a/b", "/b", 0}, {"/a", "/b/a", 0}, {"/", "/a", 0}, {"/0", "/00", 0}, {"/~0", "/~1", 0}, {"/a~1b", "/a/b", 0}, {"/a~1b", "/a", 0},
		{"a", "/a", -1}, {"/a", "a", -1}, {"a", "a", -1}, {"~", "", -1}, {"", "/~", -1}, {"/~2", "/~2", -1}, {"/a", "/a/~", -1}, {"/a/~", "/a", -1},
	} {
		if got := impl.Within(c.a, c.b); got != c.want {
			t.Errorf("Within(%q, %q) = %d, want %d", c.a, c.b, got, c.want)
		}
	}
}

func TestWithinAgreesWithTokens(t *testing.T) {
	var lists [][]string
	eachTokens(func(tokens []string) {
		if len(tokens) < 3 || tokens[0] == "~" || tokens[0] == "" {
			lists = append(lists, tokens)
		}
	})
	for _, a := range lists {
		for _, b := range lists {
			want := 0
			switch {
			case slices.Equal(a, b):
				want = 1
			case len(a) < len(b) && slices.Equal(a, b[:len(a)]):
				want = 2
			case len(b) < len(a) && slices.Equal(b, a[:len(b)]):
				want = 3
			}
			if got := impl.Within(impl.PtrText(a), impl.PtrText(b)); got != want {
				t.Errorf("Within of %q and %q = %d, want %d", a, b, got, want)
			}
		}
	}
}
