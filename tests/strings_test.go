package tests

import (
	"strings"
	"testing"
	"unicode/utf8"

	"loop.example/s04350/impl"
)

// checkQuote holds a text against promise 2, and Quote against Canon.
func checkQuote(t *testing.T, s string) {
	t.Helper()
	text, ok := impl.Quote(s)
	if ok != (utf8.ValidString(s) && len(s) <= impl.MaxText) {
		t.Errorf("Quote(%s) says %v", short(s), ok)
	}
	if !ok {
		if text != "" {
			t.Errorf("Quote(%s) = %s beside false", short(s), short(text))
		}
		return
	}
	back, ok := impl.Unquote(text)
	if len(text) > impl.MaxText {
		if ok || back != "" {
			t.Errorf("Unquote of %d bytes = %s, %v", len(text), short(back), ok)
		}
		return
	}
	if !ok || back != s {
		t.Errorf("Unquote(Quote(%s)) = %s, %v", short(s), short(back), ok)
	}
	if canon, code := impl.Canon(text); canon != text || code != 0 {
		t.Errorf("Canon(Quote(%s)) = %s, %d", short(s), short(canon), code)
	}
}

func TestQuoteForms(t *testing.T) {
	for s, want := range map[string]string{
		"":                         `""`,
		"a b/~\x7f":                "\"a b/~\x7f\"",
		"\"\\":                     `"\"\\"`,
		"\b\t\n\f\r":               `"\b\t\n\f\r"`,
		"\x00\x07\x0b\x0e\x1a\x1f": `"\u0000\u0007\u000b\u000e\u001a\u001f"`,
		"\u00e9\u20ac\U0001F600":   "\"\u00e9\u20ac\U0001F600\"",
		"\ufffd\u2028<>&":          "\"\ufffd\u2028<>&\"",
	} {
		if got, ok := impl.Quote(s); got != want || !ok {
			t.Errorf("Quote(%q) = %s, %v; want %s", s, got, ok, want)
		}
	}
}

func TestQuoteRunes(t *testing.T) {
	for r := rune(0); r <= utf8.MaxRune; r++ {
		if r > 0x1000 && r%64 > 1 && r%64 < 63 && r < 0x10FFC0 {
			continue
		}
		if utf8.ValidRune(r) {
			checkQuote(t, string(r))
			checkQuote(t, "a"+string(r)+"\"")
		}
	}
}

func TestQuoteBytes(t *testing.T) {
	for first := range 256 {
		for second := range 256 {
			checkQuote(t, string([]byte{byte(first), byte(second)}))
			checkQuote(t, string([]byte{byte(first), byte(second), 0x80}))
			checkQuote(t, string([]byte{byte(first), byte(second), 0xbf, 0xbf}))
		}
	}
	for _, s := range []string{"\xc0\x80", "\xe0\x9f\xbf", "\xf0\x8f\xbf\xbf", "\xed\xa0\x80", "\xed\xbf\xbf", "\xf4\x90\x80\x80", "\xf5\x80\x80\x80", "ok\xff", "\x80", "\xe2\x82"} {
		if text, ok := impl.Quote(s); ok || text != "" {
			t.Errorf("Quote(%q) = %q, %v", s, text, ok)
		}
	}
}

func TestQuoteBound(t *testing.T) {
	for _, piece := range []string{"a", "\"", "\x01", "\u00e9", "\U0001F600"} {
		for _, size := range []int{impl.MaxText / 6, impl.MaxText/2 - 1, impl.MaxText / 2, impl.MaxText - 2, impl.MaxText - 1, impl.MaxText, impl.MaxText + 1} {
			s := strings.Repeat(piece, size/len(piece))
			checkQuote(t, s+strings.Repeat("a", size-len(s)))
		}
	}
	// The bound is on the bytes that are quoted, not on what comes out.
	if text, ok := impl.Quote(strings.Repeat("\x01", impl.MaxText)); !ok || len(text) != 6*impl.MaxText+2 {
		t.Errorf("%d bytes, %v", len(text), ok)
	}
	if text, ok := impl.Quote(strings.Repeat("a", impl.MaxText+1)); ok || text != "" {
		t.Errorf("%d bytes, %v", len(text), ok)
	}
}

func TestUnquoteForms(t *testing.T) {
	for text, want := range map[string]string{
		`""`:                   "",
		`"\u0041\/\\\""`:       "A/\\\"",
		`"\b\f\n\r\t\u0000"`:   "\b\f\n\r\t\x00",
		`"\ud83d\ude00\u00E9"`: "\U0001F600\u00e9",
		"\" \u20ac \x7f\"":     " \u20ac \x7f",
	} {
		if got, ok := impl.Unquote(text); got != want || !ok {
			t.Errorf("Unquote(%q) = %q, %v; want %q", text, got, ok, want)
		}
	}
}

func TestUnquoteWrong(t *testing.T) {
	for _, text := range []string{
		"", " ", `"`, `a`, `1`, `null`, `[]`, `{}`, `["a"]`, ` "a"`, `"a" `, "\"a\"\n", "\t\"a\"", `"a""b"`, `"a"b`, `"a"b"`, `"a`, `a"`, `'a'`,
		`"\"`, `"\a"`, `"\u12"`, `"\u12g4"`, `"\ud800"`, `"\udc00"`, `"\ud800\ud800"`, "\"\n\"", "\"\x00\"", "\"\x1f\"", "\"\xff\"", "\"\xc0\x80\"", "\"\xed\xa0\x80\"",
	} {
		if got, ok := impl.Unquote(text); got != "" || ok {
			t.Errorf("Unquote(%q) = %q, %v", text, got, ok)
		}
	}
}

func TestUnquoteBound(t *testing.T) {
	letters := strings.Repeat("a", impl.MaxText-2)
	if got, ok := impl.Unquote("\"" + letters + "\""); got != letters || !ok {
		t.Errorf("%s, %v", short(got), ok)
	}
	if got, ok := impl.Unquote("\"" + letters + "a\""); got != "" || ok {
		t.Errorf("%s, %v", short(got), ok)
	}
	if got, ok := impl.Unquote("\"" + strings.Repeat("\\u0041", impl.MaxText/6) + "\""); got != strings.Repeat("A", impl.MaxText/6) || !ok {
		t.Errorf("%s, %v", short(got), ok)
	}
}

// TestUnquoteAgreesWithCanon: what Unquote takes is just what Canon takes as a
// string with no blanks around it.
func TestUnquoteAgreesWithCanon(t *testing.T) {
	eachText("\"\\un0dc8 ", 5, func(text string) {
		s, ok := impl.Unquote(text)
		canon, code := impl.Canon(text)
		if isString := code == 0 && text[0] == '"' && text[len(text)-1] == '"'; ok != isString {
			t.Errorf("Unquote(%q) = %q, %v; Canon has %q, %d", text, s, ok, canon, code)
		}
		if again, _ := impl.Quote(s); ok && again != canon {
			t.Errorf("Quote(Unquote(%q)) = %q, Canon has %q", text, again, canon)
		}
	})
}
