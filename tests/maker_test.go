package tests

import (
	"fmt"
	"math/rand"
	"sort"
	"strings"
)

// maker makes values for tests, the same ones in each run.
type maker struct {
	*rand.Rand
}

func newMaker(seed int64) maker {
	return maker{rand.New(rand.NewSource(seed))}
}

// value is nil, a bool, an int64, a string, a []any or a map[string]any.
func (m maker) value(depth int) any {
	kinds := 6
	if depth <= 1 {
		kinds = 4
	}
	switch m.Intn(kinds) {
	case 0:
		return []any{nil, true, false}[m.Intn(3)]
	case 1:
		return int64(m.Intn(100) - 50)
	case 2:
		return int64(m.Uint64())
	case 3:
		return m.text()
	case 4:
		list := []any{}
		for range m.Intn(4) {
			list = append(list, m.value(depth-1))
		}
		return list
	}
	members := map[string]any{}
	for range m.Intn(4) {
		members[m.text()] = m.value(depth - 1)
	}
	return members
}

// text is short, so that keys meet, and has runes of all lengths.
func (m maker) text() string {
	runes := []rune("ab01~/\"\\ \x00\b\t\n\f\r\x1f\x7f\u0080\u00e9\u07ff\u0800\u20ac\ufffd\uffff\U00010000\U0010FFFF")
	s := ""
	for range m.Intn(4) {
		s += string(runes[m.Intn(len(runes))])
	}
	return s
}

// canonOf writes the canonical text of a made value.
func canonOf(v any) string {
	switch x := v.(type) {
	case nil:
		return "null"
	case string:
		return quoted(x, plainPiece)
	case []any:
		var items []string
		for _, item := range x {
			items = append(items, canonOf(item))
		}
		return "[" + strings.Join(items, ",") + "]"
	case map[string]any:
		var members []string
		for _, key := range keysOf(x) {
			members = append(members, canonOf(key)+":"+canonOf(x[key]))
		}
		return "{" + strings.Join(members, ",") + "}"
	}
	return fmt.Sprint(v)
}

func keysOf(members map[string]any) []string {
	var keys []string
	for key := range members {
		keys = append(keys, key)
	}
	sort.Strings(keys)
	return keys
}

func quoted(s string, piece func(r rune) string) string {
	out := "\""
	for _, r := range s {
		out += piece(r)
	}
	return out + "\""
}

func plainPiece(r rune) string {
	escapes := map[rune]string{'"': `\"`, '\\': `\\`, 8: `\b`, 9: `\t`, 10: `\n`, 12: `\f`, 13: `\r`}
	if e := escapes[r]; e != "" {
		return e
	}
	if r < 32 {
		return fmt.Sprintf(`\u%04x`, r)
	}
	return string(r)
}

// spell writes a made value with blanks, members and escapes as they fall.
func (m maker) spell(v any) string {
	return m.blanks() + m.bare(v) + m.blanks()
}

func (m maker) blanks() string {
	return []string{"", "", "", " ", "\t", "\r\n", "  "}[m.Intn(7)]
}

func (m maker) bare(v any) string {
	switch x := v.(type) {
	case int64:
		if x == 0 && m.Intn(2) == 0 {
			return "-0"
		}
	case string:
		return quoted(x, m.piece)
	case []any:
		if len(x) == 0 {
			return "[" + m.blanks() + "]"
		}
		var items []string
		for _, item := range x {
			items = append(items, m.spell(item))
		}
		return "[" + strings.Join(items, ",") + "]"
	case map[string]any:
		if len(x) == 0 {
			return "{" + m.blanks() + "}"
		}
		var members []string
		for _, key := range keysOf(x) {
			members = append(members, m.spell(key)+":"+m.spell(x[key]))
		}
		m.Shuffle(len(members), func(i, j int) { members[i], members[j] = members[j], members[i] })
		return "{" + strings.Join(members, ",") + "}"
	}
	return canonOf(v)
}

func (m maker) piece(r rune) string {
	switch m.Intn(4) {
	case 0:
		return m.hexPiece(r)
	case 1:
		if r == '/' {
			return `\/`
		}
	}
	return plainPiece(r)
}

func (m maker) hexPiece(r rune) string {
	form := []string{`\u%04x`, `\u%04X`}[m.Intn(2)]
	if r < 0x10000 {
		return fmt.Sprintf(form, r)
	}
	r -= 0x10000
	return fmt.Sprintf(form, 0xd800+r>>10) + fmt.Sprintf(form, 0xdc00+r&0x3ff)
}
