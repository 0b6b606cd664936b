package tests

import (
	"fmt"
	"reflect"
	"strings"
	"testing"
)

// spelled writes a value so that only equal ones are written alike; a list is the
// same whether it is nil or empty.
func spelled(v any) string {
	var b strings.Builder
	spellTo(&b, reflect.ValueOf(v), reflect.Value.Len)
	return b.String()
}

// spelledWhole writes the spare places behind each list too.
func spelledWhole(v any) string {
	var b strings.Builder
	spellTo(&b, reflect.ValueOf(v), reflect.Value.Cap)
	return b.String()
}

func spellTo(b *strings.Builder, v reflect.Value, length func(reflect.Value) int) {
	switch v.Kind() {
	case reflect.Interface:
		spellTo(b, v.Elem(), length)
	case reflect.Slice:
		b.WriteByte('[')
		whole := v.Slice(0, length(v))
		for i := range whole.Len() {
			spellTo(b, whole.Index(i), length)
			b.WriteByte(' ')
		}
		b.WriteByte(']')
	case reflect.Struct:
		b.WriteByte('{')
		for i := range v.NumField() {
			b.WriteString(v.Type().Field(i).Name + ":")
			spellTo(b, v.Field(i), length)
			b.WriteByte(' ')
		}
		b.WriteByte('}')
	case reflect.String:
		fmt.Fprintf(b, "%q", v.String())
	default:
		fmt.Fprint(b, v)
	}
}

func alike(a, b any) bool {
	return spelled(a) == spelled(b)
}

// roomy gives the same value in memory of its own, with spare places behind each
// list, as a caller may have them.
func roomy[T any](v T) T {
	return roomyValue(reflect.ValueOf(&v).Elem()).Interface().(T)
}

func roomyValue(v reflect.Value) reflect.Value {
	switch v.Kind() {
	case reflect.Slice:
		list := reflect.MakeSlice(v.Type(), v.Len(), v.Len()+2)
		for i := range v.Len() {
			list.Index(i).Set(roomyValue(v.Index(i)))
		}
		return list
	case reflect.Struct:
		whole := reflect.New(v.Type()).Elem()
		for i := range v.NumField() {
			whole.Field(i).Set(roomyValue(v.Field(i)))
		}
		return whole
	}
	return v
}

// span is where a list lies, with its spare places.
type span struct {
	start, end uintptr
}

func spans(list []span, v reflect.Value) []span {
	switch v.Kind() {
	case reflect.Slice:
		if size := uintptr(v.Cap()) * v.Type().Elem().Size(); size > 0 {
			list = append(list, span{v.Pointer(), v.Pointer() + size})
		}
		for i := range v.Len() {
			list = spans(list, v.Index(i))
		}
	case reflect.Struct:
		for i := range v.NumField() {
			list = spans(list, v.Field(i))
		}
	}
	return list
}

func (s span) meets(others []span) bool {
	for _, other := range others {
		if s.start < other.end && other.start < s.end {
			return true
		}
	}
	return false
}

// sharing tells which memory of answers is not new, or nothing.
func sharing(args, answers []any) string {
	var given, made []span
	for _, arg := range args {
		given = spans(given, reflect.ValueOf(arg))
	}
	for _, answer := range answers {
		made = spans(made, reflect.ValueOf(answer))
	}
	for i, s := range made {
		switch {
		case s.meets(given):
			return "a list of the answer shares memory with an argument"
		case s.meets(made[:i]):
			return "two lists of the answer share memory"
		}
	}
	return ""
}

// checkAnew calls a function and checks that nothing is written into its arguments,
// that its answers are new memory, and that it answers the same when asked again.
func checkAnew(t *testing.T, name string, args []any, call func() []any) []any {
	t.Helper()
	before := spelledWhole(args)
	answers := call()
	if after := spelledWhole(args); after != before {
		t.Errorf("%s(%s) writes into its arguments: %s", name, shortly(before), shortly(after))
	}
	if why := sharing(args, answers); why != "" {
		t.Errorf("%s(%s): %s", name, shortly(before), why)
	}
	if again := call(); !alike(again, answers) {
		t.Errorf("%s(%s) = %s, then %s", name, shortly(before), shortly(spelled(answers)), shortly(spelled(again)))
	}
	return answers
}

func shortly(s string) string {
	if len(s) > 400 {
		return fmt.Sprintf("%s.. (%d bytes)", s[:400], len(s))
	}
	return s
}

// TestSharing has the check of memory find what it is for.
func TestSharing(t *testing.T) {
	type holder struct{ Lists [][]string }
	long := []string{"a", "b", "c", "d"}
	for _, c := range []struct {
		args, answers []any
		shares        bool
	}{
		{[]any{holder{[][]string{long}}}, []any{[]string{"a"}}, false},
		{[]any{holder{[][]string{long}}}, []any{long[1:2]}, true},
		{[]any{long[:2:2]}, []any{long[2:]}, false},
		{[]any{long[:2]}, []any{long[2:]}, true},
		{nil, []any{holder{[][]string{long[:1], long[1:]}}}, true},
		{nil, []any{holder{[][]string{long[:1:1], long[1:]}}}, false},
		{nil, []any{long, 7, "a", holder{}, holder{[][]string{{}, nil}}}, false},
	} {
		if why := sharing(c.args, c.answers); (why != "") != c.shares {
			t.Errorf("%s and %s: %q", spelled(c.args), spelled(c.answers), why)
		}
	}
	if room := roomy(holder{[][]string{long}}); !alike(room, holder{[][]string{long}}) || cap(room.Lists) != 3 || cap(room.Lists[0]) != 6 {
		t.Errorf("%s with %d and %d places", spelled(room), cap(room.Lists), cap(room.Lists[0]))
	}
	if alike([]string{"a b"}, []string{"a", "b"}) || alike("1", 1) || !alike([]string(nil), []string{}) {
		t.Errorf("spelled tells too much or too little")
	}
}
