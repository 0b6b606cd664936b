package tests

import (
	"fmt"
	"slices"
	"strconv"
	"strings"

	"loop.example/s04350/impl"
)

func add(path, value string) impl.POp {
	return impl.POp{Kind: impl.OpAdd, Path: path, Value: value}
}

func remove(path string) impl.POp {
	return impl.POp{Kind: impl.OpRemove, Path: path}
}

func replace(path, value string) impl.POp {
	return impl.POp{Kind: impl.OpReplace, Path: path, Value: value}
}

func move(from, path string) impl.POp {
	return impl.POp{Kind: impl.OpMove, From: from, Path: path}
}

func copyOp(from, path string) impl.POp {
	return impl.POp{Kind: impl.OpCopy, From: from, Path: path}
}

func test(path, value string) impl.POp {
	return impl.POp{Kind: impl.OpTest, Path: path, Value: value}
}

func patch(ops ...impl.POp) []impl.POp {
	return ops
}

func manyOps(n int, op impl.POp) []impl.POp {
	return slices.Repeat(patch(op), n)
}

func told(ops []impl.POp) string {
	return short(fmt.Sprintf("%+v", ops))
}

// illFormed lists operations with one fault each.
func illFormed() []impl.POp {
	list := []impl.POp{
		{}, {Kind: 7, Value: "1"}, {Kind: 7}, {Kind: -1}, {Kind: 1 << 40}, {Kind: 0, Path: "/a", Value: "1"},
		add("a", "1"), add("/~", "1"), add("/a~2", "1"), add("/a/~b", "1"), add(" ", "1"), remove("a"), replace("/~", "1"), test("x/", "1"),
		move("/a", "b"), move("a", "/b"), move("/~", "/b"), copyOp("/a", "b"), copyOp("a", "/b"), copyOp("/a~", "/b"), copyOp(" ", ""),
		{Kind: impl.OpRemove, Path: "/a", Value: "1"}, {Kind: impl.OpMove, From: "/a", Path: "/b", Value: "null"}, {Kind: impl.OpCopy, From: "/a", Path: "/b", Value: " "},
	}
	for _, kind := range []int{impl.OpAdd, impl.OpReplace, impl.OpTest} {
		list = append(list, impl.POp{Kind: kind, Path: "/a", From: "/a", Value: "1"}, impl.POp{Kind: kind, From: "a", Value: "1"})
		for _, value := range notCanonical() {
			list = append(list, impl.POp{Kind: kind, Value: value})
		}
	}
	return append(list, impl.POp{Kind: impl.OpRemove, Path: "/a", From: "/a"})
}

func notCanonical() []string {
	return []string{
		"", " ", " 1", "1 ", "[1, 2]", "-0", "01", `"\u0041"`, `"\/"`, `"\u001F"`, `{"b":1,"a":2}`, "{ }", "x", "1 2", "\xff", "\"\xff\"",
		"9223372036854775808", `{"a":1,"a":1}`, nest(impl.MaxDepth+1, "[", "]", ""), flat(impl.MaxValues + 1), wide(impl.MaxText + 1),
	}
}

// flat is an array with the given count.
func flat(count int) string {
	if count == 1 {
		return "[]"
	}
	return "[" + strings.Repeat("1,", count-2) + "1]"
}

// wide is a string whose canonical text has the given number of bytes.
func wide(size int) string {
	return "\"" + strings.Repeat("x", size-2) + "\""
}

// op makes an operation that is well formed and often fits the value.
func (m maker) op(v any) impl.POp {
	path, from, value := m.place(v), m.place(v), canonOf(m.value(2))
	switch m.Intn(6) {
	case 0:
		return add(path, value)
	case 1:
		return remove(path)
	case 2:
		return replace(path, value)
	case 3:
		return move(from, path)
	case 4:
		return copyOp(from, path)
	}
	if places := placesOf(nil, nil, v); m.Intn(8) > 0 {
		there := places[m.Intn(len(places))]
		return test(there.ptr, there.text)
	}
	return test(path, value)
}

// place makes a pointer to a place of the value, or near to one.
func (m maker) place(v any) string {
	places := placesOf(nil, nil, v)
	ptr := places[m.Intn(len(places))].ptr
	switch m.Intn(8) {
	case 0:
		return ptr + "/-"
	case 1:
		return ptr + "/" + strconv.Itoa(m.Intn(4))
	case 2:
		return ptr + impl.PtrText([]string{m.text()})
	}
	return ptr
}
