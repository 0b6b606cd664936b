package tests

import (
	"fmt"
	"reflect"
	"slices"
	"unicode/utf8"

	"loop.example/s04350/impl"
)

// found is a hit on a made value.
type found struct {
	tokens []string
	value  any
}

// none stands for a value that is not there.
type none struct{}

// modelEval goes after valid segments on a made value in the plainest way.
func modelEval(root any, segs []impl.Seg) ([]impl.Hit, int) {
	list := []found{{nil, root}}
	for _, s := range segs {
		var next []found
		for _, hit := range list {
			visited := []found{hit}
			if s.Deep {
				visited = modelAll(nil, hit)
			}
			for _, v := range visited {
				for _, sel := range s.Sels {
					next = append(next, modelSel(root, v, sel)...)
				}
			}
		}
		if len(next) > impl.MaxHits {
			return nil, 3
		}
		list = next
	}
	var hits []impl.Hit
	for _, f := range list {
		hits = append(hits, impl.Hit{Ptr: impl.PtrText(f.tokens), Value: canonOf(f.value)})
	}
	return hits, 0
}

func modelParts(f found) []found {
	var parts []found
	switch x := f.value.(type) {
	case []any:
		for i, item := range x {
			parts = append(parts, found{append(slices.Clone(f.tokens), fmt.Sprint(i)), item})
		}
	case map[string]any:
		for _, key := range keysOf(x) {
			parts = append(parts, found{append(slices.Clone(f.tokens), key), x[key]})
		}
	}
	return parts
}

func modelAll(list []found, f found) []found {
	list = append(list, f)
	for _, p := range modelParts(f) {
		list = modelAll(list, p)
	}
	return list
}

func modelSel(root any, f found, sel impl.Sel) []found {
	parts := modelParts(f)
	_, isArray := f.value.([]any)
	var list []found
	switch {
	case sel.K == impl.SelAll:
		return parts
	case sel.K == impl.SelFilter:
		for _, p := range parts {
			if modelCond(root, p.value, sel.Cond) {
				list = append(list, p)
			}
		}
	case sel.K == impl.SelName && !isArray:
		for _, p := range parts {
			if p.tokens[len(p.tokens)-1] == sel.Name {
				list = append(list, p)
			}
		}
	case sel.K == impl.SelIndex && isArray:
		for i := range parts {
			if i == sel.A || i-len(parts) == sel.A {
				list = append(list, parts[i])
			}
		}
	case sel.K == impl.SelSlice && isArray:
		for _, i := range modelSlice(len(parts), sel) {
			list = append(list, parts[i])
		}
	}
	return list
}

// modelSlice tries every position: it is in the slice when it lies between the
// bounds and whole steps behind the start.
func modelSlice(n int, sel impl.Sel) []int {
	step := 1
	if sel.HasC {
		step = sel.C
	}
	var list []int
	for i := range n {
		if step > 0 {
			start, end := modelBound(n, sel.HasA, sel.A, 0), modelBound(n, sel.HasB, sel.B, n)
			start = max(start, 0)
			if start <= i && i < end && (i-start)%step == 0 {
				list = append(list, i)
			}
		}
		if step < 0 {
			start, end := modelBound(n, sel.HasA, sel.A, n-1), modelBound(n, sel.HasB, sel.B, -n-1)
			start = min(start, n-1)
			if end < i && i <= start && (start-i)%-step == 0 {
				list = append([]int{i}, list...)
			}
		}
	}
	return list
}

func modelBound(n int, has bool, bound, otherwise int) int {
	if !has {
		bound = otherwise
	}
	if bound < 0 {
		bound += n
	}
	return bound
}

func modelCond(root, here any, cond []impl.FOp) bool {
	var stack []any
	for _, op := range cond {
		last := len(stack) - 1
		switch op.K {
		case impl.FInt:
			stack = append(stack, int64(op.N))
		case impl.FString:
			stack = append(stack, op.S)
		case impl.FTrue, impl.FFalse:
			stack = append(stack, op.K == impl.FTrue)
		case impl.FNull:
			stack = append(stack, nil)
		case impl.FValue:
			stack = append(stack, modelRef(root, here, op))
		case impl.FLength:
			stack = append(stack, modelLength(modelRef(root, here, op)))
		case impl.FExists:
			stack = append(stack, modelRef(root, here, op) != none{})
		case impl.FCompare:
			stack = append(stack[:last-1], modelCompare(stack[last-1], stack[last], op.N))
		case impl.FAnd:
			stack = append(stack[:last-1], stack[last-1].(bool) && stack[last].(bool))
		case impl.FOr:
			stack = append(stack[:last-1], stack[last-1].(bool) || stack[last].(bool))
		case impl.FNot:
			stack[last] = !stack[last].(bool)
		}
	}
	return stack[0].(bool)
}

func modelRef(root, here any, op impl.FOp) any {
	v := here
	if op.Root {
		v = root
	}
	for _, s := range op.Steps {
		next := any(none{})
		switch x := v.(type) {
		case []any:
			for i, item := range x {
				if s.ByIndex && (i == s.Index || i == s.Index+len(x)) {
					next = item
				}
			}
		case map[string]any:
			if inner, ok := x[s.Name]; ok && !s.ByIndex {
				next = inner
			}
		}
		v = next
	}
	return v
}

func modelLength(v any) any {
	switch x := v.(type) {
	case string:
		return int64(utf8.RuneCountInString(x))
	case []any:
		return int64(len(x))
	case map[string]any:
		return int64(len(x))
	}
	return none{}
}

func modelCompare(a, b any, n int) bool {
	equal := reflect.DeepEqual(a, b)
	switch n {
	case 1:
		return equal
	case 2:
		return !equal
	case 3:
		return modelLess(a, b)
	case 4:
		return modelLess(a, b) || equal
	case 5:
		return modelLess(b, a)
	}
	return modelLess(b, a) || equal
}

func modelLess(a, b any) bool {
	switch x := a.(type) {
	case int64:
		y, ok := b.(int64)
		return ok && x < y
	case string:
		y, ok := b.(string)
		return ok && x < y
	}
	return false
}
