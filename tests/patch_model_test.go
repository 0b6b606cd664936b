package tests

import (
	"encoding/json"
	"fmt"
	"maps"
	"slices"
	"strconv"
	"strings"
	"unicode/utf8"

	"loop.example/s04350/impl"
)

// modelApply does well-formed operations on a made value in the plainest way.
func modelApply(v any, ops []impl.POp) (any, int, int) {
	for i, op := range ops {
		next, code := modelOp(v, op)
		if code == 0 && !modelFits(next) {
			code = 7
		}
		if code != 0 {
			return nil, code, i
		}
		v = next
	}
	return v, 0, 0
}

func modelOp(v any, op impl.POp) (any, int) {
	path, _ := impl.PtrTokens(op.Path)
	from, _ := impl.PtrTokens(op.From)
	there, isThere := modelFind(v, path)
	source, isSource := modelFind(v, from)
	switch {
	case op.Kind == impl.OpAdd:
		return modelAdd(v, path, modelRead(op.Value))
	case !isThere && op.Kind != impl.OpMove && op.Kind != impl.OpCopy || !isSource:
		return nil, 3
	case op.Kind == impl.OpRemove:
		return modelRemove(v, path)
	case op.Kind == impl.OpReplace:
		return modelSet(v, path, modelRead(op.Value)), 0
	case op.Kind == impl.OpTest && canonOf(there) != op.Value:
		return nil, 5
	case op.Kind == impl.OpTest || op.Kind == impl.OpMove && op.From == op.Path:
		return v, 0
	case op.Kind == impl.OpMove && strings.HasPrefix(op.Path, op.From+"/"):
		return nil, 6
	case op.Kind == impl.OpMove:
		v, _ = modelRemove(v, from)
	}
	return modelAdd(v, path, source)
}

// modelRead reads a canonical text with the library, and numbers as a maker makes them.
func modelRead(text string) any {
	var v any
	d := json.NewDecoder(strings.NewReader(text))
	d.UseNumber()
	if err := d.Decode(&v); err != nil {
		panic(err)
	}
	return modelNumbers(v)
}

func modelNumbers(v any) any {
	switch x := v.(type) {
	case json.Number:
		n, err := x.Int64()
		if err != nil {
			panic(err)
		}
		return n
	case []any:
		for i, item := range x {
			x[i] = modelNumbers(item)
		}
	case map[string]any:
		for key, inner := range x {
			x[key] = modelNumbers(inner)
		}
	}
	return v
}

func modelFind(v any, tokens []string) (any, bool) {
	for _, token := range tokens {
		next, ok := modelChild(v, token)
		if !ok {
			return nil, false
		}
		v = next
	}
	return v, true
}

func modelChild(v any, token string) (any, bool) {
	switch x := v.(type) {
	case []any:
		i, ok := modelIndex(token)
		if !ok || i >= len(x) {
			return nil, false
		}
		return x[i], true
	case map[string]any:
		inner, ok := x[token]
		return inner, ok
	}
	return nil, false
}

func modelIndex(token string) (int, bool) {
	i, err := strconv.Atoi(token)
	return i, err == nil && i >= 0 && fmt.Sprint(i) == token
}

// modelSet gives a copy of the value with another one at a place that is there.
func modelSet(v any, tokens []string, inner any) any {
	if len(tokens) == 0 {
		return inner
	}
	next, _ := modelChild(v, tokens[0])
	changed := modelSet(next, tokens[1:], inner)
	switch x := clone(v).(type) {
	case []any:
		i, _ := modelIndex(tokens[0])
		x[i] = changed
		return x
	case map[string]any:
		x[tokens[0]] = changed
		return x
	}
	panic("no such place")
}

func modelAdd(v any, tokens []string, inner any) (any, int) {
	if len(tokens) == 0 {
		return inner, 0
	}
	above, last := tokens[:len(tokens)-1], tokens[len(tokens)-1]
	holder, _ := modelFind(v, above)
	switch x := clone(holder).(type) {
	case []any:
		i, ok := modelIndex(last)
		if last == "-" {
			i, ok = len(x), true
		}
		if ok && i <= len(x) {
			return modelSet(v, above, slices.Insert(x, i, inner)), 0
		}
	case map[string]any:
		if utf8.ValidString(last) {
			x[last] = inner
			return modelSet(v, above, x), 0
		}
	}
	return nil, 3
}

func modelRemove(v any, tokens []string) (any, int) {
	if len(tokens) == 0 {
		return nil, 3
	}
	above, last := tokens[:len(tokens)-1], tokens[len(tokens)-1]
	holder, _ := modelFind(v, above)
	switch x := clone(holder).(type) {
	case []any:
		i, _ := modelIndex(last)
		return modelSet(v, above, slices.Delete(x, i, i+1)), 0
	case map[string]any:
		delete(x, last)
		return modelSet(v, above, x), 0
	}
	panic("no such place")
}

func clone(v any) any {
	switch x := v.(type) {
	case []any:
		return slices.Clone(x)
	case map[string]any:
		return maps.Clone(x)
	}
	return v
}

func modelFits(v any) bool {
	text := canonOf(v)
	depth, count, code := impl.Measure(text)
	return len(text) <= impl.MaxText && code == 0 && depth <= impl.MaxDepth && count <= impl.MaxValues
}
