package tests

import (
	"fmt"
	"slices"
	"strings"

	"loop.example/s04350/impl"
)

func path(segs ...impl.Seg) []impl.Seg {
	return segs
}

func seg(sels ...impl.Sel) impl.Seg {
	return impl.Seg{Sels: sels}
}

func deep(sels ...impl.Sel) impl.Seg {
	return impl.Seg{Deep: true, Sels: sels}
}

func name(s string) impl.Sel {
	return impl.Sel{K: impl.SelName, Name: s}
}

func all() impl.Sel {
	return impl.Sel{K: impl.SelAll}
}

func index(i int) impl.Sel {
	return impl.Sel{K: impl.SelIndex, A: i}
}

// slice has nil for a bound that is left out.
func slice(a, b, c any) impl.Sel {
	s := impl.Sel{K: impl.SelSlice}
	s.A, s.HasA = a.(int)
	s.B, s.HasB = b.(int)
	s.C, s.HasC = c.(int)
	return s
}

func filter(ops ...impl.FOp) impl.Sel {
	return impl.Sel{K: impl.SelFilter, Cond: ops}
}

func number(n int) impl.FOp {
	return impl.FOp{K: impl.FInt, N: n}
}

func word(s string) impl.FOp {
	return impl.FOp{K: impl.FString, S: s}
}

func plain(kind int) impl.FOp {
	return impl.FOp{K: kind}
}

func compare(n int) impl.FOp {
	return impl.FOp{K: impl.FCompare, N: n}
}

// ref begins with "@" or "$"; steps are texts and numbers.
func ref(kind int, from string, steps ...any) impl.FOp {
	op := impl.FOp{K: kind, Root: from == "$"}
	for _, s := range steps {
		switch x := s.(type) {
		case string:
			op.Steps = append(op.Steps, impl.Step{Name: x})
		case int:
			op.Steps = append(op.Steps, impl.Step{ByIndex: true, Index: x})
		}
	}
	return op
}

func here(steps ...any) impl.FOp {
	return ref(impl.FValue, "@", steps...)
}

func exists(steps ...any) impl.FOp {
	return ref(impl.FExists, "@", steps...)
}

func length(steps ...any) impl.FOp {
	return ref(impl.FLength, "@", steps...)
}

func toldPath(segs []impl.Seg) string {
	return short(fmt.Sprintf("%+v", segs))
}

func sameFOps(a, b impl.FOp) bool {
	return a.K == b.K && a.N == b.N && a.S == b.S && a.Root == b.Root && slices.Equal(a.Steps, b.Steps)
}

func sameSels(a, b impl.Sel) bool {
	return a.K == b.K && a.Name == b.Name && a.HasA == b.HasA && a.HasB == b.HasB && a.HasC == b.HasC &&
		a.A == b.A && a.B == b.B && a.C == b.C && slices.EqualFunc(a.Cond, b.Cond, sameFOps)
}

func sameSegs(a, b []impl.Seg) bool {
	return slices.EqualFunc(a, b, func(x, y impl.Seg) bool {
		return x.Deep == y.Deep && slices.EqualFunc(x.Sels, y.Sels, sameSels)
	})
}

// copyOf gives the same segments in memory of their own.
func copyOf(segs []impl.Seg) []impl.Seg {
	segs = slices.Clone(segs)
	for i := range segs {
		segs[i].Sels = slices.Clone(segs[i].Sels)
		for j := range segs[i].Sels {
			cond := slices.Clone(segs[i].Sels[j].Cond)
			for k := range cond {
				cond[k].Steps = slices.Clone(cond[k].Steps)
			}
			segs[i].Sels[j].Cond = cond
		}
	}
	return segs
}

// written is a piece of a path in one of its writings, with what it stands for
// and how deep its prims lie.
type written struct {
	text string
	ops  []impl.FOp
	nest int
}

// path makes segments that find something in the value now and then, and a
// writing of them with the depth of its prims.
func (m maker) path(v any) ([]impl.Seg, string, int) {
	segs, text, nest := path(), "$", 0
	for range 1 + m.Intn(3) {
		s, t, n := m.seg(v)
		segs, text, nest = append(segs, s), text+t, max(nest, n)
	}
	return segs, text, nest
}

func (m maker) seg(v any) (impl.Seg, string, int) {
	s := impl.Seg{Deep: m.Intn(3) == 0}
	dot, bracket := ".", "["
	if s.Deep {
		dot, bracket = "..", "..["
	}
	switch m.Intn(6) {
	case 0:
		s.Sels = append(s.Sels, all())
		return s, dot + "*", 0
	case 1:
		s.Sels = append(s.Sels, name(m.plainName()))
		return s, dot + s.Sels[0].Name, 0
	}
	var texts []string
	nest := 0
	for range 1 + m.Intn(3) {
		sel, text, n := m.sel(v)
		s.Sels, texts, nest = append(s.Sels, sel), append(texts, text), max(nest, n)
	}
	return s, bracket + strings.Join(texts, ",") + "]", nest
}

func (m maker) sel(v any) (impl.Sel, string, int) {
	switch m.Intn(6) {
	case 0:
		key := m.key(v)
		return name(key), pathQuoted(key), 0
	case 1:
		return all(), "*", 0
	case 2:
		i := m.Intn(9) - 4
		return index(i), fmt.Sprint(i), 0
	case 3:
		bounds := []any{m.bound(), m.bound(), m.bound()}
		text := boundText(bounds[0]) + ":" + boundText(bounds[1])
		if bounds[2] != nil || m.Intn(2) == 0 {
			text += ":" + boundText(bounds[2])
		}
		return slice(bounds[0], bounds[1], bounds[2]), text, 0
	}
	cond := m.cond(v, 3)
	return filter(cond.ops...), "?" + cond.text, cond.nest
}

func (m maker) bound() any {
	if m.Intn(3) == 0 {
		return nil
	}
	return m.Intn(11) - 5
}

func boundText(bound any) string {
	if bound == nil {
		return ""
	}
	return fmt.Sprint(bound)
}

func (m maker) plainName() string {
	return []string{"a", "b", "_", "a1", "length", "true", "Z_9"}[m.Intn(7)]
}

// key is one of the value's own now and then. A name of a path has no control
// bytes, so such a key is passed over.
func (m maker) key(v any) string {
	places := placesOf(nil, nil, v)
	tokens, _ := impl.PtrTokens(places[m.Intn(len(places))].ptr)
	if len(tokens) == 0 || m.Intn(4) == 0 {
		return []string{"a", "", "'", "\\", "\xff", "it's", "a b", "\u00e9"}[m.Intn(8)]
	}
	key := tokens[len(tokens)-1]
	if strings.ContainsFunc(key, func(r rune) bool { return r < 32 }) {
		return "a"
	}
	return key
}

func pathQuoted(s string) string {
	return "'" + strings.NewReplacer("'", `\'`, `\`, `\\`).Replace(s) + "'"
}

// cond writes brackets where the form asks for them, and now and then elsewhere.
func (m maker) cond(v any, depth int) written {
	out := m.conj(v, depth)
	for m.Intn(4) == 0 {
		out = out.join("||", m.conj(v, depth), impl.FOr)
	}
	return out
}

func (m maker) conj(v any, depth int) written {
	out := m.prim(v, depth)
	for m.Intn(4) == 0 {
		out = out.join("&&", m.prim(v, depth), impl.FAnd)
	}
	return out
}

func (w written) join(sign string, next written, kind int) written {
	return written{w.text + sign + next.text, slices.Concat(w.ops, next.ops, []impl.FOp{plain(kind)}), max(w.nest, next.nest)}
}

func (m maker) prim(v any, depth int) written {
	if kind := m.Intn(6); kind == 0 && depth > 0 {
		inner := m.prim(v, depth-1)
		return written{"!" + inner.text, append(inner.ops, plain(impl.FNot)), inner.nest + 1}
	} else if kind == 1 && depth > 0 {
		inner := m.cond(v, depth-1)
		return written{"(" + inner.text + ")", inner.ops, inner.nest + 1}
	} else if kind == 2 {
		return m.ref(v, impl.FExists)
	}
	first, second, n := m.operand(v), m.operand(v), m.Intn(6)
	sign := []string{"==", "!=", "<", "<=", ">", ">="}[n]
	return written{first.text + sign + second.text, slices.Concat(first.ops, second.ops, []impl.FOp{compare(n + 1)}), 0}
}

func (m maker) operand(v any) written {
	switch m.Intn(8) {
	case 0:
		n := m.Intn(100) - 50
		return written{fmt.Sprint(n), []impl.FOp{number(n)}, 0}
	case 1:
		s := m.key(v)
		return written{pathQuoted(s), []impl.FOp{word(s)}, 0}
	case 2:
		kind := m.Intn(3)
		return written{[]string{"true", "false", "null"}[kind], []impl.FOp{plain(impl.FTrue + kind)}, 0}
	case 3:
		inner := m.ref(v, impl.FLength)
		inner.text = "length(" + inner.text + ")"
		return inner
	case 4:
		n := m.Intn(4)
		return written{fmt.Sprint(n), []impl.FOp{number(n)}, 0}
	}
	return m.ref(v, impl.FValue)
}

func (m maker) ref(v any, kind int) written {
	text, op := "@", impl.FOp{K: kind}
	if m.Intn(4) == 0 {
		text, op.Root = "$", true
	}
	for m.Intn(2) == 0 {
		step, writing := impl.Step{ByIndex: true, Index: m.Intn(7) - 3}, ""
		switch m.Intn(3) {
		case 0:
			step = impl.Step{Name: m.plainName()}
			writing = "." + step.Name
		case 1:
			step = impl.Step{Name: m.key(v)}
			writing = "[" + pathQuoted(step.Name) + "]"
		default:
			writing = fmt.Sprintf("[%d]", step.Index)
		}
		op.Steps, text = append(op.Steps, step), text+writing
	}
	return written{text, []impl.FOp{op}, 0}
}
