package tests

import (
	"fmt"
	"testing"

	"loop.example/s04350/impl"
)

func versions(list ...impl.Version) impl.Store {
	return impl.Store{Versions: list}
}

// numbered is a store of so many versions from the given number on, in each of
// which the member n is the number, and touched.
func numbered(first, count int) impl.Store {
	var s impl.Store
	for no := first; no < first+count; no++ {
		s.Versions = append(s.Versions, impl.Version{No: no, Doc: fmt.Sprintf(`{"n":%d}`, no), Touched: []string{"/n"}})
	}
	return s
}

// setN is an operation that meets all versions of a numbered store, addX one that
// meets none.
func setN() impl.POp {
	return replace("/n", "7")
}

func addX() impl.POp {
	return add("/x", "1")
}

func pending(base, tries int, doc string, ops ...impl.POp) impl.Pending {
	return impl.Pending{Ops: ops, Base: base, Doc: doc, Tries: tries}
}

func headOf(s impl.Store) impl.Version {
	return s.Versions[len(s.Versions)-1]
}

// begin calls Begin with a store that the test does not look at again.
func begin(t *testing.T, s impl.Store, text string) (impl.Pending, impl.Verdict) {
	t.Helper()
	s = roomy(s)
	answers := checkAnew(t, "Begin", []any{s, text}, func() []any {
		p, v := impl.Begin(s, text)
		return []any{p, v}
	})
	return answers[0].(impl.Pending), answers[1].(impl.Verdict)
}

func attempt(t *testing.T, s impl.Store, p impl.Pending) (impl.Store, impl.Pending, impl.Verdict) {
	t.Helper()
	s, p = roomy(s), roomy(p)
	answers := checkAnew(t, "Attempt", []any{s, p}, func() []any {
		s, p, v := impl.Attempt(s, p)
		return []any{s, p, v}
	})
	return answers[0].(impl.Store), answers[1].(impl.Pending), answers[2].(impl.Verdict)
}

func storeOk(t *testing.T, s impl.Store) bool {
	t.Helper()
	s = roomy(s)
	return checkAnew(t, "StoreOk", []any{s}, func() []any { return []any{impl.StoreOk(s)} })[0].(bool)
}

func open(t *testing.T, doc string) impl.Store {
	t.Helper()
	s, code := impl.Open(doc)
	if code != 0 {
		t.Fatalf("Open(%s) has code %d", short(doc), code)
	}
	return s
}

// publish has a patch begin and attempt with nobody between.
func publish(t *testing.T, s impl.Store, ops ...impl.POp) impl.Store {
	t.Helper()
	text, ok := impl.EncodePatch(ops)
	if !ok {
		t.Fatalf("no text of %s", told(ops))
	}
	p, v := begin(t, s, text)
	next, _, w := attempt(t, s, p)
	if v.Kind != impl.Running || w != (impl.Verdict{Kind: impl.Published, No: headOf(s).No + 1}) {
		t.Fatalf("%s at %s: %+v, then %+v", told(ops), shortly(spelled(s)), v, w)
	}
	return next
}

func checkBegin(t *testing.T, s impl.Store, text string, want impl.Pending, verdict impl.Verdict) {
	t.Helper()
	p, v := begin(t, s, text)
	if !alike(p, want) || v != verdict {
		t.Errorf("Begin(%s, %s) = %s, %+v; want %s, %+v", shortly(spelled(s)), short(text), shortly(spelled(p)), v, shortly(spelled(want)), verdict)
	}
}

func checkAttempt(t *testing.T, s impl.Store, p impl.Pending, store impl.Store, next impl.Pending, verdict impl.Verdict) {
	t.Helper()
	gotStore, gotNext, v := attempt(t, s, p)
	if !alike(gotStore, store) {
		t.Errorf("Attempt(%s, %s): the store is %s; want %s", shortly(spelled(s)), shortly(spelled(p)), shortly(spelled(gotStore)), shortly(spelled(store)))
	}
	if !alike(gotNext, next) || v != verdict {
		t.Errorf("Attempt(%s, %s) = .., %s, %+v; want %s, %+v", shortly(spelled(s)), shortly(spelled(p)), shortly(spelled(gotNext)), v, shortly(spelled(next)), verdict)
	}
}

// checkEnds has an attempt end in a verdict that leaves the store as it is.
func checkEnds(t *testing.T, s impl.Store, p impl.Pending, verdict impl.Verdict) {
	t.Helper()
	checkAttempt(t, s, p, s, impl.Pending{}, verdict)
}

// checkRefused has an attempt of something that is not valid.
func checkRefused(t *testing.T, s impl.Store, p impl.Pending) {
	t.Helper()
	checkAttempt(t, s, p, impl.Store{}, impl.Pending{}, impl.Verdict{})
}
