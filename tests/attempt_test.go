package tests

import (
	"fmt"
	"math"
	"slices"
	"strconv"
	"testing"

	"loop.example/s04350/impl"
)

func TestAttemptRefusesBases(t *testing.T) {
	for _, s := range []impl.Store{numbered(0, 1), numbered(0, 3), numbered(5, 3), numbered(1000000, impl.MaxHistory)} {
		no := headOf(s).No
		for _, base := range []int{-1, -2, no + 1, no + 2, math.MinInt, math.MaxInt, no - 1<<32, no + 1<<32} {
			for _, tries := range []int{0, impl.MaxTries} {
				checkRefused(t, s, pending(base, tries, "1", addX()))
			}
		}
	}
}

func TestAttemptRefusesTries(t *testing.T) {
	s := numbered(0, 3)
	for _, tries := range []int{-1, impl.MaxTries + 1, impl.MaxTries + 2, math.MinInt, math.MaxInt, 1 << 32} {
		checkRefused(t, s, pending(2, tries, "1", addX()))
		checkRefused(t, s, pending(1, tries, "1", addX()))
		checkRefused(t, s, pending(0, tries, "1", setN()))
	}
}

func TestAttemptRefusesDocs(t *testing.T) {
	s := numbered(0, 3)
	checkRefused(t, s, impl.Pending{})
	for _, doc := range notCanonical() {
		checkRefused(t, s, pending(2, 0, doc, addX()))
		checkRefused(t, s, pending(1, 0, doc, addX()))
		checkRefused(t, s, pending(1, impl.MaxTries, doc, addX()))
		checkRefused(t, s, pending(1, 0, doc, setN()))
	}
}

func TestAttemptRefusesOperations(t *testing.T) {
	s := numbered(0, 3)
	for _, op := range illFormed() {
		checkRefused(t, s, pending(2, 0, "1", op))
		checkRefused(t, s, pending(1, 0, "1", addX(), op))
		checkRefused(t, s, pending(1, impl.MaxTries, "1", op, addX()))
	}
	same := test("/n", "2")
	checkRefused(t, s, pending(2, 0, "1", manyOps(impl.MaxOps+1, same)...))
	checkRefused(t, s, pending(1, 0, "1", manyOps(impl.MaxOps+1, addX())...))
	most := manyOps(impl.MaxOps, same)
	checkAttempt(t, s, pending(2, 0, "1", most...), versions(append(s.Versions, impl.Version{No: 3, Doc: "1", Touched: []string{"/n"}})...), impl.Pending{}, impl.Verdict{Kind: impl.Published, No: 3})
	mostX := manyOps(impl.MaxOps, addX())
	checkAttempt(t, s, pending(1, 0, "1", mostX...), s, pending(2, 1, `{"n":2,"x":1}`, mostX...), impl.Verdict{Kind: impl.Running})
}

func TestAttemptRebases(t *testing.T) {
	s := numbered(3, 4)
	running := impl.Verdict{Kind: impl.Running}
	for base := 2; base < 6; base++ {
		for tries := range impl.MaxTries {
			checkAttempt(t, s, pending(base, tries, `"old"`, addX()), s, pending(6, tries+1, `{"n":6,"x":1}`, addX()), running)
		}
	}
	// Nothing that is touched meets nothing.
	checkAttempt(t, s, pending(4, 0, "1"), s, pending(6, 1, `{"n":6}`), running)
	beside := []impl.POp{add("/nn", "1"), copyOp("/nn", "/m"), test("/m", "1")}
	checkAttempt(t, s, pending(4, 0, "1", beside...), s, pending(6, 1, `{"m":1,"n":6,"nn":1}`, beside...), running)
	// A version in which nothing was touched is met by nothing.
	s.Versions[2].Touched, s.Versions[3].Touched = nil, nil
	checkAttempt(t, s, pending(4, 0, "1", setN()), s, pending(6, 1, `{"n":7}`, setN()), running)
	checkAttempt(t, s, pending(4, 0, "1", add("", "0")), s, pending(6, 1, "0", add("", "0")), running)
}

func TestAttemptTries(t *testing.T) {
	s := numbered(0, 3)
	contention := impl.Verdict{Kind: impl.Contention}
	checkEnds(t, s, pending(1, impl.MaxTries, "1", addX()), contention)
	// Contention comes ahead of a conflict, old or new, and of a failure.
	checkEnds(t, s, pending(1, impl.MaxTries, "1", setN()), contention)
	checkEnds(t, numbered(5, 3), pending(0, impl.MaxTries, "1", addX()), contention)
	checkEnds(t, s, pending(1, impl.MaxTries, "1", remove("/none")), contention)
	checkAttempt(t, s, pending(1, impl.MaxTries-1, "1", addX()), s, pending(2, impl.MaxTries, `{"n":2,"x":1}`, addX()), impl.Verdict{Kind: impl.Running})
	checkEnds(t, s, pending(1, impl.MaxTries-1, "1", setN()), impl.Verdict{Kind: impl.Conflict})
	checkEnds(t, s, pending(1, impl.MaxTries-1, "1", remove("/none")), impl.Verdict{Kind: impl.Failed, Code: 3})
}

// TestTriesCountUp has somebody be faster again and again.
func TestTriesCountUp(t *testing.T) {
	s := open(t, `{"n":[]}`)
	p, _ := begin(t, s, `[{"op":"add","path":"/x","value":1}]`)
	for try := 1; try <= impl.MaxTries+1; try++ {
		s = publish(t, s, add("/n/-", "1"))
		if try > impl.MaxTries {
			checkEnds(t, s, p, impl.Verdict{Kind: impl.Contention})
			break
		}
		_, next, v := attempt(t, s, p)
		if v != (impl.Verdict{Kind: impl.Running}) || next.Tries != try || next.Base != try {
			t.Fatalf("try %d: %s, %+v", try, spelled(next), v)
		}
		last, _, v := attempt(t, s, next)
		if v != (impl.Verdict{Kind: impl.Published, No: try + 1}) || headOf(last).Doc != next.Doc {
			t.Errorf("nobody was faster at try %d: %s, %+v", try, shortly(spelled(last)), v)
		}
		p = next
	}
}

func TestAttemptConflicts(t *testing.T) {
	s := numbered(0, 4)
	for i, touched := range [][]string{{"/z"}, {"/a/b", "/q"}, {"/c"}, {"/d/0", "/d/1/x"}} {
		s.Versions[i].Touched = touched
		s.Versions[i].Doc = `{"a":{"b":1,"bc":2},"c":0,"d":[[],{"x":1}],"n":0,"z":0}`
	}
	check := func(conflict bool, base int, ops ...impl.POp) {
		t.Helper()
		p := pending(base, 1, "1", ops...)
		if conflict {
			checkEnds(t, s, p, impl.Verdict{Kind: impl.Conflict})
			return
		}
		doc, code, _ := impl.Apply(headOf(s).Doc, ops)
		if code != 0 {
			t.Fatalf("%s cannot be done: %d", told(ops), code)
		}
		checkAttempt(t, s, p, s, pending(3, 2, doc, ops...), impl.Verdict{Kind: impl.Running})
	}
	// The version of the base itself is not between.
	check(false, 0, replace("/z", "1"))
	check(true, 0, replace("/a/b", "2"))
	check(false, 1, replace("/a/b", "2"))
	check(true, 0, replace("/c", "2"))
	check(true, 1, replace("/c", "2"))
	check(false, 2, replace("/c", "2"))
	check(true, 2, replace("/d/0", "2"))
	// Above, under and beside.
	check(true, 0, replace("/a", "2"))
	check(true, 0, test("", headOf(s).Doc))
	check(true, 2, test("", headOf(s).Doc))
	check(true, 1, add("/c/x", "1"))
	check(false, 0, replace("/a/bc", "2"))
	check(false, 0, add("/a/c", "2"))
	check(false, 2, add("/d/1/y", "2"), remove("/z"), add("/y", "1"))
	check(true, 2, replace("/d/1", "2"))
	check(true, 2, replace("/d/1/x", "2"))
	check(true, 2, add("/d/2", "2"))
	// One operation of several is enough, and so is what it reads.
	check(true, 1, add("/x", "1"), copyOp("/c", "/y"), add("/w", "1"))
	check(true, 1, add("/x", "1"), test("/c", "0"))
	check(false, 1, add("/x", "1"), test("/n", "0"))
}

func TestAttemptNoLongerKept(t *testing.T) {
	conflict := impl.Verdict{Kind: impl.Conflict}
	for _, count := range []int{1, 2, impl.MaxHistory} {
		s := numbered(5, count)
		no := headOf(s).No
		for base := range 4 {
			checkEnds(t, s, pending(base, 0, "1", addX()), conflict)
			checkEnds(t, s, pending(base, 3, "1"), conflict)
			checkEnds(t, s, pending(base, 0, "1", remove("/none")), conflict)
		}
		// The version just before the oldest need not be kept itself.
		doc, _, _ := impl.Apply(headOf(s).Doc, patch(addX()))
		checkAttempt(t, s, pending(4, 0, "1", addX()), s, pending(no, 1, doc, addX()), impl.Verdict{Kind: impl.Running})
	}
	far := numbered(1000000, impl.MaxHistory)
	checkEnds(t, far, pending(0, 0, "1", addX()), conflict)
	checkEnds(t, far, pending(999998, 0, "1"), conflict)
	checkAttempt(t, far, pending(999999, 0, "1"), far, pending(1000007, 1, headOf(far).Doc), impl.Verdict{Kind: impl.Running})
}

// TestAttemptFails has operations that fit their base and not the head.
func TestAttemptFails(t *testing.T) {
	s := versions(
		impl.Version{No: 0, Doc: `{"a":1,"b":[],"c":0}`},
		impl.Version{No: 1, Doc: `{"a":2,"b":0,"c":` + wide(impl.MaxText-40) + "}"},
	)
	check := func(code, at int, ops ...impl.POp) {
		t.Helper()
		checkEnds(t, s, pending(0, 0, "1", ops...), impl.Verdict{Kind: impl.Failed, Code: code, At: at})
	}
	check(3, 0, add("/b/0", "1"))
	check(3, 2, add("/x", "1"), add("/y", "1"), remove("/b/0"))
	check(5, 1, add("/x", "1"), test("/a", "1"))
	check(6, 0, move("/a", "/a/x"))
	check(7, 1, add("/x", "1"), add("/y", wide(40)))
	s.Versions[1].Touched = []string{"/a"}
	check(3, 0, add("/b/0", "1"))
	checkEnds(t, s, pending(0, 0, "1", add("/b/0", "1"), test("/a", "1")), impl.Verdict{Kind: impl.Conflict})
}

// TestAttemptWithNobodyBetween has a patch begin and attempt at many stores.
func TestAttemptWithNobodyBetween(t *testing.T) {
	m := newMaker(41)
	for range 300 {
		v := m.value(3)
		s := numbered(m.Intn(1000001), 1+m.Intn(impl.MaxHistory))
		s.Versions[len(s.Versions)-1].Doc = canonOf(v)
		ops := m.ops(v)
		if _, ok := impl.EncodePatch(ops); ok {
			publish(t, s, ops...)
		}
	}
}

// storeRun is a run of several patches on one store, with all versions that ever
// were and how often each verdict came.
type storeRun struct {
	maker
	store    impl.Store
	all      []impl.Version
	verdicts [7]int
}

func newStoreRun(seed int64, doc string) *storeRun {
	s, _ := impl.Open(doc)
	return &storeRun{maker: newMaker(seed), store: s, all: s.Versions}
}

// start begins a patch that often fits; most of a client's patches keep to its own
// member.
func (r *storeRun) start(t *testing.T, client int) (impl.Pending, bool) {
	t.Helper()
	ops := patch(add(fmt.Sprintf("/own%d", client), strconv.Itoa(r.Intn(100))))
	if r.Intn(4) == 0 {
		v := modelRead(headOf(r.store).Doc)
		ops = patch(r.op(v), r.op(v))[r.Intn(2):]
	}
	text, ok := impl.EncodePatch(ops)
	if !ok {
		return impl.Pending{}, false
	}
	p, v := begin(t, r.store, text)
	doc, code, at := impl.Apply(headOf(r.store).Doc, ops)
	want := impl.Verdict{Kind: impl.Running}
	if code != 0 {
		want = impl.Verdict{Kind: impl.Failed, Code: code, At: at}
		ops = nil
	}
	if v != want || code == 0 && !alike(p, pending(headOf(r.store).No, 0, doc, ops...)) || code != 0 && !alike(p, impl.Pending{}) {
		t.Fatalf("Begin(%s, %s) = %s, %+v", shortly(spelled(r.store)), text, spelled(p), v)
	}
	return p, code == 0
}

// expected tells from all versions that ever were what an attempt comes to, and
// the document that it has then.
func (r *storeRun) expected(p impl.Pending) (impl.Verdict, string) {
	head := len(r.all) - 1
	if p.Base == head {
		return impl.Verdict{Kind: impl.Published, No: head + 1}, p.Doc
	}
	if p.Tries == impl.MaxTries {
		return impl.Verdict{Kind: impl.Contention}, ""
	}
	if len(r.all)-impl.MaxHistory > p.Base+1 {
		return impl.Verdict{Kind: impl.Conflict}, ""
	}
	for _, v := range r.all[p.Base+1:] {
		if impl.Clash(v.Touched, impl.Touched(p.Ops)) {
			return impl.Verdict{Kind: impl.Conflict}, ""
		}
	}
	doc, code, at := impl.Apply(r.all[head].Doc, p.Ops)
	if code != 0 {
		return impl.Verdict{Kind: impl.Failed, Code: code, At: at}, ""
	}
	return impl.Verdict{Kind: impl.Running}, doc
}

// step attempts, and says whether the patch goes on.
func (r *storeRun) step(t *testing.T, p impl.Pending) (impl.Pending, bool) {
	t.Helper()
	want, doc := r.expected(p)
	r.verdicts[want.Kind]++
	next := impl.Pending{}
	switch want.Kind {
	case impl.Running:
		next = pending(len(r.all)-1, p.Tries+1, doc, p.Ops...)
	case impl.Published:
		r.all = append(slices.Clip(r.all), impl.Version{No: want.No, Doc: doc, Touched: impl.Touched(p.Ops)})
		if applied, code, _ := impl.Apply(headOf(r.store).Doc, p.Ops); applied != doc || code != 0 {
			t.Fatalf("%s is published and not %s", doc, applied)
		}
	}
	store := versions(r.all[max(0, len(r.all)-impl.MaxHistory):]...)
	checkAttempt(t, r.store, p, store, next, want)
	if !storeOk(t, store) {
		t.Fatalf("%s is not valid", spelled(store))
	}
	r.store = store
	return next, want.Kind == impl.Running
}

// TestMadeRuns has clients go on in any order, some of them slowly.
func TestMadeRuns(t *testing.T) {
	var verdicts [7]int
	for seed := range int64(40) {
		r := newStoreRun(seed, `{"a":[1,{"b":2}],"b":{"a":[],"b":1,"c":{"a":1}},"c":0,"d":{"0":{},"1":[1,2,3]},"e":"","f":[[],[1],[2,3]]}`)
		var going [8]impl.Pending
		var busy [8]bool
		for range 100 {
			client := r.Intn(1 + r.Intn(len(going)))
			if busy[client] {
				going[client], busy[client] = r.step(t, going[client])
			} else {
				going[client], busy[client] = r.start(t, client)
			}
		}
		for kind, count := range r.verdicts {
			verdicts[kind] += count
		}
	}
	for _, kind := range []int{impl.Running, impl.Published, impl.Conflict, impl.Contention} {
		if verdicts[kind] < 5 {
			t.Errorf("verdicts %v: too few of kind %d", verdicts, kind)
		}
	}
}
