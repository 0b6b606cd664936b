package tests

import (
	"fmt"
	"math"
	"slices"
	"testing"

	"loop.example/s04350/impl"
)

// someHub has two watches, one of them closed, with messages, and news that wait.
func someHub() impl.Hub {
	return waiting(watches(watch(2, "/a", 2, 5, message(6, "/a/x", "")), closed(watch(0, "", 1, 0, message(1, "/b"), over(2)))),
		news(7, "/ab", "/a"), news(8))
}

func TestSubscribe(t *testing.T) {
	for client := range impl.MaxClients {
		checkSubscribe(t, impl.Hub{}, client, "/a", 2, 5, watches(watch(client, "/a", 2, 5)), 0)
	}
	h := someHub()
	for _, client := range []int{1, impl.MaxClients - 1} {
		for _, room := range []int{1, 2, impl.MaxCap - 1, impl.MaxCap} {
			for _, ptr := range []string{"", "/", "/a/~0~1", "/\xff"} {
				for _, version := range []int{0, -1, 9, math.MinInt, math.MaxInt} {
					want := waiting(watches(h.Watches[0], h.Watches[1], watch(client, ptr, room, version)), h.Waiting...)
					checkSubscribe(t, h, client, ptr, room, version, want, 0)
				}
			}
		}
	}
}

func TestSubscribeCodes(t *testing.T) {
	for _, h := range []impl.Hub{{}, someHub()} {
		for _, client := range []int{-1, impl.MaxClients, impl.MaxClients + 1, math.MinInt, math.MaxInt, 1 << 32} {
			checkSubscribe(t, h, client, "/a", 1, 0, h, 1)
			checkSubscribe(t, h, client, "a", 0, 0, h, 1)
		}
		for _, client := range []int{0, 1, 2, impl.MaxClients - 1} {
			for _, ptr := range []string{"a", " ", "/~", "/a~2", "a/b"} {
				checkSubscribe(t, h, client, ptr, 1, 0, h, 2)
				checkSubscribe(t, h, client, ptr, 0, 0, h, 2)
			}
			for _, room := range []int{0, -1, impl.MaxCap + 1, math.MinInt, math.MaxInt, 1<<32 + 1} {
				checkSubscribe(t, h, client, "/a", room, 0, h, 3)
			}
		}
	}
	// A watch of a client that may not have one does not make its number good.
	odd := watches(watch(8, "", 1, 0), watch(-1, "", 1, 0))
	checkSubscribe(t, odd, 8, "", 1, 0, odd, 1)
	checkSubscribe(t, odd, -1, "", 1, 0, odd, 1)
}

func TestSubscribeAnew(t *testing.T) {
	h := someHub()
	checkSubscribe(t, h, 2, "/b", 3, 9, waiting(watches(h.Watches[1], watch(2, "/b", 3, 9)), h.Waiting...), 0)
	checkSubscribe(t, h, 0, "", 1, 0, waiting(watches(h.Watches[0], watch(0, "", 1, 0)), h.Waiting...), 0)
	// Of several watches the first is the one that is taken out.
	a, b, c := watch(3, "/a", 1, 0, message(1, "/a")), watch(4, "/b", 1, 0), watch(3, "/c", 1, 0)
	checkSubscribe(t, watches(a, b, c), 3, "/d", 1, 2, watches(b, c, watch(3, "/d", 1, 2)), 0)
	checkSubscribe(t, watches(b, a, a), 3, "/d", 1, 2, watches(b, a, watch(3, "/d", 1, 2)), 0)
	// The watch that is out is forgotten with its closing.
	full := waiting(watches(closed(watch(1, "", 1, 0, message(1, ""), over(2)))), news(3, "/x"))
	anew, _ := subscribe(t, full, 1, "", 1, 2)
	checkTake(t, anew, 1, anew, impl.Message{}, 2)
	checkDispatch(t, anew, watches(watch(1, "", 1, 2, message(3, "/x"))), true)
}

func TestCancel(t *testing.T) {
	h := someHub()
	checkCancel(t, h, 2, waiting(watches(h.Watches[1]), h.Waiting...), 0)
	checkCancel(t, h, 0, waiting(watches(h.Watches[0]), h.Waiting...), 0)
	for _, client := range []int{1, 3, impl.MaxClients - 1, impl.MaxClients, -1, math.MinInt, math.MaxInt} {
		checkCancel(t, h, client, h, 1)
		checkCancel(t, impl.Hub{}, client, impl.Hub{}, 1)
	}
	a, b, c := watch(3, "/a", 1, 0), watch(4, "/b", 1, 0), watch(3, "/c", 1, 0)
	checkCancel(t, watches(a, b, c), 3, watches(b, c), 0)
	checkCancel(t, watches(a, b, c), 4, watches(a, c), 0)
	checkCancel(t, watches(c), 3, impl.Hub{}, 0)
	// A hub is taken as it is, with clients of any number.
	checkCancel(t, watches(watch(-7, "x", -1, 0), a), -7, watches(a), 0)
}

func TestPublish(t *testing.T) {
	h := someHub()
	for _, ptrs := range [][]string{nil, {""}, {"/b", "/a", "/b"}, {"x", "/~", ""}} {
		for _, version := range []int{9, 7, 0, -1, math.MinInt, math.MaxInt} {
			want := waiting(h, append(slices.Clip(h.Waiting), news(version, ptrs...))...)
			if got := tellLater(t, h, version, ptrs...); !alike(got, want) {
				t.Errorf("Publish(.., %d, %q) = %s", version, ptrs, spelled(got))
			}
			if got := tellLater(t, impl.Hub{}, version, ptrs...); !alike(got, waiting(impl.Hub{}, news(version, ptrs...))) {
				t.Errorf("Publish({}, %d, %q) = %s", version, ptrs, spelled(got))
			}
		}
	}
}

func TestDispatchTakesTheFirst(t *testing.T) {
	checkDispatch(t, impl.Hub{}, impl.Hub{}, false)
	idle := watches(someHub().Watches...)
	checkDispatch(t, idle, idle, false)
	checkDispatch(t, waiting(impl.Hub{}, news(1, "")), impl.Hub{}, true)
	w := watch(1, "", 5, 0)
	three := waiting(watches(w), news(3, "/c"), news(1, "/a"), news(2, "/b"))
	w.Queue = []impl.Message{message(3, "/c")}
	checkDispatch(t, three, waiting(watches(w), news(1, "/a"), news(2, "/b")), true)
	// News that nobody hears are out too.
	checkDispatch(t, waiting(idle, news(9)), idle, true)
	checkDispatch(t, waiting(idle, news(9, "/b", "/ab")), idle, true)
}

func TestDispatchSince(t *testing.T) {
	w := watch(1, "/a", 2, 5, message(5, "/a"))
	checkHeard(t, w, news(4, "/a"))
	checkHeard(t, w, news(5, "/a"))
	checkHeard(t, w, news(6, "/a"), message(6, "/a"))
	checkHeard(t, w, news(math.MaxInt, "/a"), message(math.MaxInt, "/a"))
	checkHeard(t, w, news(math.MinInt, "/a"))
	checkHeard(t, watch(1, "", 1, math.MinInt), news(math.MinInt, ""))
	checkHeard(t, watch(1, "", 1, math.MinInt), news(math.MinInt+1, ""), message(math.MinInt+1, ""))
	checkHeard(t, watch(1, "", 1, math.MaxInt), news(math.MaxInt, ""))
	checkHeard(t, watch(1, "", 1, math.MaxInt-1), news(math.MaxInt, ""), message(math.MaxInt, ""))
	// A full Queue is not closed by news that are not told.
	checkHeard(t, watch(1, "/a", 1, 5, message(5, "/a")), news(5, "/a"))
}

func TestDispatchPointers(t *testing.T) {
	w := watch(1, "/a/b", 3, 0)
	for _, ptr := range []string{"", "/a", "/a/b", "/a/b/", "/a/b/c", "/a/b/0/~1"} {
		checkHeard(t, w, news(1, ptr), message(1, ptr))
	}
	for _, ptr := range []string{"/", "/b", "/a/", "/a/c", "/a/bc", "/a/b~1c", "/ab", "/a~1b", "/a/B", "//a/b", "a/b", "/a/b~", "/a/b/~2", " ", "x"} {
		checkHeard(t, w, news(1, ptr))
		checkHeard(t, w, news(1, ptr, "/a/b", ptr), message(1, "/a/b"))
	}
	checkHeard(t, w, news(1))
	checkHeard(t, w, news(1, "/a/b/c", "/c", "/a", "", "/a/b/c", "/a/d", "/a/b"), message(1, "/a/b/c", "/a", "", "/a/b/c", "/a/b"))
	whole := watch(1, "", 3, 0)
	checkHeard(t, whole, news(1, "/b", "/a", "x", "", "/~"), message(1, "/b", "/a", ""))
	checkHeard(t, whole, news(1))
	checkHeard(t, whole, news(1, "x", "/~2"))
	// A watch of no pointer hears nothing.
	for _, ptr := range []string{"a", "x", "/~", " "} {
		checkHeard(t, watch(1, ptr, 3, 0), news(1, "", "a", "x", "/~", " ", "/a"))
	}
}

func TestDispatchRoom(t *testing.T) {
	one, two := message(1, "/a"), message(2, "")
	checkHeard(t, watch(1, "", 1, 0), news(3, "/x"), message(3, "/x"))
	checkHeard(t, watch(1, "", 2, 0, one), news(3, "/x"), message(3, "/x"))
	checkHeard(t, watch(1, "", 3, 0, one), news(3, "/x"), message(3, "/x"))
	checkHeard(t, watch(1, "", 1, 0, one), news(3, "/x"), over(3))
	checkHeard(t, watch(1, "", 2, 0, one, two), news(3, "/x"), over(3))
	checkHeard(t, watch(1, "", 1, 0, one, two, one), news(3, "/x"), over(3))
	checkHeard(t, watch(1, "", math.MaxInt, 0, one, two), news(3, "/x"), message(3, "/x"))
	for _, room := range []int{0, -1, math.MinInt} {
		checkHeard(t, watch(1, "", room, 0), news(3, "/x"), over(3))
		checkHeard(t, watch(1, "", room, 0, one), news(3, "/x"), over(3))
	}
	// A message with Over counts as any other, and closes nothing by itself.
	checkHeard(t, watch(1, "", 2, 0, over(1)), news(3, "/x"), message(3, "/x"))
	checkHeard(t, watch(1, "", 1, 0, over(1)), news(3, "/x"), over(3))
	for _, w := range []impl.Watch{watch(1, "", 1, 0), watch(1, "", 1, 0, one), watch(1, "", 2, 0, one), watch(1, "", 1, 0, one, over(2))} {
		checkHeard(t, closed(w), news(3, "/x"))
	}
}

func TestDispatchSeveralWatches(t *testing.T) {
	h := waiting(watches(
		watch(3, "/a", 1, 0), watch(3, "/a", 1, 0, message(1, "/a")), watch(0, "/b", 1, 0), watch(3, "", 2, 0, message(1, "")), watch(-9, "/a/x", 1, 1), watch(5, "", 1, 2),
	), news(2, "/a", "/a/x/y", "/c"))
	checkDispatch(t, h, watches(
		watch(3, "/a", 1, 0, message(2, "/a", "/a/x/y")),
		closed(watch(3, "/a", 1, 0, message(1, "/a"), over(2))),
		watch(0, "/b", 1, 0),
		watch(3, "", 2, 0, message(1, ""), message(2, "/a", "/a/x/y", "/c")),
		watch(-9, "/a/x", 1, 1, message(2, "/a", "/a/x/y")),
		watch(5, "", 1, 2),
	), true)
}

func TestDispatchMaxWatches(t *testing.T) {
	for _, count := range []int{impl.MaxWatches - 1, impl.MaxWatches, impl.MaxWatches + 1, 2*impl.MaxWatches + 1} {
		h, want := waiting(impl.Hub{}, news(1, "", "/a")), impl.Hub{}
		for i := range count {
			w := watch(i, "/a", 1, 0)
			h.Watches = append(h.Watches, w)
			if i < impl.MaxWatches {
				w.Queue = []impl.Message{message(1, "", "/a")}
			}
			want.Watches = append(want.Watches, w)
		}
		checkDispatch(t, h, want, true)
		last := count - 1
		checkCancel(t, h, last, waiting(watches(h.Watches[:last]...), h.Waiting...), 0)
		if last >= impl.MaxWatches {
			checkTake(t, want, last, want, impl.Message{}, 2)
		}
	}
	// Closed watches count too.
	var h impl.Hub
	for range impl.MaxWatches {
		h.Watches = append(h.Watches, closed(watch(1, "", 1, 0)))
	}
	h.Watches = append(h.Watches, watch(1, "", 1, 0))
	checkDispatch(t, waiting(h, news(1, "")), h, true)
}

func TestTake(t *testing.T) {
	h := someHub()
	first := h.Watches[0]
	first.Queue = nil
	checkTake(t, h, 2, waiting(watches(first, h.Watches[1]), h.Waiting...), message(6, "/a/x", ""), 0)
	second := h.Watches[1]
	second.Queue = second.Queue[1:]
	checkTake(t, h, 0, waiting(watches(h.Watches[0], second), h.Waiting...), message(1, "/b"), 0)
	checkTake(t, watches(second), 0, watches(closed(watch(0, "", 1, 0))), over(2), 4)
	for _, client := range []int{1, 7, impl.MaxClients, -1, math.MinInt, math.MaxInt} {
		checkTake(t, h, client, h, impl.Message{}, 1)
	}
	empty, shut := watch(3, "/a", 1, 0), closed(watch(4, "/a", 1, 0))
	both := waiting(watches(empty, shut), news(9, "/a"))
	checkTake(t, both, 3, both, impl.Message{}, 2)
	checkTake(t, both, 4, both, impl.Message{}, 3)
	// A hub is taken as it is: an Over one that has pointers, that is not the last, of a watch that is not closed.
	odd := impl.Message{Version: -4, Ptrs: []string{"x"}, Over: true}
	checkTake(t, watches(watch(99, "x", 0, 0, odd, message(1))), 99, watches(watch(99, "x", 0, 0, message(1))), odd, 4)
	// Of several watches the first is meant, though the second has messages.
	twice := watches(empty, watch(3, "", 1, 0, message(1, "")))
	checkTake(t, twice, 3, twice, impl.Message{}, 2)
	twice = watches(closed(empty), watch(3, "", 1, 0, message(1, "")))
	checkTake(t, twice, 3, twice, impl.Message{}, 3)
}

// TestWatchToItsEnd fills a watch of each room, and takes all out.
func TestWatchToItsEnd(t *testing.T) {
	for _, room := range []int{1, 2, 7, impl.MaxCap} {
		h, _ := subscribe(t, impl.Hub{}, 0, "/a", room, 0)
		for version := 1; version <= room+3; version++ {
			h, _ = dispatch(t, tellLater(t, h, version, "/b", "/a"))
		}
		if queue := h.Watches[0].Queue; len(queue) != room+1 || !h.Watches[0].Closed || len(h.Waiting) != 0 {
			t.Fatalf("room %d: %s", room, shortly(spelled(h)))
		}
		for version := 1; version <= room+1; version++ {
			want, code := message(version, "/a"), 0
			if version > room {
				want, code = over(version), 4
			}
			next, m, c := take(t, h, 0)
			if !alike(m, want) || c != code {
				t.Fatalf("room %d: %s, %d; want %s, %d", room, spelled(m), c, spelled(want), code)
			}
			// What is taken out makes no room: a closed watch stays closed.
			h, _ = dispatch(t, tellLater(t, next, 1000, "/a"))
		}
		checkTake(t, h, 0, h, impl.Message{}, 3)
	}
}

// listener is what a watch should come to, told from the news alone.
type listener struct {
	watch impl.Watch
	heard []impl.Message
	taken int
}

func (l *listener) hear(n impl.News) {
	var near []string
	for _, ptr := range n.Ptrs {
		if impl.Within(l.watch.Ptr, ptr) > 0 {
			near = append(near, ptr)
		}
	}
	if l.watch.Closed || n.Version <= l.watch.Since || near == nil {
		return
	}
	m := message(n.Version, near...)
	if len(l.heard)-l.taken == l.watch.Cap {
		m = over(n.Version)
		l.watch.Closed = true
	}
	l.heard = append(l.heard, m)
}

// take gives what Take gives.
func (l *listener) take() (impl.Message, int) {
	if l == nil {
		return impl.Message{}, 1
	}
	if l.taken == len(l.heard) && l.watch.Closed {
		return impl.Message{}, 3
	}
	if l.taken == len(l.heard) {
		return impl.Message{}, 2
	}
	l.taken++
	if m := l.heard[l.taken-1]; m.Over {
		return m, 4
	}
	return l.heard[l.taken-1], 0
}

// hubRun is a run of calls on one hub, with what each client's watch should hear.
type hubRun struct {
	maker
	hub       impl.Hub
	listeners [impl.MaxClients]*listener
	order     []int
	waiting   []impl.News
	version   int
	codes     [5]int
}

// expected is the hub as the run tells it.
func (r *hubRun) expected() impl.Hub {
	h := waiting(impl.Hub{}, r.waiting...)
	for _, client := range r.order {
		l := r.listeners[client]
		w := l.watch
		w.Queue = l.heard[l.taken:]
		h.Watches = append(h.Watches, w)
	}
	return h
}

func (r *hubRun) leave(client int) {
	r.listeners[client] = nil
	r.order = slices.DeleteFunc(r.order, func(c int) bool { return c == client })
}

func (r *hubRun) step(t *testing.T) {
	t.Helper()
	client, code, want := r.Intn(impl.MaxClients), 0, 0
	switch choice := r.Intn(20); {
	case choice < 2:
		w := watch(client, r.somewhere(), 1+r.Intn(4), max(0, r.version-r.Intn(3)))
		r.hub, code = subscribe(t, r.hub, client, w.Ptr, w.Cap, w.Since)
		r.leave(client)
		r.listeners[client] = &listener{watch: w}
		r.order = append(r.order, client)
	case choice == 2:
		if r.listeners[client] == nil {
			want = 1
		}
		r.hub, code = cancel(t, r.hub, client)
		r.leave(client)
	case choice < 8:
		r.version++
		n := news(r.version, r.somewhere(), r.somewhere(), r.somewhere())
		n.Ptrs = n.Ptrs[r.Intn(4):]
		r.hub = tellLater(t, r.hub, n.Version, n.Ptrs...)
		r.waiting = append(r.waiting, n)
	case choice < 14:
		r.dispatch(t)
	default:
		var m, wantM impl.Message
		r.hub, m, code = take(t, r.hub, client)
		wantM, want = r.listeners[client].take()
		r.codes[want]++
		if !alike(m, wantM) {
			t.Fatalf("client %d takes %s; want %s", client, spelled(m), spelled(wantM))
		}
	}
	if code != want {
		t.Fatalf("client %d: code %d; want %d", client, code, want)
	}
}

func (r *hubRun) dispatch(t *testing.T) {
	t.Helper()
	var ok bool
	r.hub, ok = dispatch(t, r.hub)
	if ok != (len(r.waiting) > 0) {
		t.Fatalf("Dispatch says %v with %d news", ok, len(r.waiting))
	}
	if !ok {
		return
	}
	for _, client := range r.order {
		r.listeners[client].hear(r.waiting[0])
	}
	r.waiting = r.waiting[1:]
}

// somewhere makes a pointer of few tokens, so that many of them meet.
func (m maker) somewhere() string {
	ptr := ""
	for range m.Intn(4) {
		ptr += fmt.Sprintf("/%c", 'a'+m.Intn(2))
	}
	return ptr
}

func TestMadeHubs(t *testing.T) {
	var codes [5]int
	for seed := range int64(30) {
		r := &hubRun{maker: newMaker(seed)}
		for range 200 {
			r.step(t)
			if want := r.expected(); !alike(r.hub, want) {
				t.Fatalf("seed %d: the hub is %s; want %s", seed, spelled(r.hub), spelled(want))
			}
		}
		for code, count := range r.codes {
			codes[code] += count
		}
	}
	for code, count := range codes {
		if count < 20 {
			t.Errorf("codes of Take %v: too few of %d", codes, code)
		}
	}
}
