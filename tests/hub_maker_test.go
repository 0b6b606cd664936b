package tests

import (
	"testing"

	"loop.example/s04350/impl"
)

func watches(list ...impl.Watch) impl.Hub {
	return impl.Hub{Watches: list}
}

func watch(client int, ptr string, room, since int, queue ...impl.Message) impl.Watch {
	return impl.Watch{Client: client, Ptr: ptr, Cap: room, Since: since, Queue: queue}
}

func closed(w impl.Watch) impl.Watch {
	w.Closed = true
	return w
}

func message(version int, ptrs ...string) impl.Message {
	return impl.Message{Version: version, Ptrs: ptrs}
}

func over(version int) impl.Message {
	return impl.Message{Version: version, Over: true}
}

func news(version int, ptrs ...string) impl.News {
	return impl.News{Version: version, Ptrs: ptrs}
}

func waiting(h impl.Hub, list ...impl.News) impl.Hub {
	h.Waiting = list
	return h
}

func subscribe(t *testing.T, h impl.Hub, client int, ptr string, room, version int) (impl.Hub, int) {
	t.Helper()
	h = roomy(h)
	answers := checkAnew(t, "Subscribe", []any{h, client, ptr, room, version}, func() []any {
		h, code := impl.Subscribe(h, client, ptr, room, version)
		return []any{h, code}
	})
	return answers[0].(impl.Hub), answers[1].(int)
}

func cancel(t *testing.T, h impl.Hub, client int) (impl.Hub, int) {
	t.Helper()
	h = roomy(h)
	answers := checkAnew(t, "Cancel", []any{h, client}, func() []any {
		h, code := impl.Cancel(h, client)
		return []any{h, code}
	})
	return answers[0].(impl.Hub), answers[1].(int)
}

func tellLater(t *testing.T, h impl.Hub, version int, ptrs ...string) impl.Hub {
	t.Helper()
	h, ptrs = roomy(h), roomy(ptrs)
	return checkAnew(t, "Publish", []any{h, version, ptrs}, func() []any { return []any{impl.Publish(h, version, ptrs)} })[0].(impl.Hub)
}

func dispatch(t *testing.T, h impl.Hub) (impl.Hub, bool) {
	t.Helper()
	h = roomy(h)
	answers := checkAnew(t, "Dispatch", []any{h}, func() []any {
		h, ok := impl.Dispatch(h)
		return []any{h, ok}
	})
	return answers[0].(impl.Hub), answers[1].(bool)
}

func take(t *testing.T, h impl.Hub, client int) (impl.Hub, impl.Message, int) {
	t.Helper()
	h = roomy(h)
	answers := checkAnew(t, "Take", []any{h, client}, func() []any {
		h, m, code := impl.Take(h, client)
		return []any{h, m, code}
	})
	return answers[0].(impl.Hub), answers[1].(impl.Message), answers[2].(int)
}

func checkSubscribe(t *testing.T, h impl.Hub, client int, ptr string, room, version int, want impl.Hub, code int) {
	t.Helper()
	if got, c := subscribe(t, h, client, ptr, room, version); !alike(got, want) || c != code {
		t.Errorf("Subscribe(%s, %d, %q, %d, %d) = %s, %d; want %s, %d", shortly(spelled(h)), client, ptr, room, version, shortly(spelled(got)), c, shortly(spelled(want)), code)
	}
}

func checkCancel(t *testing.T, h impl.Hub, client int, want impl.Hub, code int) {
	t.Helper()
	if got, c := cancel(t, h, client); !alike(got, want) || c != code {
		t.Errorf("Cancel(%s, %d) = %s, %d; want %s, %d", shortly(spelled(h)), client, shortly(spelled(got)), c, shortly(spelled(want)), code)
	}
}

func checkDispatch(t *testing.T, h, want impl.Hub, ok bool) {
	t.Helper()
	if got, o := dispatch(t, h); !alike(got, want) || o != ok {
		t.Errorf("Dispatch(%s) = %s, %v; want %s, %v", shortly(spelled(h)), shortly(spelled(got)), o, shortly(spelled(want)), ok)
	}
}

func checkTake(t *testing.T, h impl.Hub, client int, want impl.Hub, m impl.Message, code int) {
	t.Helper()
	if got, gotM, c := take(t, h, client); !alike(got, want) || !alike(gotM, m) || c != code {
		t.Errorf("Take(%s, %d) = %s, %s, %d; want %s, %s, %d", shortly(spelled(h)), client, shortly(spelled(got)), spelled(gotM), c, shortly(spelled(want)), spelled(m), code)
	}
}

// checkHeard tells one News to one watch, which hears this, and is closed by it
// when the message is an Over one; or hears nothing.
func checkHeard(t *testing.T, w impl.Watch, n impl.News, heard ...impl.Message) {
	t.Helper()
	want := w
	want.Queue = append(append([]impl.Message{}, w.Queue...), heard...)
	want.Closed = w.Closed || len(heard) > 0 && heard[0].Over
	checkDispatch(t, waiting(watches(w), n), watches(want), true)
}
