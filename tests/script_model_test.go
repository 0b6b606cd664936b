package tests

import (
	"regexp"
	"strconv"
	"strings"

	"loop.example/s04350/impl"
)

// scriptForm is the form of each line of a script, by regular expressions.
type scriptForm struct {
	doc, text, watch, bare, picks *regexp.Regexp
}

func newScriptForm() scriptForm {
	return scriptForm{
		doc:   regexp.MustCompile(`(?s)^doc (.*)$`),
		text:  regexp.MustCompile(`(?s)^([0-7]) (patch|get|query) (.*)$`),
		watch: regexp.MustCompile(`(?s)^([0-7]) watch ([0-9]{1,3}) (.*)$`),
		bare:  regexp.MustCompile(`^([0-7]) (take|cancel)$`),
		picks: regexp.MustCompile(`^picks(( [0-7d])*)$`),
	}
}

// parse gives what ParseScript gives.
func (f scriptForm) parse(text string) (impl.Script, int, int) {
	if len(text) > impl.MaxScript {
		return impl.Script{}, 1, 0
	}
	var s impl.Script
	begun := false
	for i, line := range strings.Split(text, "\n") {
		m := f.doc.FindStringSubmatch(line)
		switch {
		case line == "":
		case !begun && m != nil:
			s.Doc, begun = m[1], true
		case begun && f.line(&s, line):
		default:
			return impl.Script{}, 2, i + 1
		}
	}
	if !begun {
		return impl.Script{}, 3, 0
	}
	return s, 0, 0
}

// line adds what a line behind the first says, or says false.
func (f scriptForm) line(s *impl.Script, line string) bool {
	kinds := map[string]int{"patch": impl.CallPatch, "get": impl.CallGet, "query": impl.CallQuery, "take": impl.CallTake, "cancel": impl.CallCancel}
	if m := f.text.FindStringSubmatch(line); m != nil {
		s.Calls = append(s.Calls, impl.Call{Client: modelInt(m[1]), Kind: kinds[m[2]], Text: m[3]})
		return true
	}
	if m := f.watch.FindStringSubmatch(line); m != nil {
		s.Calls = append(s.Calls, callWatch(modelInt(m[1]), modelInt(m[2]), m[3]))
		return true
	}
	if m := f.bare.FindStringSubmatch(line); m != nil {
		s.Calls = append(s.Calls, impl.Call{Client: modelInt(m[1]), Kind: kinds[m[2]]})
		return true
	}
	if m := f.picks.FindStringSubmatch(line); m != nil {
		s.Picks = append(s.Picks, picks(m[1])...)
		return true
	}
	return false
}

func modelInt(digits string) int {
	n, err := strconv.Atoi(digits)
	if err != nil {
		panic(err)
	}
	return n
}

// modelScript does a script step by step with the functions of the chapters
// before it, with no goroutine and with nothing kept but what they answer.
type modelScript struct {
	calls   []impl.Call
	over    []bool
	pending map[int]impl.Pending
	out     impl.Outcome
}

func newModelScript(doc string, list []impl.Call) *modelScript {
	m := &modelScript{calls: list, over: make([]bool, len(list)), pending: map[int]impl.Pending{}}
	m.out.Store, _ = impl.Open(doc)
	return m
}

func modelRunScript(s impl.Script) impl.Outcome {
	m := newModelScript(s.Doc, s.Calls)
	for _, pick := range s.Picks {
		m.pick(pick)
	}
	return m.out
}

func modelSerial(doc string, list []impl.Call) impl.Outcome {
	m := newModelScript(doc, list)
	for i, c := range list {
		for !m.over[i] {
			m.pick(c.Client)
		}
		if c.Kind == impl.CallPatch {
			m.pick(impl.MaxClients)
		}
	}
	return m.out
}

func (m *modelScript) pick(pick int) {
	if pick == impl.MaxClients {
		m.out.Hub, _ = impl.Dispatch(m.out.Hub)
		return
	}
	for i, c := range m.calls {
		if c.Client == pick && !m.over[i] {
			m.step(i, c)
			return
		}
	}
}

func (m *modelScript) step(i int, c impl.Call) {
	e := impl.Event{Client: c.Client, Call: i, Kind: c.Kind}
	head := headOf(m.out.Store)
	switch c.Kind {
	case impl.CallPatch:
		e.Verdict = m.stepPatch(i, c)
		if e.Verdict.Kind == impl.Running {
			return
		}
		e.Version = headOf(m.out.Store).No
	case impl.CallGet:
		e.Version = head.No
		e.Text, e.Verdict.Code = impl.Resolve(head.Doc, c.Text)
	case impl.CallQuery:
		e.Version = head.No
		e.Hits, e.Verdict.Code = impl.Query(head.Doc, c.Text)
	case impl.CallWatch:
		e.Version = head.No
		m.out.Hub, e.Verdict.Code = impl.Subscribe(m.out.Hub, c.Client, c.Text, c.Room, head.No)
	case impl.CallTake:
		m.out.Hub, e.Message, e.Verdict.Code = impl.Take(m.out.Hub, c.Client)
	case impl.CallCancel:
		m.out.Hub, e.Verdict.Code = impl.Cancel(m.out.Hub, c.Client)
	}
	m.over[i] = true
	m.out.Events = append(m.out.Events, e)
}

func (m *modelScript) stepPatch(i int, c impl.Call) impl.Verdict {
	p, begun := m.pending[i]
	var v impl.Verdict
	if !begun {
		p, v = impl.Begin(m.out.Store, c.Text)
		m.pending[i] = p
		return v
	}
	old := headOf(m.out.Store)
	m.out.Store, m.pending[i], v = impl.Attempt(m.out.Store, p)
	if v.Kind == impl.Published {
		ptrs, _ := impl.Changes(old.Doc, headOf(m.out.Store).Doc)
		m.out.Hub = impl.Publish(m.out.Hub, v.No, ptrs)
	}
	return v
}
