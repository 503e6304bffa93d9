package tests

import (
	"math/rand"
	"slices"
	"strings"
	"testing"

	"loop.example/sessiontypes/impl"
)

func isZeroMonitor(m impl.Monitor) bool { return m.Role == "" && isZeroLocal(m.Type) }

// monitorText describes a monitor of a small tree.
func monitorText(m impl.Monitor) string { return m.Role + " " + textOfLocal(m.Type) }

// localsOf returns the local types with the texts.
func localsOf(t *testing.T, texts ...string) []impl.Local {
	t.Helper()
	var list []impl.Local
	for _, text := range texts {
		list = append(list, local(t, text))
	}
	return list
}

// observedByRules decides by the definition in the document whether a valid
// monitor accepts the action, and returns the type that it has then.
func observedByRules(m impl.Monitor, a impl.Action) (impl.Local, bool) {
	kind := impl.LocalSend
	if a.Receive {
		kind = impl.LocalReceive
	}
	l := unfoldedLocal(m.Type)
	next, ok := nextLocal(l, a.Label)
	if a.Role != m.Role || l.Kind != kind || l.Peer != a.Peer || !ok || !fits(next, m.Role) {
		return impl.Local{}, false
	}
	return next, true
}

// violationByRules finds the first violation by the definition in the document.
func violationByRules(locals []impl.Local, trace []impl.Action) int {
	if len(locals) != 3 {
		return 0
	}
	for i, l := range locals {
		if !fits(l, roles[i]) {
			return 0
		}
	}
	locals = slices.Clone(locals)
	for i, a := range trace {
		role := slices.Index(roles, a.Role)
		if role < 0 {
			return i
		}
		next, ok := observedByRules(impl.Monitor{Role: a.Role, Type: locals[role]}, a)
		if !ok {
			return i
		}
		locals[role] = next
	}
	return -1
}

// checkObserve compares Observe with the document for a valid monitor, and
// returns the monitor after the action, if there is one.
func checkObserve(t *testing.T, m impl.Monitor, a impl.Action) (impl.Monitor, bool) {
	t.Helper()
	next, ok := impl.Observe(m, a)
	want, wantOk := observedByRules(m, a)
	if ok != wantOk || ok && (next.Role != m.Role || !sameLocal(next.Type, want)) || !ok && !isZeroMonitor(next) {
		t.Errorf("Observe of %+v by %s = %s, %v, want %s, %v", a, monitorText(m), show(next), ok, textOfLocal(want), wantOk)
	}
	return next, ok
}

// checkMonitor compares the functions for a valid monitor with the document.
// It returns the monitors after the given actions that are permitted.
func checkMonitor(t *testing.T, m impl.Monitor, actions []impl.Action) []impl.Monitor {
	t.Helper()
	if got, ok := impl.NewMonitor(m.Role, m.Type); !ok || got.Role != m.Role || !sameLocal(got.Type, m.Type) || !impl.MonitorValid(m) {
		t.Errorf("NewMonitor of %s = %s, %v, and MonitorValid = %v", monitorText(m), show(got), ok, impl.MonitorValid(m))
	}
	var after []impl.Monitor
	for _, a := range actions {
		if next, ok := checkObserve(t, m, a); ok {
			after = append(after, next)
			if !impl.MonitorValid(next) {
				t.Errorf("%s after %+v is not valid", monitorText(m), a)
			}
		}
	}
	return after
}

// checkNoMonitor requires the results for a monitor that is not valid.
func checkNoMonitor(t *testing.T, what string, m impl.Monitor) {
	t.Helper()
	if got, ok := impl.NewMonitor(m.Role, m.Type); ok || !isZeroMonitor(got) || impl.MonitorValid(m) {
		t.Errorf("%s: NewMonitor = %s, %v, and MonitorValid = %v", what, show(got), ok, impl.MonitorValid(m))
	}
	actions := append(wellFormedActions(), impl.Action{}, impl.Action{Role: m.Role, Peer: "B", Label: "a"},
		impl.Action{Role: m.Role, Receive: true, Peer: m.Role, Label: "a"}, impl.Action{Role: m.Role})
	for _, a := range actions {
		if next, ok := impl.Observe(m, a); ok || !isZeroMonitor(next) {
			t.Errorf("%s: Observe of %+v = %s, %v", what, a, show(next), ok)
		}
	}
	role := slices.Index(roles, m.Role)
	if role < 0 {
		return
	}
	locals := []impl.Local{done(), done(), done()}
	locals[role] = m.Type
	for _, trace := range [][]impl.Action{nil, {}, {{}}, acts("A!Ba"), acts("B!Aa C?Ba"), {{Role: "D"}, act("A!Ba")}} {
		if got := impl.FirstViolation(locals, trace); got != 0 {
			t.Errorf("%s: FirstViolation of %s = %d", what, actTexts(trace), got)
		}
	}
}

// checkViolation compares FirstViolation with the document.
func checkViolation(t *testing.T, locals []impl.Local, trace []impl.Action) int {
	t.Helper()
	got, want := impl.FirstViolation(locals, trace), violationByRules(locals, trace)
	if got != want {
		t.Errorf("FirstViolation of %s in %s = %d, want %d", actTexts(trace), networkText(impl.Network{Locals: locals}), got, want)
	}
	return got
}

// interleaved returns the actions of the trace in an order that is only for each role the same.
func interleaved(r *rand.Rand, trace []impl.Action) []impl.Action {
	var parts [3][]impl.Action
	for _, a := range trace {
		role := slices.Index(roles, a.Role)
		parts[role] = append(parts[role], a)
	}
	var list []impl.Action
	for len(list) < len(trace) {
		if i := r.Intn(3); len(parts[i]) > 0 {
			list, parts[i] = append(list, parts[i][0]), parts[i][1:]
		}
	}
	return list
}

// mistaken returns the trace with one change: another label, peer, role or
// direction, an action less, or one more.
func mistaken(r *rand.Rand, trace []impl.Action) []impl.Action {
	trace = slices.Clone(trace)
	i := r.Intn(len(trace))
	switch r.Intn(7) {
	case 0:
		trace[i].Label = []string{"a", "b", "c", "d", "", "e", "aa"}[r.Intn(7)]
	case 1:
		trace[i].Peer = []string{"A", "B", "C", "", "D"}[r.Intn(5)]
	case 2:
		trace[i].Role = []string{"A", "B", "C", "", "D", "AB"}[r.Intn(6)]
	case 3:
		trace[i].Receive = !trace[i].Receive
	case 4:
		trace = slices.Delete(trace, i, i+1)
	case 5:
		trace = slices.Insert(trace, i, trace[r.Intn(len(trace))])
	case 6:
		trace = append(trace, trace[i])
	}
	return trace
}

// invalidMonitors returns monitors that are not valid, each by another condition.
func invalidMonitors() []impl.Monitor {
	var list []impl.Monitor
	for _, role := range []string{"", "D", "a", "AB", "ABC", "A ", " A", "\x00", "\xff", "Ä", "BC", strings.Repeat("A", 1<<16)} {
		for _, l := range []impl.Local{done(), send("A", option("a", done())), receive("B", option("a", done())), loop(send("C", option("a", again(0)))), {}} {
			list = append(list, impl.Monitor{Role: role, Type: l})
		}
	}
	for i, role := range roles {
		other, third := roles[(i+1)%3], roles[(i+2)%3]
		types := append(foldedTypes(other, false), foldedTypes(third, false)...)
		types = append(types,
			// The monitor's role among its peers: at the root, below it, and where it is never reached.
			send(role, option("a", done())), receive(role, option("a", done())), loop(receive(role, option("a", again(0)))),
			send(other, option("a", done()), option("b", send(role, option("c", done())))),
			receive(other, option("a", send(third, option("d", loop(receive(role, option("a", again(0)))))))),
			// Types that are not valid themselves.
			impl.Local{}, impl.Local{Kind: 6}, impl.Local{Kind: -1}, again(0), loop(again(0)), loop(loop(again(1))), loop(impl.Local{}),
			send(other, option("a", again(0))), receive(other, option("a", loop(again(0)))), loop(send(other, option("a", again(1)))),
			send(other, option("a", done()), option("b", impl.Local{})), send(other, option("a", done()), option("b", again(0))),
			send(other), receive(other), send("", option("a", done())), send("D", option("a", done())), send(other+third, option("a", done())),
			send(other, option("", done())), send(other, option("e", done())), send(other, option("ab", done())), receive(third, option("A", done())),
			send(other, option("b", done()), option("a", done())), receive(other, option("a", done()), option("a", done())),
			impl.Local{Kind: impl.LocalEnd, Peer: other}, impl.Local{Kind: impl.LocalEnd, Index: 1}, impl.Local{Kind: impl.LocalEnd, Branches: []impl.LocalBranch{option("a", done())}},
			sizedFor(other, 401), deepFor(other, 41), loops(40, done()), growing(12))
		for _, l := range types {
			list = append(list, impl.Monitor{Role: role, Type: l})
		}
	}
	return list
}
