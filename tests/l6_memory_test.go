package tests

import (
	"runtime"
	"slices"
	"testing"

	"loop.example/sessiontypes/impl"
)

func TestMonitorMemory(t *testing.T) {
	for i, n := range append(randomNetworks(200), damagedNetworks(t, 100)...) {
		original, role := n.Locals[i%3], roles[i%3]
		m := impl.Monitor{Role: role, Type: spaciousLocal(original)}
		all := newMemory().branches
		if !localElements(m.Type, all) {
			t.Fatal("the argument shares memory with itself")
		}
		impl.MonitorValid(m)
		impl.MonitorEqual(m, m)
		for range 2 {
			if got, ok := impl.NewMonitor(role, m.Type); !ok || !localElements(got.Type, all) {
				t.Errorf("NewMonitor of %s shares memory", monitorText(m))
			}
			for _, a := range wellFormedActions() {
				if next, _ := impl.Observe(m, a); !localElements(next.Type, all) {
					t.Errorf("Observe of %s by %s shares memory", actText(a), monitorText(m))
				}
			}
		}
		if !sameLocal(m.Type, original) || !markedLocal(m.Type) {
			t.Errorf("%s or what lies behind it was modified", textOfLocal(original))
		}
	}
}

func TestRestrictedMemory(t *testing.T) {
	for i, n := range append(randomNetworks(200), damagedNetworks(t, 100)...) {
		_, whole := impl.RunChoices(n, []int{i, 1, 2, 3, 4, 5, 6, 7, 8, 9})
		for length := range len(whole) + 1 {
			// What lies behind the length would not be permitted.
			trace, locals := spaciousActions(whole[:length]), spaciousNetwork(n).Locals
			all := newMemory()
			all.addActions(trace)
			if got := impl.FirstViolation(locals, trace); got != -1 {
				t.Errorf("FirstViolation of %s in %s = %d", actTexts(trace), networkText(n), got)
			}
			for _, role := range []string{"A", "B", "C", "D", "beyond", ""} {
				got := impl.RestrictTrace(trace, role)
				if !all.addActions(got) || role == "beyond" && len(got) != 0 {
					t.Errorf("RestrictTrace of %s to %q shares memory, or goes beyond", actTexts(trace), role)
				}
			}
			restored := impl.Network{Locals: locals, Queues: n.Queues}
			if !slices.Equal(trace, whole[:length]) || !markedActions(trace) || networkText(restored) != networkText(n) || !markedNetwork(restored) {
				t.Errorf("%s, %s or what lies behind them was modified", actTexts(trace), networkText(n))
			}
		}
	}
}

// TestBeyondTheLocals has further local types behind the length.
func TestBeyondTheLocals(t *testing.T) {
	locals := localsOf(t, "B!{a.}", "A?{a.}", ".", ".", ".")
	for length := range 6 {
		if got := impl.FirstViolation(locals[:length], acts("A!Ba B?Aa")); got != -1 && length == 3 || got != 0 && length != 3 {
			t.Errorf("FirstViolation with %d local types = %d", length, got)
		}
	}
	locals[3] = impl.Local{}
	if got := impl.FirstViolation(locals[:3], acts("A!Ba B?Aa")); got != -1 {
		t.Errorf("FirstViolation with a local type behind the length = %d", got)
	}
}

// TestSharedMonitorMemory passes types with the same memory in several places, and results may not have it.
func TestSharedMonitorMemory(t *testing.T) {
	branches := []impl.LocalBranch{option("a", done()), option("b", done())}
	l := impl.Local{Kind: impl.LocalSend, Peer: "C", Branches: branches}
	double := send("C", option("a", l), option("b", l))
	for _, shared := range []impl.Local{l, double, loop(double), send("B", option("a", double), option("b", loop(double)))} {
		m, ok := impl.NewMonitor("A", shared)
		if !ok || !localElements(m.Type, newMemory().branches) {
			t.Errorf("NewMonitor of %s shares memory", textOfLocal(shared))
		}
		for _, a := range wellFormedActions() {
			next, _ := checkObserve(t, impl.Monitor{Role: "A", Type: shared}, a)
			if !localElements(next.Type, newMemory().branches) {
				t.Errorf("Observe of %s by %s shares memory", actText(a), textOfLocal(shared))
			}
		}
		if got := impl.FirstViolation([]impl.Local{shared, loop(send("C", option("a", done()))), done()}, acts("B!Ca")); got != -1 {
			t.Errorf("FirstViolation in %s = %d", textOfLocal(shared), got)
		}
	}
	// One memory for all three of them.
	common := []impl.LocalBranch{option("a", done())}
	locals := []impl.Local{send("C", common...), receive("C", common...), done()}
	if got := impl.FirstViolation(locals, acts("B?Ca A!Ca B?Ca")); got != 2 {
		t.Errorf("FirstViolation = %d", got)
	}
}

// TestMonitorsKeepNoState calls the functions in another order and at the same time.
func TestMonitorsKeepNoState(t *testing.T) {
	list := append(randomNetworks(100), damagedNetworks(t, 100)...)
	results := func(i int) string {
		n := list[i]
		_, trace := impl.RunChoices(n, []int{i, -i, 3, 1, -1, 0, i, 2, 5})
		text := actTexts(trace)
		trace = append(trace, wellFormedActions()[i%48])
		for role := range roles {
			m, ok := impl.NewMonitor(roles[role], n.Locals[role])
			text += monitorText(m) + show(ok) + actTexts(impl.RestrictTrace(trace, m.Role))
			for _, a := range trace {
				next, ok := impl.Observe(m, a)
				text += monitorText(next) + show([]bool{ok, impl.MonitorValid(next), impl.MonitorEqual(m, next)})
			}
		}
		slices.Reverse(trace)
		return text + show(impl.FirstViolation(n.Locals, trace))
	}
	keepsNoState(t, len(list), results)
}

// TestMonitorsAreNotVisible asks many times, because the monitors can end in any order.
func TestMonitorsAreNotVisible(t *testing.T) {
	before := runtime.NumGoroutine()
	locals := localsOf(t, "@B!{aC?{c#0}}", "@A?{aC!{b#0}}", "@B?{bA!{c#0}}")
	broken := append(slices.Clone(locals[:2]), impl.Local{})
	long := append(slices.Repeat(acts("A!Ba A?Cc"), 30), acts("C!Aa B!Ca A?Cc")...)
	for range 2000 {
		for _, c := range []struct {
			locals []impl.Local
			trace  string
			want   int
		}{
			{locals, "A!Ba B?Aa B!Cb C?Bb C!Ac A?Cc", -1}, {locals, "C!Ac B!Cb A?Cc", 0}, {locals, "B!Ca A!Bb C?Ba", 0}, {locals, "A!Ba C?Ba B!Cb A!Ba D!Ba", 1},
			{locals, "A!Ba B?Aa D!Ba C!Ac", 2}, {broken, "A!Ca B!Aa", 0}, {broken, "A!Ba A!Ba", 0},
		} {
			if got := impl.FirstViolation(c.locals, acts(c.trace)); got != c.want {
				t.Fatalf("FirstViolation of %s = %d, want %d", c.trace, got, c.want)
			}
		}
		if got := impl.FirstViolation(locals, long); got != 60 {
			t.Fatalf("FirstViolation of a long trace = %d", got)
		}
	}
	if after := runtime.NumGoroutine(); after > before+100 {
		t.Errorf("%d goroutines before, and %d after", before, after)
	}
}

// TestUnusualMonitorMemory passes types that contain themselves, or that are far larger than their memory.
func TestUnusualMonitorMemory(t *testing.T) {
	loopsOnly := impl.Local{Kind: impl.LocalRec, Branches: make([]impl.LocalBranch, 1)}
	loopsOnly.Branches[0].Next = loopsOnly
	for _, l := range []impl.Local{localCycle(1, "B"), localCycle(3, "B"), loopsOnly, sharedLocal(200, done()), sharedLocal(38, loop(done())),
		sends(1000000, done()), loops(1000000, done()), receive("B", option("a", done()), option("b", localCycle(2, "B")))} {
		for _, role := range []string{"A", "C", "D"} {
			m := impl.Monitor{Role: role, Type: l}
			returns(t, "a function", func() {
				checkNoMonitor(t, "a large type", m)
				if !impl.MonitorEqual(m, m) || impl.MonitorEqual(m, impl.Monitor{Role: role, Type: done()}) || impl.MonitorEqual(m, impl.Monitor{Type: l}) {
					t.Error("a monitor is not equal only to itself")
				}
			})
		}
	}
	// Beyond the permitted action, such a type is not observed.
	m := impl.Monitor{Role: "A", Type: send("B", option("a", done()), option("b", growing(12)))}
	returns(t, "a function", func() {
		for _, a := range wellFormedActions() {
			if next, ok := impl.Observe(m, a); ok != (actText(a) == "A!Ba") || !ok && !isZeroMonitor(next) {
				t.Errorf("Observe of %s by a growing type = %v", actText(a), ok)
			}
		}
	})
}

func TestLongTracesOfMonitors(t *testing.T) {
	locals := localsOf(t, "@B!{a#0|b.}", "@A?{a#0|b.}", ".")
	returns(t, "FirstViolation", func() {
		trace := slices.Repeat(acts("A!Ba B?Aa"), 1<<18)
		if got := impl.FirstViolation(locals, trace); got != -1 {
			t.Errorf("FirstViolation of a long trace = %d", got)
		}
		trace[1<<18+1].Label = "c"
		trace[1<<18+2].Label = "c"
		if got := impl.FirstViolation(locals, trace); got != 1<<18+1 {
			t.Errorf("FirstViolation of a long trace = %d", got)
		}
		if got := impl.FirstViolation(locals, make([]impl.Action, 1<<22)); got != 0 {
			t.Errorf("FirstViolation of many actions of no role = %d", got)
		}
	})
}
