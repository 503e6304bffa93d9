package tests

import (
	"slices"
	"strings"
	"testing"

	"loop.example/sessiontypes/impl"
)

// spaciousActions copies a trace into a slice with more capacity than length, and marks what lies behind the length.
func spaciousActions(trace []impl.Action) []impl.Action {
	list := append(make([]impl.Action, 0, len(trace)+3), trace...)
	for i := len(list); i < cap(list); i++ {
		list[:cap(list)][i].Role = "beyond"
	}
	return list
}

// markedActions reports whether everything behind the length is still marked.
func markedActions(list []impl.Action) bool {
	return !slices.ContainsFunc(list[:cap(list)][len(list):], func(a impl.Action) bool { return a != impl.Action{Role: "beyond"} })
}

func TestExplorationMemory(t *testing.T) {
	for i, original := range mixedNetworks(t, 150, 150, 150) {
		n, text := spaciousNetwork(original), networkText(original)
		all := newMemory()
		all.addNetwork(n)
		// What lies behind the length of the choices would lead elsewhere.
		choices := append(make([]int, 0, 40), 5, -3, 2, 0, 1, 7, -1, 3, 4)[:i%10]
		for j := len(choices); j < cap(choices); j++ {
			choices[:cap(choices)][j] = j
		}
		before := slices.Clone(choices[:cap(choices)])
		for range 2 {
			last, trace := impl.RunChoices(n, choices)
			if !all.addNetwork(last) || !all.addActions(trace) {
				t.Errorf("RunChoices of %s shares memory", text)
			}
			trace = spaciousActions(trace)
			again := slices.Clone(trace)
			all.addActions(trace)
			if last, ok := impl.ReplayTrace(n, trace); !ok || !all.addNetwork(last) {
				t.Errorf("ReplayTrace of %s in %s shares memory", actTexts(trace), text)
			}
			parsed, ok := impl.ParseTrace(impl.FormatTrace(trace))
			if !ok || !all.addActions(parsed) {
				t.Errorf("ParseTrace of %s shares memory", actTexts(trace))
			}
			if !slices.Equal(trace, again) || !markedActions(trace) {
				t.Errorf("%s or what lies behind it was modified", actTexts(again))
			}
			counterexample, _ := impl.FindCounterexample(n, 80)
			if !all.addActions(counterexample) {
				t.Errorf("FindCounterexample of %s shares memory", text)
			}
			impl.CountStates(n, 80)
		}
		if networkText(n) != text || !markedNetwork(n) || !slices.Equal(choices[:cap(choices)], before) {
			t.Errorf("%s, the choices or what lies behind them were modified", text)
		}
	}
}

// TestSharedExplorationMemory passes networks with the same memory in several places, and results may not have it.
func TestSharedExplorationMemory(t *testing.T) {
	branches := []impl.LocalBranch{option("a", done()), option("b", done())}
	l := impl.Local{Kind: impl.LocalSend, Peer: "C", Branches: branches}
	double := send("C", option("a", l), option("b", l))
	for _, locals := range [][]impl.Local{{l, l, done()}, {double, double, done()}, {loop(double), double, done()}} {
		n := impl.Network{Locals: locals, Queues: make([]string, 9)}
		for number := range 4 {
			last, trace := impl.RunChoices(n, make([]int, number))
			if !newMemory().addNetwork(last) {
				t.Errorf("RunChoices of %s shares memory", networkText(n))
			}
			if last, ok := impl.ReplayTrace(n, trace); !ok || !newMemory().addNetwork(last) {
				t.Errorf("ReplayTrace of %s in %s shares memory", actTexts(trace), networkText(n))
			}
		}
		checkExploration(t, n, 80)
	}
}

// TestExplorationKeepsNoState calls the functions in another order and at the same time.
func TestExplorationKeepsNoState(t *testing.T) {
	list := append(randomNetworks(60), damagedNetworks(t, 100)...)
	results := func(i int) string {
		n := list[i]
		last, trace := impl.RunChoices(n, []int{i, -i, 3, 1, -1, 0, i})
		replayed, ok := impl.ReplayTrace(n, trace)
		states, stuck, complete := impl.CountStates(n, 1+i%80)
		counterexample, found := impl.FindCounterexample(n, 80-i%80)
		text := networkText(last) + impl.FormatTrace(trace) + networkText(replayed) + show(ok)
		return text + show(states) + show(stuck) + show(complete) + actTexts(counterexample) + show(found)
	}
	keepsNoState(t, len(list), results)
}

// TestWorkersAreNotVisible explores many times, because workers can end in any order.
func TestWorkersAreNotVisible(t *testing.T) {
	for _, n := range []impl.Network{
		networkOf(t, [3]string{"B!{a.}", "C!{b.}", "A!{c.}"}),
		networkOf(t, [3]string{"B!{a.|b.|c.}", "C!{a.|b.|c.}", "A!{a.|b.|c.}"}),
		networkOf(t, [3]string{"@B!{a#0|b#0}", "@C!{a#0|b#0}", "@A!{a#0|b#0}"}),
		networkOf(t, [3]string{"@B!{aC!{b#0}}", "@A?{aC!{b#0}}", "@A?{bB?{b#0}|cB?{b.}}"}),
	} {
		for _, limit := range []int{5, 30, 80} {
			states, stuck, complete := impl.CountStates(n, limit)
			trace, ok := impl.FindCounterexample(n, limit)
			checkExploration(t, n, limit)
			for range 100 {
				a, b, c := impl.CountStates(n, limit)
				other, found := impl.FindCounterexample(n, limit)
				if a != states || b != stuck || c != complete || found != ok || !slices.Equal(other, trace) {
					t.Fatalf("%s up to %d: %d, %d, %v, %s, and later %d, %d, %v, %s", networkText(n), limit, states, stuck, complete, actTexts(trace), a, b, c, actTexts(other))
				}
			}
		}
	}
}

// TestUnusualExplorationMemory passes local types that contain themselves, or that are far larger than their memory.
func TestUnusualExplorationMemory(t *testing.T) {
	base := networkOf(t, [3]string{".", ".", "."}, "ABa", "CBb")
	for _, l := range []impl.Local{localCycle(1, "B"), localCycle(3, "B"), sharedLocal(200, done()), sharedLocal(38, loop(done())), sends(1000000, done()), loops(1000000, done())} {
		for role := range roles {
			returns(t, "a function", func() { checkNoRun(t, "a large type", withLocal(base, role, l)) })
		}
	}
	// The unfolding of such a type would not fit in any memory.
	returns(t, "a function", func() { checkNoRun(t, "a growing type", withLocal(base, 2, growing(12))) })
	returns(t, "a function", func() { checkNoRun(t, "a long queue", withQueue(base, 1, strings.Repeat("a", 1<<24))) })
}

// TestLargestExplorations explores types with as many nodes and branches as there can be.
func TestLargestExplorations(t *testing.T) {
	for _, peers := range []string{"BCA", "CAB", "BAA", "BAB"} {
		n := impl.Network{Queues: make([]string, 9)}
		for i := range roles {
			text := strings.ReplaceAll(textOfLocal(sizedFor(peers[i:i+1], 400)), "?", "!")
			n.Locals = append(n.Locals, local(t, text))
		}
		returns(t, "a function", func() {
			for _, limit := range []int{1, 79, 80} {
				if states, stuck, complete := impl.CountStates(n, limit); states != limit || stuck != 0 || complete {
					t.Errorf("CountStates of large types up to %d = %d, %d, %v", limit, states, stuck, complete)
				}
				if trace, ok := impl.FindCounterexample(n, limit); ok || len(trace) != 0 {
					t.Errorf("FindCounterexample of large types = %s, %v", actTexts(trace), ok)
				}
			}
		})
	}
}
