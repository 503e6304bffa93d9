package tests

import (
	"math"
	"math/rand"
	"slices"
	"strings"
	"testing"

	"loop.example/sessiontypes/impl"
)

// TestInvalidExplorations is about networks and limits that are not valid.
func TestInvalidExplorations(t *testing.T) {
	for _, n := range invalidNetworks(t) {
		checkNoRun(t, show(n), n)
	}
	for _, n := range []impl.Network{
		networkOf(t, [3]string{".", ".", "."}),
		networkOf(t, [3]string{"B?{a.}", ".", "."}),
		networkOf(t, [3]string{"@B!{a#0|b.}", "@A?{a#0|b.}", "."}),
		networkOf(t, [3]string{"B!{a.}", "A?{b.}", "."}),
	} {
		for _, limit := range []int{0, -1, -2, -80, 81, 82, 160, 1 << 32, 1<<32 + 80, math.MaxInt, math.MinInt, math.MinInt + 80} {
			checkNoExploration(t, networkText(n), n, limit)
		}
		for limit := 1; limit <= 80; limit++ {
			checkExploration(t, n, limit)
		}
	}
}

// TestCountStates has the wanted numbers for the largest limit.
func TestCountStates(t *testing.T) {
	for _, c := range []struct {
		locals   [3]string
		queues   []string
		states   int
		stuck    int
		complete bool
	}{
		{[3]string{".", ".", "."}, nil, 1, 0, true},
		{[3]string{".", "@.", "."}, []string{"ABa"}, 1, 1, true},
		{[3]string{"B?{a.}", "A?{a.}", "."}, nil, 1, 1, true},
		{[3]string{"B!{a.}", "A?{a.}", "."}, nil, 3, 0, true},
		{[3]string{"B!{a.|b.}", "A?{a.|b.}", "."}, nil, 4, 0, true},
		{[3]string{"B!{a.|b.|c.}", "A?{a.}", "."}, nil, 5, 2, true},
		{[3]string{"B!{a.|b.|c.}", ".", "."}, nil, 4, 3, true},
		// Every configuration but the first and the last is reached in two or three ways.
		{[3]string{"B!{a.}", "C!{b.}", "A!{c.}"}, nil, 8, 1, true},
		{[3]string{"B!{aC?{c.}}", "C!{bA?{a.}}", "A!{cB?{b.}}"}, nil, 18, 0, true},
		// A loop that comes back to configurations that have been found.
		{[3]string{"@B!{a#0}", "@A?{a#0}", "."}, nil, 4, 0, true},
		{[3]string{"@B!{a#0}", "@A?{a#0}", "."}, []string{"ABaa"}, 4, 0, true},
		{[3]string{"@B!{a#0}", ".", "."}, nil, 4, 1, true},
		{[3]string{"@B!{a#0|b.}", "@A?{a#0|b.}", "."}, nil, 8, 0, true},
		{[3]string{"@B!{aB?{b#0}}", "@A?{aA!{b#0}}", "."}, nil, 4, 0, true},
		// Types that are equivalent and not equal make different configurations.
		{[3]string{"B!{a@B!{a#0}}", "@A?{a#0}", "."}, nil, 5, 0, true},
		{[3]string{"@B!{aB!{a#0}}", "@A?{a#0}", "."}, nil, 8, 0, true},
		// Nobody receives from C, and the others proceed.
		{[3]string{"@B!{a#0|b#0}", "@A?{a#0|b#0}", "@A!{c#0}"}, nil, 60, 0, true},
		// More than 80.
		{[3]string{"@B!{a#0|b#0|c#0|d#0}", "@A?{a#0|b#0|c#0|d#0}", "."}, nil, 80, 0, false},
		{[3]string{"@B!{a#0|b#0|c#0|d#0}", ".", "."}, nil, 80, 59, false},
	} {
		n := networkOf(t, c.locals, c.queues...)
		checkExploration(t, n, 80)
		states, stuck, complete := impl.CountStates(n, 80)
		if states != c.states || stuck != c.stuck || complete != c.complete {
			t.Errorf("CountStates of %s = %d, %d, %v, want %d, %d, %v", networkText(n), states, stuck, complete, c.states, c.stuck, c.complete)
		}
	}
}

func TestExampleExploration(t *testing.T) {
	n := protocolNetwork(t, "AB{aBC{cCA{d.}}|bBC{d.}}")
	for limit := 1; limit <= 80; limit++ {
		checkExploration(t, n, limit)
		states, stuck, complete := impl.CountStates(n, limit)
		if states != min(limit, 10) || stuck != 0 || complete != (limit >= 10) {
			t.Errorf("CountStates up to %d = %d, %d, %v", limit, states, stuck, complete)
		}
		if trace, ok := impl.FindCounterexample(n, limit); ok || len(trace) != 0 {
			t.Errorf("FindCounterexample up to %d = %s, %v", limit, actTexts(trace), ok)
		}
	}
}

// TestNumberOfStates is about limits equal to the number of configurations and next to it.
func TestNumberOfStates(t *testing.T) {
	three := "aC!{aC!{a.}}}"
	for _, c := range []struct {
		locals [3]string
		states int
	}{
		{[3]string{".", ".", "."}, 1},
		{[3]string{"B!{a.}", ".", "."}, 2},
		{[3]string{"B!{a.}", "A?{a.}", "."}, 3},
		// The roles proceed independently, so the numbers of what each can do are multiplied.
		{[3]string{"C!{aC!{aC!{a.}}}", "C!{aC!{a.}}", "A!{aA!{aA!{aB!{aB!{aB!{a.}}}}}}"}, 4 * 3 * 7},
		{[3]string{"C!{" + three, "C!{" + three, "A!{aA!{aA!{aB!{a.}}}}"}, 80},
		{[3]string{"C!{aC!{a.}}", "C!{aC!{a.}}", "A!{aA!{aA!{aB!{aB!{aB!{a.}}}}}}"}, 63},
		{[3]string{"C!{aC!{a.}}", "C!{aC!{a.}}", "A!{aA!{a.}|bA!{a.}|cA!{a.}|dA!{a.}}"}, 81},
		{[3]string{".", "A!{aA!{a.}|bC!{a.}|cA!{aC!{b.}}}", "A!{b.|cA!{c.}|d.}"}, 8 * 5},
	} {
		n := networkOf(t, c.locals)
		for _, limit := range []int{1, 2, c.states - 2, c.states - 1, c.states, c.states + 1, 79, 80} {
			if limit < 1 || limit > 80 {
				continue
			}
			checkExploration(t, n, limit)
			states, _, complete := impl.CountStates(n, limit)
			if states != min(c.states, limit) || complete != (c.states <= limit) {
				t.Errorf("CountStates of %s up to %d = %d, %v, want %d in all", networkText(n), limit, states, complete, c.states)
			}
		}
	}
}

func TestFindCounterexample(t *testing.T) {
	const none = "none"
	for _, c := range []struct {
		locals [3]string
		queues []string
		limit  int
		trace  string
	}{
		// The first configuration is stuck, or has unexpected receivers and is not stuck.
		{[3]string{"B?{a.}", "A?{a.}", "."}, nil, 1, ""},
		{[3]string{".", ".", "."}, []string{"CAd"}, 80, ""},
		{[3]string{"@C!{c#0}", "A?{a.}", "@A?{c#0}"}, []string{"ABb"}, 1, ""},
		{[3]string{"@C!{c#0}", "A?{a.}", "@A?{c#0}"}, []string{"ABb"}, 80, ""},
		// None, because the protocol is followed to its end, or for ever.
		{[3]string{".", ".", "."}, nil, 1, none},
		{[3]string{"@B!{a#0|b.}", "@A?{a#0|b.}", "."}, nil, 80, none},
		{[3]string{"@B!{a#0}", "@A?{a#0}", "."}, nil, 80, none},
		{[3]string{"@B!{a#0|b#0|c#0}", "@A?{a#0|b#0|c#0|d.}", "."}, nil, 80, none},
		// The label is not expected, nobody receives it, nobody sends it, or the queue stays full.
		{[3]string{"B!{a.|b.}", "A?{a.}", "."}, nil, 20, "A!Bb"},
		{[3]string{"B!{a.|b.}", ".", "."}, nil, 20, "A!Ba"},
		{[3]string{"B!{a.}", "A?{aA?{b.}}", "."}, nil, 20, "A!Ba B?Aa"},
		{[3]string{"@B!{a#0}", ".", "."}, nil, 20, "A!Ba A!Ba A!Ba"},
		{[3]string{"B!{aB?{b.}}", "A!{bA?{b.}}", "."}, nil, 20, "A!Ba B!Ab"},
		{[3]string{"B!{a.}", "A?{a.}", "A?{c.}"}, nil, 20, "A!Ba B?Aa"},
		// The label is not expected, and another role can proceed for ever.
		{[3]string{"B!{b@C!{a#0}}", "A?{a.}", "@A?{a#0}"}, nil, 20, "A!Bb"},
		// The first in the order of roles and branches of those at the same distance.
		{[3]string{"B!{a.|b.|c.|d.}", "A?{a.}", "."}, nil, 20, "A!Bb"},
		{[3]string{"B!{a.|b.|c.|d.}", "A?{a.|b.|d.}", "."}, nil, 20, "A!Bc"},
		{[3]string{"@B!{a#0|b#0}", "@A?{a#0}", "@A!{a#0|d#0}"}, nil, 80, "A!Bb"},
		{[3]string{"@B!{a#0}", "@A?{a#0|b#0}", "@B!{a#0|d#0}"}, nil, 20, none},
		{[3]string{"@C!{a#0}", "@C!{a#0|b#0}", "@B?{a#0}"}, nil, 20, "B!Cb"},
		{[3]string{"C!{aB!{b.}|bB!{b.}}", "A?{a.}", "A?{a.|b.}"}, nil, 20, "A!Ca A!Bb"},
		// The nearest, although the first action leads to another one.
		{[3]string{"B!{aB!{b.}|c.}", "A?{aA?{a.}}", "."}, nil, 20, "A!Bc"},
		{[3]string{"B!{aB!{aB!{aB!{a.}}}|bB!{c.}}", "A?{aA?{aA?{aA?{b.}}}|bA?{b.}}", "."}, nil, 60, "A!Bb A!Bc B?Ab"},
		// The way by which the configuration was first found.
		{[3]string{"B!{a.}", ".", "A!{c.}"}, nil, 20, "A!Ba C!Ac"},
		{[3]string{"B!{a.}", "C!{b.}", "A!{c.}"}, nil, 20, "A!Ba B!Cb C!Ac"},
		{[3]string{".", "C!{bA!{a.}}", "A!{c.}"}, nil, 20, "B!Cb B!Aa C!Ac"},
		{[3]string{"C?{c.}", "C!{b.}", "A!{c.}"}, nil, 20, "B!Cb C!Ac A?Cc"},
		// The limit is just sufficient, and just not.
		{[3]string{"B!{a.|b.}", "A?{a.}", "."}, nil, 3, "A!Bb"},
		{[3]string{"B!{a.|b.}", "A?{a.}", "."}, nil, 2, none},
		{[3]string{"B!{a.|b.}", "A?{a.}", "."}, nil, 1, none},
		{[3]string{"@B!{a#0}", ".", "."}, nil, 4, "A!Ba A!Ba A!Ba"},
		{[3]string{"@B!{a#0}", ".", "."}, nil, 3, none},
		{[3]string{"B!{a.}", "C!{b.}", "A!{c.}"}, nil, 8, "A!Ba B!Cb C!Ac"},
		{[3]string{"B!{a.}", "C!{b.}", "A!{c.}"}, nil, 7, none},
		{[3]string{"@B!{a#0|b#0|c#0|d#0}", "@A?{a#0|b#0|c#0|d@C?{a#0}}", "."}, nil, 80, none},
	} {
		n := networkOf(t, c.locals, c.queues...)
		checkExploration(t, n, c.limit)
		trace, ok := impl.FindCounterexample(n, c.limit)
		if ok != (c.trace != none) || ok && actTexts(trace) != c.trace || !ok && len(trace) != 0 {
			t.Errorf("FindCounterexample of %s up to %d = %s, %v, want %s", networkText(n), c.limit, actTexts(trace), ok, c.trace)
		}
	}
}

// pingPong returns a network in which only one action after the other is
// possible: A and B send each other an a and receive it, n times, and then
// both wait.
func pingPong(t *testing.T, n int) impl.Network {
	t.Helper()
	first, second := receive("B", option("a", done())), receive("A", option("a", done()))
	for i := range n {
		if (n-i)%2 == 1 {
			first, second = send("B", option("a", first)), receive("A", option("a", second))
		} else {
			first, second = receive("B", option("a", first)), send("A", option("a", second))
		}
	}
	network, ok := impl.NewNetwork([]impl.Local{first, second, done()})
	if !ok {
		t.Fatalf("no network of %d messages", n)
	}
	return network
}

// TestDistantCounterexamples has one counterexample after a number of actions,
// also after more than a trace may have to be replayed.
func TestDistantCounterexamples(t *testing.T) {
	for messages := range 38 {
		n := pingPong(t, messages)
		for _, limit := range []int{1, 2 * messages, 2*messages + 1, 80} {
			if limit == 0 {
				continue
			}
			checkExploration(t, n, limit)
			far := limit > 2*messages
			states, stuck, complete := impl.CountStates(n, limit)
			if states != min(2*messages+1, limit) || (stuck == 1) != far || complete != far {
				t.Errorf("CountStates of %d messages up to %d = %d, %d, %v", messages, limit, states, stuck, complete)
			}
			trace, ok := impl.FindCounterexample(n, limit)
			want := strings.Fields(strings.Repeat("A!Ba B?Aa B!Aa A?Ba ", messages))[:2*messages]
			if ok != far || ok && actTexts(trace) != strings.Join(want, " ") {
				t.Errorf("FindCounterexample of %d messages up to %d = %s, %v", messages, limit, actTexts(trace), ok)
			}
			if text := impl.FormatTrace(trace); ok && (text == "") != (messages == 0 || messages > 12) {
				t.Errorf("the text of a counterexample of %d actions is %q", len(trace), text)
			}
		}
	}
}

// TestRefusedSuccessors is about actions that are enabled and that ApplyAction refuses.
func TestRefusedSuccessors(t *testing.T) {
	for _, within := range []bool{false, true} {
		for _, next := range foldedTypes("B", within) {
			// The only enabled action is refused, so the network is neither stuck nor does it reach anything.
			n := withLocal(networkOf(t, [3]string{".", ".", "."}), 0, send("C", option("a", next)))
			checkExploration(t, n, 1)
			checkExploration(t, n, 3)
			states, stuck, complete := impl.CountStates(n, 1)
			if states != 1 || stuck != 0 || complete == within {
				t.Errorf("CountStates of %s = %d, %d, %v", networkText(n), states, stuck, complete)
			}
			if trace, ok := impl.FindCounterexample(n, 1); ok || len(trace) != 0 {
				t.Errorf("FindCounterexample of %s = %s, %v", networkText(n), actTexts(trace), ok)
			}
			// The actions before and after it are not.
			n = withLocal(networkOf(t, [3]string{".", "C!{b.}", "."}), 0, send("C", option("a", done()), option("b", next), option("c", done())))
			for _, limit := range []int{1, 2, 3, 4, 5, 6, 7} {
				checkExploration(t, n, limit)
			}
			if states, stuck, complete := impl.CountStates(n, 6); !within && (states != 6 || stuck != 2 || !complete) {
				t.Errorf("CountStates of %s = %d, %d, %v", networkText(n), states, stuck, complete)
			}
			if trace, _ := impl.FindCounterexample(n, 6); !within && actTexts(trace) != "A!Ca B!Cb" {
				t.Errorf("FindCounterexample of %s = %s", networkText(n), actTexts(trace))
			}
		}
	}
}

// TestProjectionsHaveNoCounterexample is about promise 4, by exploration.
func TestProjectionsHaveNoCounterexample(t *testing.T) {
	started, finite := 0, 0
	for i, g := range randomProtocols(1500) {
		n, ok := start(t, g)
		if !ok {
			continue
		}
		started++
		states, stuck, complete := impl.CountStates(n, 80)
		trace, wrong := impl.FindCounterexample(n, 80)
		if stuck != 0 || wrong || len(trace) != 0 || states < 1 || complete && states > 80 || !complete && states != 80 {
			t.Errorf("%q: %d states, %d stuck, %v, and the counterexample %s", textOf(g), states, stuck, complete, actTexts(trace))
		}
		if complete {
			finite++
		}
		if i%10 == 0 {
			checkExploration(t, n, 1+i%80)
		}
	}
	if started < 1000 || finite < 500 {
		t.Errorf("only %d networks, %d of them with few configurations", started, finite)
	}
}

// TestCounterexamplesAreReal is about promise 5, with networks that do not follow a protocol.
func TestCounterexamplesAreReal(t *testing.T) {
	r := rand.New(rand.NewSource(16))
	lengths := map[int]int{}
	incomplete, hidden := 0, 0
	for _, n := range append(randomNetworks(1000), damagedNetworks(t, 1000)...) {
		limit := 1 + r.Intn(80)
		if r.Intn(2) == 0 {
			limit = 1 + r.Intn(12)
		}
		found, complete := checkExploration(t, n, limit)
		if complete {
			continue
		}
		incomplete++
		all, _ := exploreByRules(n, 80)
		if !slices.ContainsFunc(found, reached.wrong) && slices.ContainsFunc(all, reached.wrong) {
			hidden++
		}
		if trace, ok := impl.FindCounterexample(n, 80); ok {
			checkReal(t, n, trace)
			lengths[len(trace)]++
		}
	}
	far := 0
	for length, number := range lengths {
		if length > 4 {
			far += number
		}
	}
	if incomplete < 500 || hidden < 50 || far < 50 {
		t.Errorf("only %d incomplete explorations, %d counterexamples behind the limit and %d far away", incomplete, hidden, far)
	}
}
