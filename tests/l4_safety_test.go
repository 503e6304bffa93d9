package tests

import (
	"math/rand"
	"testing"

	"loop.example/sessiontypes/impl"
)

// start returns the network of the projections of a global type, and whether there is one.
func start(t *testing.T, g impl.Global) (impl.Network, bool) {
	t.Helper()
	locals, ok := impl.ProjectAll(g)
	if !ok {
		return impl.Network{}, false
	}
	n, ok := impl.NewNetwork(locals)
	// The projections of a valid type are valid, and only their unfolding can be too large.
	fit := true
	for i, l := range locals {
		fit = fit && fits(l, roles[i])
	}
	if ok != fit {
		t.Errorf("NewNetwork of the projections of %q = %v", textOf(g), ok)
	}
	return n, ok
}

// checkSafe requires what promise 4 says of a configuration.
func checkSafe(t *testing.T, g impl.Global, n impl.Network) {
	t.Helper()
	if impl.NetworkStuck(n) {
		t.Errorf("%q is stuck in %s", textOf(g), networkText(n))
	}
	if got := impl.UnexpectedReceivers(n); got != "" {
		t.Errorf("%q: %s receive an unexpected label in %s", textOf(g), got, networkText(n))
	}
}

// checkAllReachable visits up to limit configurations, in the order in which
// they are found, and returns their number and how many are finished.
func checkAllReachable(t *testing.T, g impl.Global, n impl.Network, limit int) (found int, finished int) {
	t.Helper()
	seen := map[string]bool{networkText(n): true}
	list := []impl.Network{n}
	for i := 0; i < len(list); i++ {
		checkSafe(t, g, list[i])
		if impl.NetworkFinished(list[i]) {
			finished++
		}
		for _, next := range checkNetwork(t, list[i]) {
			if text := networkText(next); !seen[text] && len(list) < limit {
				seen[text] = true
				list = append(list, next)
			}
		}
	}
	return len(list), finished
}

// TestProjectionsAreSafe is about promise 4.
func TestProjectionsAreSafe(t *testing.T) {
	list := append(randomProtocols(250), allGlobals(5, 0, 0, "AB", "BA", "CB")...)
	for _, text := range []string{
		// The examples of the document.
		"@AB{a#0|b.}", "AB{aBC{cCA{d.}}|bBC{d.}}", "@AB{aBC{c#0}|bBC{d.}}",
		// Queues that become full, with several roles, and in both directions.
		"AB{aAB{aAB{aAB{aAB{bBC{c.}}}}}}", "@AB{aAC{a#0}|bAC{b.}}", "AB{aBA{bAB{aBA{b.}}}}", "@AB{aAB{bAB{cAB{d#0}}}}",
		"AC{aAC{aAC{aAC{aAC{bBC{bBC{bBC{bBC{aCA{a.}}}}}}}}}}", "@AB{aCB{b#0}|cCB{d.}}", "AB{aCB{aAB{aCB{aBA{aBC{a.}}}}}}",
		// Messages that arrive before they are awaited.
		"AC{aBC{b.}}", "AC{aBC{bAC{cBC{d.}}}}", "@BC{bAC{a#0}}", "AB{aBC{aAC{aAC{b.}}}|bBC{bAC{aAC{c.}}}}",
		// Roles that are finished long before the last message.
		"AB{aAB{bBC{cBC{dBC{a.}}}}}", "AB{a@BC{a#0}}", "AB{aAB{a@BC{a#0|b.}}}",
	} {
		list = append(list, parsed(t, text))
	}
	started, configurations, finished := 0, 0, 0
	for _, g := range list {
		if n, ok := start(t, g); ok {
			started++
			found, ended := checkAllReachable(t, g, n, 60)
			configurations += found
			finished += ended
		}
	}
	if started < 1000 || configurations < 15000 || finished < 500 {
		t.Errorf("only %d networks, %d configurations, %d finished", started, configurations, finished)
	}
}

// TestExampleReachesTen counts the configurations of an example of the document.
func TestExampleReachesTen(t *testing.T) {
	g := parsed(t, "AB{aBC{cCA{d.}}|bBC{d.}}")
	n, _ := start(t, g)
	if found, finished := checkAllReachable(t, g, n, 100); found != 10 || finished != 1 {
		t.Errorf("%d configurations, %d finished, want 10 and 1", found, finished)
	}
}

// TestLongRunsAreSafe is about promise 4: it runs large protocols, also with
// one role that is as fast, or as slow, as it can be.
func TestLongRunsAreSafe(t *testing.T) {
	r := rand.New(rand.NewSource(10))
	steps, full := 0, 0
	for i, g := range randomProtocols(800) {
		n, ok := start(t, g)
		if !ok {
			continue
		}
		for range 60 {
			checkSafe(t, g, n)
			enabled := impl.EnabledActions(n)
			if len(enabled) == 0 {
				if !impl.NetworkFinished(n) {
					t.Errorf("%q ends in %s", textOf(g), networkText(n))
				}
				break
			}
			a := enabled[r.Intn(len(enabled))]
			switch i % 3 {
			case 1:
				a = enabled[0]
			case 2:
				a = enabled[len(enabled)-1]
			}
			next, ok := impl.ApplyAction(n, a)
			if want, wantOk := appliedByRules(n, a); ok != wantOk || ok && networkText(next) != networkText(want) {
				t.Errorf("ApplyAction of %s to %s = %s, %v", actText(a), networkText(n), show(next), ok)
			}
			if !ok {
				break
			}
			for _, queue := range next.Queues {
				if len(queue) == 3 {
					full++
				}
			}
			n = next
			steps++
		}
	}
	if steps < 15000 || full < 1000 {
		t.Errorf("only %d steps and %d full queues", steps, full)
	}
}

// TestWrongPartnerIsUnsafe has networks that are not projections of one global
// type, and reach what promise 4 excludes.
func TestWrongPartnerIsUnsafe(t *testing.T) {
	for _, c := range []struct {
		locals  [3]string
		actions string
		strange string
		stuck   bool
	}{
		{[3]string{"B!{b.}", "A?{a.}", "."}, "A!Bb", "B", true},
		{[3]string{"B!{b@C!{a#0}}", "A?{a.}", "A?{b.}"}, "A!Bb A!Ca", "BC", false},
		{[3]string{"B?{a.}", "A?{a.}", "."}, "", "", true},
		{[3]string{"B!{a.}", "A?{aA?{a.}}", "."}, "A!Ba B?Aa", "", true},
		{[3]string{"B!{aB!{a.}}", "A?{a.}", "."}, "A!Ba B?Aa A!Ba", "", true},
		{[3]string{"B!{a.}", "C!{a.}", "A!{a.}"}, "A!Ba B!Ca C!Aa", "", true},
		{[3]string{"@B!{a#0}", ".", "."}, "A!Ba A!Ba A!Ba", "", true},
	} {
		n, ok := impl.NewNetwork(networkOf(t, c.locals).Locals)
		if !ok {
			t.Fatalf("no network of %v", c.locals)
		}
		for i := 0; i < len(c.actions); i += len("A!Ba ") {
			checkNetwork(t, n)
			if n, ok = impl.ApplyAction(n, act(c.actions[i:i+4])); !ok {
				t.Fatalf("%v: the action at %d of %s is not possible", c.locals, i, c.actions)
			}
		}
		checkNetwork(t, n)
		if impl.UnexpectedReceivers(n) != c.strange || impl.NetworkStuck(n) != c.stuck {
			t.Errorf("%s: unexpected receivers %q, stuck %v", networkText(n), impl.UnexpectedReceivers(n), impl.NetworkStuck(n))
		}
	}
}
