package tests

import (
	"math/rand"
	"slices"
	"strings"
	"testing"

	"loop.example/sessiontypes/impl"
)

func TestMonitors(t *testing.T) {
	for i, role := range roles {
		other, third := roles[(i+1)%3], roles[(i+2)%3]
		types := append(foldedTypes(other, true), done(), loop(done()), loops(39, done()), sizedFor(third, 400), deepFor(other, 40),
			send(other, option("a", done())), receive(third, option("d", done())),
			loop(send(other, option("a", receive(third, option("b", again(0)))), option("c", done()))))
		for _, l := range types {
			m := impl.Monitor{Role: role, Type: l}
			checkMonitor(t, m, wellFormedActions())
			got, _ := impl.NewMonitor(role, l)
			if !impl.MonitorEqual(got, m) {
				t.Errorf("NewMonitor of %s is not equal to it", monitorText(m))
			}
		}
	}
	for _, l := range randomLocals(2000) {
		for _, role := range append(roles, "", "D", "BA", "AA") {
			want := slices.Contains(roles, role) && fits(l, role)
			got, ok := impl.NewMonitor(role, l)
			if ok != want || ok && (got.Role != role || !sameLocal(got.Type, l)) || !ok && !isZeroMonitor(got) {
				t.Errorf("NewMonitor of %q and %s = %s, %v", role, textOfLocal(l), show(got), ok)
			}
			if impl.MonitorValid(impl.Monitor{Role: role, Type: l}) != want {
				t.Errorf("MonitorValid of %q and %s is not %v", role, textOfLocal(l), want)
			}
		}
	}
}

func TestInvalidMonitors(t *testing.T) {
	checkNoMonitor(t, "the zero value", impl.Monitor{})
	for _, m := range invalidMonitors() {
		checkNoMonitor(t, show(m), m)
	}
}

func TestObserve(t *testing.T) {
	for _, c := range []struct {
		role, local, action string
		after               string // empty if the action is rejected
	}{
		{"A", "B!{a.}", "A!Ba", "."},
		{"A", "B!{a.|bC?{c.}}", "A!Ba", "."},
		{"A", "B!{a.|bC?{c.}}", "A!Bb", "C?{c.}"},
		{"B", "A?{a.|bC!{d.}}", "B?Ab", "C!{d.}"},
		{"C", "B?{a.|b.|c.|dA!{d.}}", "C?Bd", "A!{d.}"},
		// A send where a receive is permitted, and the reverse.
		{"A", "B!{a.}", "A?Ba", ""}, {"A", "B?{a.}", "A!Ba", ""}, {"C", "@A!{b#0}", "C?Ab", ""}, {"C", "@A?{b#0}", "C!Ab", ""},
		// Another peer, which is a later one, or the monitor's own role.
		{"A", "B!{a.}", "A!Ca", ""}, {"A", "B!{a.}", "A!Aa", ""}, {"A", "B!{aC!{a.}}", "A!Ca", ""}, {"B", "A?{a.}", "B?Ca", ""},
		// Another label, which is a later one, or none.
		{"A", "B!{a.}", "A!Bb", ""}, {"A", "B!{a.|c.}", "A!Bb", ""}, {"A", "B!{aB!{b.}}", "A!Bb", ""}, {"A", "B!{a.}", "A!Be", ""}, {"A", "B!{a.}", "A!BA", ""}, {"A", "B!{a.}", "A!Baa", ""}, {"A", "B!{a.}", "A!B", ""},
		// An action of another role, also of the peer.
		{"A", "B!{a.}", "C!Ba", ""}, {"A", "B!{a.}", "B?Aa", ""}, {"A", "B!{a.}", "B!Ba", ""}, {"A", "B!{a.}", "D!Ba", ""}, {"B", "A?{a.}", "A!Ba", ""}, {"B", "A?{a.}", "C?Aa", ""},
		// A finished role.
		{"A", ".", "A!Ba", ""}, {"A", "@.", "A!Ba", ""}, {"B", "@@.", "B?Aa", ""},
		// Recursive types: they are unfolded, and continue folded.
		{"A", "@B!{a#0|b.}", "A!Ba", "@B!{a#0|b.}"}, {"A", "@B!{a#0|b.}", "A!Bb", "."}, {"A", "@B!{aC?{c#0}}", "A!Ba", "C?{c@B!{aC?{c#0}}}"},
		{"A", "@@B!{a#0|b#1}", "A!Ba", "@B!{a#0|b@@B!{a#0|b#1}}"}, {"A", "@@B!{a#0|b#1}", "A!Bb", "@@B!{a#0|b#1}"},
		{"C", "@A?{a@B!{b#1|c#0}}", "C?Aa", "@B!{b@A?{a@B!{b#1|c#0}}|c#0}"}, {"C", "@A?{a@B!{b#1|c#0}}", "C!Bb", ""},
	} {
		m := impl.Monitor{Role: c.role, Type: local(t, c.local)}
		next, ok := checkObserve(t, m, act(c.action))
		if ok != (c.after != "") || ok && monitorText(next) != c.role+" "+c.after {
			t.Errorf("Observe of %s by %s = %s, %v, want %q", c.action, monitorText(m), monitorText(next), ok, c.after)
		}
	}
}

// TestObservedActions is about promise 6: it tries all actions at each monitor that is reached.
func TestObservedActions(t *testing.T) {
	all, others := wellFormedActions(), anyActions()
	monitors, permitted := 0, 0
	for i, l := range append(randomLocals(1500), allLocals(4, 0, 0)...) {
		actions := all
		if i%20 == 0 {
			actions = others
		}
		for _, role := range roles {
			if !fits(l, role) {
				continue
			}
			reached := []impl.Monitor{{Role: role, Type: l}}
			for k := 0; k < len(reached) && k < 8; k++ {
				reached = append(reached, checkMonitor(t, reached[k], actions)...)
				monitors++
			}
			permitted += len(reached) - 1
		}
	}
	if monitors < 5000 || permitted < 5000 {
		t.Errorf("only %d monitors and %d permitted actions", monitors, permitted)
	}
}

// TestAfterObserving is about actions that the type permits, and after which the monitor may not be valid.
func TestAfterObserving(t *testing.T) {
	for i, role := range roles {
		other, third := roles[(i+1)%3], roles[(i+2)%3]
		for _, within := range []bool{false, true} {
			for _, next := range append(foldedTypes(other, within), foldedTypes(third, within)...) {
				for _, kind := range []int{impl.LocalSend, impl.LocalReceive} {
					m := impl.Monitor{Role: role, Type: impl.Local{Kind: kind, Peer: other, Branches: []impl.LocalBranch{option("a", next), option("b", done())}}}
					checkMonitor(t, m, wellFormedActions())
					first := impl.Action{Role: role, Receive: kind == impl.LocalReceive, Peer: other, Label: "a"}
					second := first
					second.Label = "b"
					locals := []impl.Local{done(), done(), done()}
					locals[i] = m.Type
					want := -1
					if !within {
						want = 0
					}
					if got := checkViolation(t, locals, []impl.Action{first}); got != want {
						t.Errorf("FirstViolation of %s by %s = %d", actText(first), monitorText(m), got)
					}
					if _, ok := impl.Observe(m, first); ok != within {
						t.Errorf("Observe of %s by %s = %v", actText(first), monitorText(m), ok)
					}
					if got := checkViolation(t, locals, []impl.Action{second}); got != -1 {
						t.Errorf("FirstViolation of %s by %s = %d", actText(second), monitorText(m), got)
					}
				}
			}
		}
	}
}

// TestRounds observes recursive types many times around.
func TestRounds(t *testing.T) {
	for _, c := range []struct{ role, local, round string }{
		{"A", "@B!{a#0|b.}", "A!Ba"},
		{"A", "@B!{aC?{cC!{d#0}}}", "A!Ba A?Cc A!Cd"},
		{"B", "@A?{a@C!{b#0|c#1}}", "B?Aa B!Cb B!Cb B!Cc"},
		{"C", "@@@B!{a#0|b#1|c#2}", "C!Ba C!Bb C!Bc C!Bb"},
		{"C", "@A?{b@A?{c#1}}", "C?Ab C?Ac"},
	} {
		m := impl.Monitor{Role: c.role, Type: local(t, c.local)}
		locals := []impl.Local{done(), done(), done()}
		locals[slices.Index(roles, c.role)] = m.Type
		round := acts(c.round)
		sizes := map[int]bool{}
		for range 50 {
			for _, a := range round {
				next, ok := checkObserve(t, m, a)
				if !ok {
					t.Fatalf("Observe rejects %s after a few rounds of %s: %s", actText(a), c.local, monitorText(m))
				}
				m = next
			}
			sizes[sizeLocal(m.Type)] = true
		}
		if len(sizes) != 1 {
			t.Errorf("the sizes of the types after rounds of %s: %s", c.local, show(sizes))
		}
		for _, rounds := range []int{1, 2, 10, 1000} {
			trace := slices.Repeat(round, rounds)
			if got := impl.FirstViolation(locals, trace); got != -1 {
				t.Errorf("FirstViolation of %d rounds of %s = %d", rounds, c.local, got)
			}
			trace = append(trace, impl.Action{Role: c.role, Peer: c.role, Label: "a"})
			if got := impl.FirstViolation(locals, trace); got != len(trace)-1 {
				t.Errorf("FirstViolation of %d rounds of %s and a violation = %d", rounds, c.local, got)
			}
		}
	}
}

func TestRestrictTrace(t *testing.T) {
	trace := acts("A!Ba B?Aa A!Cb C?Ab A?Bc")
	odd := []impl.Action{{}, {Role: "A"}, {Role: "AB", Peer: "A", Label: "a"}, {Role: "D", Receive: true, Peer: "\x00", Label: "long"}, {Role: "A", Peer: "A"}, {Peer: "A"}, {Role: "D"}}
	for _, c := range []struct {
		trace []impl.Action
		role  string
		want  []impl.Action
	}{
		{nil, "A", nil}, {[]impl.Action{}, "A", nil}, {nil, "", nil}, {nil, "D", nil},
		{trace, "A", acts("A!Ba A!Cb A?Bc")}, {trace, "B", acts("B?Aa")}, {trace, "C", acts("C?Ab")},
		{acts("A!Ba A!Ba"), "A", acts("A!Ba A!Ba")},
		// Roles that do not occur, and strings that are no roles.
		{acts("A!Ba A?Ba"), "B", nil}, {trace, "", nil}, {trace, "D", nil}, {trace, "AB", nil}, {trace, "ABC", nil}, {trace, "a", nil}, {trace, "A ", nil}, {trace, "A!Ba", nil}, {trace, strings.Repeat("A", 1<<16), nil},
		// Actions that are not well-formed.
		{odd, "", []impl.Action{{}, {Peer: "A"}}}, {odd, "A", []impl.Action{{Role: "A"}, {Role: "A", Peer: "A"}}}, {odd, "AB", odd[2:3]}, {odd, "D", []impl.Action{odd[3], odd[6]}}, {odd, "B", nil}, {odd, "long", nil},
	} {
		if got := impl.RestrictTrace(c.trace, c.role); !slices.Equal(got, c.want) {
			t.Errorf("RestrictTrace of %s to %q = %s, want %s", show(c.trace), show(c.role), show(got), show(c.want))
		}
	}
	r := rand.New(rand.NewSource(16))
	others := anyActions()
	for i := range 300 {
		var trace []impl.Action
		want := map[string][]impl.Action{}
		for range i {
			a := others[r.Intn(len(others))]
			trace = append(trace, a)
			want[a.Role] = append(want[a.Role], a)
		}
		for _, role := range []string{"A", "B", "C", "", "D", "a", "AB", "A ", "b"} {
			if got := impl.RestrictTrace(trace, role); !slices.Equal(got, want[role]) {
				t.Errorf("RestrictTrace of %s to %q = %s", show(trace), role, show(got))
			}
		}
	}
	many := slices.Repeat(trace, 1<<16)
	if got := impl.RestrictTrace(many, "A"); len(got) != 3<<16 {
		t.Errorf("RestrictTrace of a long trace has %d actions", len(got))
	}
}

func TestFirstViolation(t *testing.T) {
	example := localsOf(t, "B!{a.}", "A?{a.}", ".")
	both := localsOf(t, "@B!{a#0|b.}", "@A?{a#0|b.}", ".")
	three := localsOf(t, "@B!{aC?{c#0}}", "@A?{aC!{b#0}}", "@B?{bA!{c#0}}")
	for _, c := range []struct {
		locals []impl.Local
		trace  string
		want   int
	}{
		{example, "A!Ba B?Aa", -1}, {example, "A!Bb B?Ab", 0}, {example, "B?Aa A!Ba", -1},
		// The empty trace, and traces that stop early.
		{example, "", -1}, {both, "", -1}, {three, "", -1}, {example, "A!Ba", -1}, {example, "B?Aa", -1}, {three, "A!Ba", -1}, {three, "A!Ba B?Aa B!Cb C?Bb", -1},
		// A violation at the first, at a later, and at the last action.
		{both, "A!Bc A!Ba", 0}, {both, "B!Aa A!Ba B?Aa", 0}, {both, "A!Ba A!Bc A!Ba", 1}, {both, "A!Ba B?Aa A!Ba A!Ca A!Bb", 3}, {both, "A!Ba A!Ba A!Bb B?Aa B?Aa B?Ab B?Ab", 6}, {both, "A!Ba B?Aa A!Bb B?Ab C!Aa", 4},
		// A finished role.
		{both, "C!Ba", 0}, {both, "A!Bb A!Ba", 1}, {both, "A!Bb A!Bb", 1}, {example, "A!Ba B?Aa C?Ab", 2},
		// What the queues would not permit: a receive before the send, more labels than there is room for, and a label that is not the oldest.
		{both, "B?Aa B?Aa B?Ab A!Ba A!Ba A!Bb", -1}, {both, "A!Ba A!Ba A!Ba A!Ba A!Ba A!Ba A!Bb", -1}, {both, "A!Ba B?Ab", -1}, {both, "B?Ab", -1}, {three, "C?Bb C!Ac C?Bb B?Aa A!Ba A?Cc", -1},
		// Violations of several roles: the first counts, whichever role it is of.
		{three, "A!Bb B?Ab C?Bc", 0}, {three, "A!Ba C?Bc B?Ab A!Ba", 1}, {three, "C?Bc B?Ab A!Bb", 0}, {three, "B?Aa B!Cc A!Bb C!Aa", 1}, {three, "A!Ba B?Aa C?Bb C?Bb B?Aa A!Ba", 3}, {three, "A!Ba B?Aa C?Bb A?Cb B!Cc C!Ac", 3}, {three, "C?Bb A!Ba B!Cc A!Ba C!Ab", 2},
		// An action whose role is none, before and behind a violation, and alone.
		{both, "D!Ba", 0}, {both, "A!Ba D!Ba", 1}, {both, "D!Ba A!Bc", 0}, {both, "A!Bc D!Ba", 0}, {both, "A!Ba A!Bc D!Ba", 1}, {both, "A!Ba B?Aa D?Ba C!Aa", 2}, {both, "A!Ba C!Aa a!Ba", 1}, {both, "A!Ba a!Ba b!Ba C!Aa", 1},
		// Peers and labels that are none.
		{both, "A!Da", 0}, {both, "A!Ba A!Be", 1}, {both, "A!Ba A!B", 1}, {both, "A!Bab", 0},
	} {
		if got := checkViolation(t, c.locals, acts(c.trace)); got != c.want {
			t.Errorf("FirstViolation of %q in %s = %d, want %d", c.trace, networkText(impl.Network{Locals: c.locals}), got, c.want)
		}
	}
	for _, role := range []string{"", "AB", "A ", "\x00", "ABC", "BC"} {
		a := impl.Action{Role: role, Peer: "B", Label: "a"}
		for i, trace := range [][]impl.Action{{a, act("A!Ba")}, {act("A!Ba"), a, act("A!Ca")}, append(acts("A!Ba B?Aa"), a)} {
			if got := checkViolation(t, both, trace); got != i {
				t.Errorf("FirstViolation with the role %q at %d = %d", role, i, got)
			}
		}
	}
}

// TestNumberOfLocals is about local types that are too few, too many, or not valid.
func TestNumberOfLocals(t *testing.T) {
	traces := [][]impl.Action{nil, {}, acts("A!Ba"), acts("A!Ba B?Aa"), acts("C!Aa"), {{}}, acts("A!Ba A!Ba A!Ba")}
	good := localsOf(t, "B!{a.}", "A?{a.}", ".")
	for n := range 8 {
		locals := append(slices.Clone(good), done(), done(), done(), done())[:n]
		for _, trace := range traces {
			got := checkViolation(t, locals, trace)
			if n != 3 && got != 0 {
				t.Errorf("FirstViolation with %d local types = %d", n, got)
			}
		}
	}
	for _, trace := range traces {
		if got := impl.FirstViolation(nil, trace); got != 0 {
			t.Errorf("FirstViolation without local types = %d", got)
		}
		for i := range roles {
			for _, l := range append(foldedTypes(roles[(i+1)%3], false), impl.Local{}, again(0), loop(again(0)), send(roles[i], option("a", done()))) {
				locals := slices.Clone(good)
				locals[i] = l
				if got := checkViolation(t, locals, trace); got != 0 {
					t.Errorf("FirstViolation with a monitor that is not valid = %d", got)
				}
				// The monitor's first violation would be a later one.
				longer := append(acts("A!Ba B?Aa C!Aa"), trace...)
				if got := checkViolation(t, locals, longer); got != 0 {
					t.Errorf("FirstViolation with a monitor that is not valid = %d", got)
				}
			}
		}
	}
	many := make([]impl.Local, 1<<16)
	returns(t, "FirstViolation", func() {
		if got := impl.FirstViolation(many, acts("A!Ba")); got != 0 {
			t.Errorf("FirstViolation with many local types = %d", got)
		}
	})
}

// TestExecutionsHaveNoViolation is about promise 6: what a network does, its
// local types permit, in any order that keeps the actions of each role in theirs.
func TestExecutionsHaveNoViolation(t *testing.T) {
	r := rand.New(rand.NewSource(17))
	violations, accepted := map[bool]int{}, 0
	for _, n := range mixedNetworks(t, 400, 300, 400) {
		_, trace := impl.RunChoices(n, randomChoices(r, 24))
		other := interleaved(r, trace)
		for i := range len(trace) + 1 {
			if got, after := impl.FirstViolation(n.Locals, trace[:i]), impl.FirstViolation(n.Locals, other[:i]); got != -1 || after != -1 {
				t.Errorf("FirstViolation of %s in %s = %d, and of %s %d", actTexts(trace[:i]), networkText(n), got, actTexts(other[:i]), after)
			}
		}
		accepted += len(trace)
		for len(trace) > 0 && len(trace) < 50 {
			trace = mistaken(r, trace)
			got := checkViolation(t, n.Locals, trace)
			violations[got >= 0]++
			if got >= 0 {
				break
			}
		}
		for i, role := range roles {
			own := impl.RestrictTrace(trace, role)
			locals := []impl.Local{done(), done(), done()}
			locals[i] = n.Locals[i]
			checkViolation(t, locals, own)
		}
	}
	if accepted < 5000 || violations[true] < 500 || violations[false] < 100 {
		t.Errorf("only %d accepted actions, and %v violations", accepted, violations)
	}
}

// TestFirstViolationIsAMinimum compares FirstViolation with the monitors of single roles.
func TestFirstViolationIsAMinimum(t *testing.T) {
	r := rand.New(rand.NewSource(18))
	all := append(wellFormedActions(), impl.Action{Role: "D", Peer: "A", Label: "a"})
	counts := map[int]int{}
	for _, n := range randomNetworks(500) {
		for range 6 {
			var trace []impl.Action
			for l := n.Locals; len(trace) < 12; {
				a := all[r.Intn(len(all))]
				if enabled := enabledByRules(impl.Network{Locals: l, Queues: make([]string, 9)}); len(enabled) > 0 && r.Intn(6) > 0 {
					a = enabled[r.Intn(len(enabled))]
					if next, ok := observedByRules(impl.Monitor{Role: a.Role, Type: l[slices.Index(roles, a.Role)]}, a); ok {
						l = slices.Clone(l)
						l[slices.Index(roles, a.Role)] = next
					}
				}
				trace = append(trace, a)
			}
			first := checkViolation(t, n.Locals, trace)
			counts[first]++
			monitors := map[string]impl.Monitor{}
			for i, role := range roles {
				monitors[role], _ = impl.NewMonitor(role, n.Locals[i])
			}
			for i, a := range trace {
				next, ok := impl.Observe(monitors[a.Role], a)
				if ok != (i != first) {
					t.Errorf("the first violation of %s in %s is %d, but Observe of %d = %v", actTexts(trace), networkText(n), first, i, ok)
				}
				if !ok {
					break
				}
				monitors[a.Role] = next
			}
		}
	}
	for first := range 8 {
		if counts[first] < 20 {
			t.Errorf("only %d traces whose first violation is %d", counts[first], first)
		}
	}
}

func TestMonitorEqual(t *testing.T) {
	types := append(localsOf(t, ".", "@.", "B!{a.}", "B?{a.}", "C!{a.}", "B!{b.}", "B!{a.|b.}", "B!{a@.}", "@B!{a#0}", "B!{a@B!{a#0}}"),
		impl.Local{}, again(0), again(1), loop(again(0)), send("B"), send("A", option("a", done())), send("\xff", option("long", again(-1))), impl.Local{Kind: 9, Peer: "A", Index: 3})
	names := []string{"A", "B", "C", "", "D", "AB", "\x00", "a"}
	for i, a := range types {
		for j, b := range types {
			for _, role := range names {
				for _, other := range names {
					if got := impl.MonitorEqual(impl.Monitor{Role: role, Type: a}, impl.Monitor{Role: other, Type: b}); got != (i == j && role == other) {
						t.Errorf("MonitorEqual of %q %s and %q %s = %v", role, show(a), other, show(b), got)
					}
				}
			}
		}
	}
	for _, m := range invalidMonitors() {
		copied := impl.Monitor{Role: strings.Clone(m.Role), Type: spaciousLocal(m.Type)}
		if !impl.MonitorEqual(m, copied) || !impl.MonitorEqual(copied, m) || impl.MonitorEqual(m, impl.Monitor{Role: m.Role + "A", Type: m.Type}) {
			t.Errorf("MonitorEqual of %s", show(m))
		}
	}
	if !impl.MonitorEqual(impl.Monitor{}, impl.Monitor{Type: impl.Local{Branches: []impl.LocalBranch{}}}) {
		t.Error("a nil slice and an empty slice are not equal")
	}
}
