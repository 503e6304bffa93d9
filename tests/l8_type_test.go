package tests

import (
	"math/rand"
	"slices"
	"testing"

	"loop.example/sessiontypes/impl"
)

func TestInferType(t *testing.T) {
	for _, c := range []struct {
		process string
		want    string // the text of the type, or nothing if there is none
	}{
		{".", "."}, {"@.", "@."}, {"@@.", "@@."}, {"B!a.", "B!{a.}"}, {"A!dC!b.", "A!{dC!{b.}}"}, {"B?{a.}", "B?{a.}"}, {"C?{b.|c@.|dA!a.}", "C?{b.|c@.|dA!{a.}}"},
		{"@B!a#0", "@B!{a#0}"}, {"@@B?{a#0|b#1}", "@@B?{a#0|b#1}"}, {"@A!a@#1", "@A!{a@#1}"}, {"@@@A!a#2", "@@@A!{a#2}"},
		// Choices between the same types.
		{"(.+.)", "."}, {"(@.+@.)", "@."}, {"(.+@.)", ""}, {"(@.+.)", ""}, {"(@@.+@.)", ""}, {"@B!a(#0+#0)", "@B!{a#0}"}, {"@@B!a(#0+#1)", ""}, {"@B!a(#0+.)", ""}, {"@B!a(.+#0)", ""}, {"@B!a(#0+@#1)", ""},
		{"(B!a.+B!a.)", "B!{a.}"}, {"(@B!a#0+@B!a#0)", "@B!{a#0}"}, {"(@B!a#0+@B!b#0)", ""}, {"(@B!a#0+B!a@B!a#0)", ""}, {"(B!a@B!a#0+@B!a#0)", ""}, {"(@B!a.+B!a.)", ""},
		// Choices of labels: different ones, and the same one with equal and with different continuations.
		{"(B!a.+B!b.)", "B!{a.|b.}"}, {"(B!b.+B!a.)", "B!{a.|b.}"}, {"(A!d.+A!a.)", "A!{a.|d.}"}, {"(C!cB!a.+C!bA!a.)", "C!{bA!{a.}|cB!{a.}}"},
		{"(B!a.+B!aB!a.)", ""}, {"(B!aB!a.+B!a.)", ""}, {"(B!a@.+B!a.)", ""}, {"(B!aC!a.+B!aC!b.)", ""}, {"(B!a(C!a.+C!b.)+B!a(C!b.+C!a.))", "B!{aC!{a.|b.}}"}, {"@(B!a#0+B!a.)", ""}, {"@(B!a#0+B!a#0)", "@B!{a#0}"},
		{"@(B!a#0+B!b.)", "@B!{a#0|b.}"}, {"@(B!b.+B!a#0)", "@B!{a#0|b.}"}, {"@B!a@(B!a#0+B!b#1)", "@B!{a@B!{a#0|b#1}}"}, {"@B!a@(B!a#0+B!a#1)", ""},
		{"(B!aC?{a.|b.}+B!bC?{a.})", "B!{aC?{a.|b.}|bC?{a.}}"}, {"(B!aC?{a.|b.}+B!aC?{a.})", ""},
		// Other peers, receives and other kinds.
		{"(B!a.+C!a.)", ""}, {"(B!a.+C!b.)", ""}, {"(C!a.+A!b.)", ""}, {"(B?{a.}+B?{a.})", "B?{a.}"}, {"(B?{a.}+B?{b.})", ""}, {"(B?{a.}+B?{a.|b.})", ""}, {"(B?{a.}+C?{a.})", ""}, {"(B?{a.}+B?{a@.})", ""},
		{"(B!a.+B?{a.})", ""}, {"(B?{a.}+B!a.)", ""}, {"(B?{a.}+B!b.)", ""}, {"(B!a.+.)", ""}, {"(.+B!a.)", ""}, {"(.+B?{a.})", ""}, {"(B?{a.|b.|c.}+B?{a.|b.|c.})", "B?{a.|b.|c.}"},
		// Choices of choices.
		{"((B!a.+B!b.)+B!c.)", "B!{a.|b.|c.}"}, {"(B!c.+(B!a.+B!b.))", "B!{a.|b.|c.}"}, {"((B!d.+B!b.)+(B!c.+B!a.))", "B!{a.|b.|c.|d.}"}, {"(((B!d.+B!c.)+B!b.)+B!a.)", "B!{a.|b.|c.|d.}"},
		{"((B!a.+B!b.)+(B!b.+B!c.))", "B!{a.|b.|c.}"}, {"((B!a.+B!b.)+(B!b@.+B!c.))", ""}, {"((B!a.+B!b.)+(B!c.+B!a@.))", ""}, {"((B!a.+B!b.)+B!a.)", "B!{a.|b.}"}, {"(B!a.+(B!a.+B!b.))", "B!{a.|b.}"},
		{"((B!a.+B!b.)+(B!b.+B!a.))", "B!{a.|b.}"}, {"((B!a.+B!b.)+(C!a.+C!b.))", ""}, {"((.+.)+(.+.))", "."}, {"((.+.)+B!a.)", ""}, {"((B!a.+C!a.)+B!a.)", ""}, {"(B!a.+(B!a.+C!a.))", ""}, {"((B!a.+C!a.)+(B!a.+C!a.))", ""},
		{"((B?{a.}+B?{a.})+B?{a.})", "B?{a.}"}, {"((B!a.+B!a.)+B?{a.})", ""}, {"(@(B!a#0+B!b.)+@(B!b.+B!a#0))", "@B!{a#0|b.}"}, {"(@(B!a#0+B!b.)+@B!a#0)", ""}, {"@((B!a#0+B!b.)+B!c#0)", "@B!{a#0|b.|c#0}"},
		// No type somewhere below.
		{"A!a(.+@.)", ""}, {"A?{a.|b(.+@.)}", ""}, {"A?{a(.+@.)|b.}", ""}, {"A?{a.|b(.+@.)|c.}", ""}, {"@(B!a#0+C!a#0)", ""}, {"@@A!a(#0+#1)", ""}, {"(B!a(.+@.)+B!b.)", ""}, {"(B!a.+B!b(.+@.))", ""}, {"((.+@.)+(.+@.))", ""}, {"((.+@.)+.)", ""}, {"(.+(.+@.))", ""},
	} {
		p := process(t, c.process)
		l, ok := checkType(t, p)
		if ok != (c.want != "") || impl.FormatLocal(l) != c.want {
			t.Errorf("InferType of %s = %q, %v, want %q", c.process, impl.FormatLocal(l), ok, c.want)
		}
		for _, other := range []impl.Local{done(), sends(1, done()), l} {
			if !ok && impl.HasType(p, other) {
				t.Errorf("%s has no type, but the type %s", c.process, show(other))
			}
		}
	}
}

// TestEveryChoice has choices between any two processes of a few nodes.
func TestEveryChoice(t *testing.T) {
	var list []impl.Process
	for n := 1; n <= 3; n++ {
		list = append(list, allProcesses(n, 1, 0)...)
	}
	typed := map[bool]int{}
	for _, first := range list {
		for _, second := range list {
			_, ok := checkType(t, repeat(emit("A", "d", either(first, second))))
			typed[ok]++
		}
	}
	if typed[true] < 300 || typed[false] < 3000 {
		t.Errorf("only %d choices with a type, and %d without", typed[true], typed[false])
	}
}

// TestTypesAtLimits has processes whose types are as large, as deep and as wide as they can be.
func TestTypesAtLimits(t *testing.T) {
	for _, p := range []impl.Process{
		emits(39, finish()), repeats(39, finish()), repeats(20, emits(19, jump(19))), sizedProcess(40),
		either(either(emits(9, finish()), emit("B", "b", finish())), either(emit("B", "c", finish()), emit("B", "d", finish()))),
	} {
		l, ok := checkType(t, p)
		if !ok || !validLocal(l) {
			t.Errorf("InferType of %s = %s, %v", textOfProcess(p), show(l), ok)
		}
	}
	deepest, _ := impl.InferType(emits(39, finish()))
	if depthLocal(deepest) != 40 {
		t.Errorf("the depth of the type is %d", depthLocal(deepest))
	}
	// A choice of choices that doubles nothing: each of them has the same type twice.
	p := emit("B", "a", finish())
	for sizeProcess(p)*2+1 <= 40 {
		p = either(p, p)
	}
	if l, ok := checkType(t, p); !ok || textOfLocal(l) != "B!{a.}" {
		t.Errorf("InferType of %s = %s, %v", textOfProcess(p), show(l), ok)
	}
}

func TestHasType(t *testing.T) {
	for _, c := range []struct {
		process, local string
		want           bool
	}{
		{".", ".", true}, {".", "@.", true}, {"@.", ".", true}, {"@@.", "@.", true}, {".", "B!{a.}", false}, {"B!a.", ".", false}, {".", "B?{a.}", false}, {"B?{a.}", ".", false},
		// A send of fewer labels, and of others.
		{"B!a.", "B!{a.}", true}, {"B!a.", "B!{a.|b.}", true}, {"B!b.", "B!{a.|b.}", true}, {"B!b.", "B!{a.|b.|c.|d.}", true}, {"B!c.", "B!{a.|b.}", false}, {"B!a.", "C!{a.}", false}, {"B!a.", "B?{a.}", false}, {"B!a.", "B!{aB!{a.}}", false},
		{"(B!a.+B!b.)", "B!{a.|b.}", true}, {"(B!a.+B!b.)", "B!{a.|b.|c.}", true}, {"(B!a.+B!b.)", "B!{a.}", false}, {"(B!a.+B!c.)", "B!{a.|b.}", false}, {"((B!a.+B!b.)+(B!c.+B!d.))", "B!{a.|b.|c.|d.}", true}, {"((B!a.+B!b.)+(B!c.+B!d.))", "B!{a.|b.|c.}", false},
		// A receive that accepts more than the type, as much, and less.
		{"B?{a.}", "B?{a.}", true}, {"B?{a.|b.}", "B?{a.}", true}, {"B?{a.|b.}", "B?{b.}", true}, {"B?{a.|bC!a.}", "B?{a.}", true}, {"B?{a.|b.|c.}", "B?{a.|c.}", true}, {"B?{a.}", "B?{a.|b.}", false}, {"B?{a.|b.}", "B?{a.|b.|c.}", false}, {"B?{a.|b.}", "B?{c.}", false},
		{"B?{a.|b.|c.}", "B?{a.|b.|c.|d.}", false}, {"B?{a.}", "C?{a.}", false}, {"B?{a.}", "B!{a.}", false}, {"B?{a.|bC!a.}", "B?{a.|b.}", false},
		// Both, at several levels.
		{"B?{aC!a.|b.}", "B?{aC!{a.|b.}}", true}, {"B?{aC!a.|b.}", "B?{aC!{b.}}", false}, {"C!aB?{a.|b.|c.}", "C!{aB?{b.}|b.}", true}, {"C!aB?{a.|c.}", "C!{aB?{b.}|b.}", false},
		// Loops that are unfolded, on both sides.
		{"@B!a#0", "@B!{a#0}", true}, {"@B!a#0", "B!{a@B!{a#0}}", true}, {"@B!a#0", "@B!{aB!{a#0}}", true}, {"@B!a#0", "B!{aB!{a@@B!{a#0}}}", true}, {"B!a@B!a#0", "@B!{a#0}", true}, {"@B!aB!a#0", "@B!{a#0}", true}, {"@B!aB!a#0", "@B!{aB!{aB!{a#0}}}", true},
		{"@B!a#0", "@B!{a#0|b.}", true}, {"@B!a#0", "B!{a@B!{a#0|b.}|c.}", true}, {"@B!a#0", "B!{a.}", false}, {"@B!a#0", "B!{aB!{a.}|b@B!{a#0}}", false}, {"B!a.", "@B!{a#0}", false}, {"@B!aB!b#0", "@B!{a#0|b#0}", true}, {"@B!aB!b#0", "@B!{a#0}", false}, {"@B!aB!b#0", "B!{a@B!{bB!{a#0}}}", true},
		{"@(B!a#0+B!b.)", "@B!{a#0|b.}", true}, {"@(B!a#0+B!b.)", "@B!{a#0|b.|c#0}", true}, {"@(B!a#0+B!b.)", "B!{a@B!{a#0|b.}|b.}", true}, {"@(B!a#0+B!b.)", "@B!{a#0}", false}, {"@(B!a#0+B!b.)", "B!{a@B!{a#0}|b.}", false},
		{"@B?{a#0|b.}", "@B?{a#0}", true}, {"@B?{a#0|b.}", "B?{aB?{b.}}", true}, {"@B?{a#0|b.}", "B?{a@B?{a#0|b.|c.}}", false}, {"@B?{a@B?{a#1|b#0}|b#0}", "@B?{a#0}", true}, {"@@B?{a#0|b#1}", "@B?{a#0|b#0}", true},
		// Processes with no type.
		{"(B!a.+C!a.)", "B!{a.}", false}, {"(B!a.+C!a.)", "C!{a.}", false}, {"(B?{a.}+B?{b.})", "B?{a.}", false}, {"(B?{a.|b.}+B?{a.})", "B?{a.}", false}, {"(.+@.)", ".", false}, {"(@B!a#0+B!a@B!a#0)", "@B!{a#0}", false}, {"A?{a.|b(.+@.)}", "A?{a.}", false},
	} {
		if got := checkHasType(t, process(t, c.process), local(t, c.local)); got != c.want {
			t.Errorf("HasType of %s and %s = %v", c.process, c.local, got)
		}
	}
}

// TestInvalidTypesOfProcesses has valid processes with types, and types that are not valid.
func TestInvalidTypesOfProcesses(t *testing.T) {
	var types []impl.Local
	for _, m := range invalidMonitors() {
		if !validLocal(m.Type) {
			types = append(types, m.Type)
		}
	}
	types = append(types, impl.Local{Kind: impl.LocalEnd, Peer: "B"}, again(0), loop(again(0)), sends(40, done()), loop(impl.Local{}),
		// Types that would fit if only what follows their labels counted, or no label did.
		impl.Local{Kind: impl.LocalSend, Peer: "B", Index: 1, Branches: []impl.LocalBranch{option("a", done())}}, send("B", option("a", done()), option("e", done())),
		send("B", option("a", done()), option("b", impl.Local{})), send("B", option("a", done()), option("a", done())), receive("B", option("b", done()), option("a", done())),
		loop(send("B", option("a", again(0)), option("b", again(1)))), loop(send("B", option("a", again(0)), option("b", loop(again(0))))), receive("B"))
	processes := []impl.Process{finish(), emit("B", "a", finish()), repeat(emit("B", "a", jump(0))), accept("B", arm("a", finish()), arm("b", finish())), repeat(finish()), emits(39, finish()), either(emit("B", "a", finish()), emit("B", "b", finish()))}
	for _, l := range types {
		if validLocal(l) {
			t.Fatalf("the test is wrong about %s", show(l))
		}
		for _, p := range processes {
			if impl.HasType(p, l) {
				t.Errorf("%s has the type %s, which is not valid", textOfProcess(p), show(l))
			}
		}
	}
	if len(types) < 100 {
		t.Errorf("only %d types", len(types))
	}
}

// TestRandomTypes compares the types of processes with other ones.
func TestRandomTypes(t *testing.T) {
	r := rand.New(rand.NewSource(26))
	processes, types := randomProcesses(1500), randomLocals(300)
	counts := map[bool]int{}
	for i, p := range processes {
		own, ok := checkType(t, p)
		counts[ok]++
		checkHasType(t, p, types[i%len(types)])
		if !ok {
			continue
		}
		for range 4 {
			other, _ := impl.InferType(processes[r.Intn(len(processes))])
			if validLocal(other) {
				checkHasType(t, p, other)
			}
			if equivalent := variant(r, own, 3, false); validLocal(equivalent) && !checkHasType(t, p, equivalent) {
				t.Errorf("%s has not the type %s", textOfProcess(p), textOfLocal(equivalent))
			}
			if below := variant(r, own, 3, true); validLocal(below) {
				checkHasType(t, p, below)
			}
		}
	}
	if counts[true] < 700 || counts[false] < 100 {
		t.Errorf("only %d processes with a type, and %d without", counts[true], counts[false])
	}
}

// changedProcess returns p with another label, peer or order, or with an end, somewhere.
func changedProcess(r *rand.Rand, p impl.Process) impl.Process {
	p.Branches = slices.Clone(p.Branches)
	if len(p.Branches) == 0 || r.Intn(3) > 0 && p.Kind != impl.ProcessEnd {
		for i := range p.Branches {
			if r.Intn(len(p.Branches)) == 0 || i == len(p.Branches)-1 {
				p.Branches[i].Next = changedProcess(r, p.Branches[i].Next)
				return p
			}
		}
		return finish()
	}
	switch {
	case p.Kind == impl.ProcessReceive && r.Intn(2) == 0 && len(p.Branches) > 1:
		p.Branches = p.Branches[1:]
	case p.Kind == impl.ProcessSend && r.Intn(2) == 0:
		p.Label = "abcd"[r.Intn(4):][:1]
	case p.Kind == impl.ProcessSend || p.Kind == impl.ProcessReceive:
		p.Peer = roles[r.Intn(3)]
	default:
		slices.Reverse(p.Branches)
	}
	return p
}

// TestTypedProcessesObey is promise 8: a process that has a type performs only
// the actions that the type permits. The types are given, and the processes
// are written for them, with changes in some.
func TestTypedProcessesObey(t *testing.T) {
	r := rand.New(rand.NewSource(27))
	counts, actions, wrong := map[bool]int{}, 0, 0
	for _, l := range randomLocals(3000) {
		if !implementable(l) || sizeLocal(l) == 1 {
			continue
		}
		for range 4 {
			p := implementation(r, l)
			if !validProcess(p) {
				continue
			}
			if !checkHasType(t, p, l) {
				t.Fatalf("%s has not the type %s", textOfProcess(p), textOfLocal(l))
			}
			if r.Intn(2) == 0 {
				p = changedProcess(r, p)
			}
			has := validProcess(p) && checkHasType(t, p, l)
			counts[has]++
			for range 4 {
				trace, finished := impl.RunProcess(p, randomChoices(r, r.Intn(40)))
				fits := obeysExpected(l, trace, finished)
				if has && !fits {
					t.Errorf("%s has the type %s, but does %s, %v", textOfProcess(p), textOfLocal(l), actTexts(trace), finished)
				}
				if has {
					actions += len(trace)
				} else if !fits {
					wrong++
				}
			}
		}
	}
	if counts[true] < 2000 || counts[false] < 400 || actions < 20000 || wrong < 400 {
		t.Errorf("only %v processes, %d actions of those with the type and %d violations by others", counts, actions, wrong)
	}
}

// TestMonitorsAcceptTypedProcesses is about promise 8 in a protocol: a monitor
// with the projection onto a role accepts what a process does that has it as its type.
func TestMonitorsAcceptTypedProcesses(t *testing.T) {
	r := rand.New(rand.NewSource(28))
	accepted := 0
	for _, g := range randomProtocols(1500) {
		locals, _ := impl.ProjectAll(g)
		for i, l := range locals {
			m, ok := impl.NewMonitor(roles[i], l)
			p := impl.Process{}
			if ok && implementable(l) {
				p = implementation(r, l)
			}
			if !validProcess(p) {
				continue
			}
			if !impl.HasType(p, l) {
				t.Fatalf("%s has not the type %s", textOfProcess(p), textOfLocal(l))
			}
			trace, _ := impl.RunProcess(p, randomChoices(r, 40))
			accepted += acceptedByMonitor(t, m, trace)
		}
	}
	if accepted < 5000 {
		t.Errorf("only %d actions were accepted", accepted)
	}
}

// acceptedByMonitor requires a monitor to accept the actions of a process, up
// to a label that no peer sends or a type that is too large to be unfolded. It
// returns how many are accepted.
func acceptedByMonitor(t *testing.T, m impl.Monitor, trace []impl.Action) int {
	t.Helper()
	for i, a := range trace {
		a.Role = m.Role
		after, ok := impl.Observe(m, a)
		if ok {
			m = after
			continue
		}
		next, _ := nextLocal(unfoldedLocal(m.Type), a.Label)
		if n, _ := permitted(m.Type, trace[i:i+1]); n == 1 && fits(next, m.Role) || !obeysExpected(m.Type, trace[i:i+1], false) {
			t.Errorf("the monitor %s rejects %s", monitorText(m), actText(a))
		}
		return i
	}
	return len(trace)
}
