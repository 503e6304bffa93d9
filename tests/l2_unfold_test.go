package tests

import (
	"math/rand"
	"testing"

	"loop.example/sessiontypes/impl"
)

// checkUnfoldLocal compares UnfoldLocal and StepLocal of a valid type with the definition.
func checkUnfoldLocal(t *testing.T, l impl.Local) {
	t.Helper()
	want := unfoldedLocal(l)
	ok := validLocal(want)
	if !ok {
		want = impl.Local{}
	}
	got, gotOk := impl.UnfoldLocal(l)
	if gotOk != ok || !sameLocal(got, want) {
		t.Fatalf("UnfoldLocal(%s) = %s, %v, want %s, %v", show(l), show(got), gotOk, show(want), ok)
	}
	for _, label := range []string{"", "a", "b", "c", "d", "e", "A", "aa", "ab"} {
		next, found := nextLocal(want, label)
		if got, gotOk := impl.StepLocal(l, label); gotOk != found || !sameLocal(got, next) {
			t.Fatalf("StepLocal(%s, %q) = %s, %v, want %s, %v", show(l), label, show(got), gotOk, show(next), found)
		}
	}
}

func TestUnfoldLocal(t *testing.T) {
	for _, c := range [][2]string{
		{".", "."},
		{"@.", "."},
		{"@@@.", "."},
		{"B!{a.}", "B!{a.}"},
		{"B?{a@B!{a#0}}", "B?{a@B!{a#0}}"},
		{"@B?{a.}", "B?{a.}"},
		{"@B!{a#0}", "B!{a@B!{a#0}}"},
		{"@B!{a#0|b#0|c#0|d.}", "B!{a@B!{a#0|b#0|c#0|d.}|b@B!{a#0|b#0|c#0|d.}|c@B!{a#0|b#0|c#0|d.}|d.}"},
		{"@B!{aC?{c#0}|b.}", "B!{aC?{c@B!{aC?{c#0}|b.}}|b.}"},
		// The inner recursion has unfolded the outer one already.
		{"@@B!{a#0}", "B!{a@B!{a#0}}"},
		{"@@B!{a#1}", "B!{a@@B!{a#1}}"},
		{"@@B!{a#0|b#1}", "B!{a@B!{a#0|b@@B!{a#0|b#1}}|b@@B!{a#0|b#1}}"},
		{"@@@B?{a#2|b#1|c#0}", "B?{a@@@B?{a#2|b#1|c#0}|b@@B?{a@@@B?{a#2|b#1|c#0}|b#1|c#0}|c@B?{a@@@B?{a#2|b#1|c#0}|b@@B?{a@@@B?{a#2|b#1|c#0}|b#1|c#0}|c#0}}"},
		// Below another recursion, the same variable has a greater index.
		{"@B!{a@#1}", "B!{a@@B!{a@#1}}"},
		{"@B!{a@C?{c#0|d#1}}", "B!{a@C?{c#0|d@B!{a@C?{c#0|d#1}}}}"},
		{"@B!{a@C?{a@A!{a#0|b#1|c#2}}}", "B!{a@C?{a@A!{a#0|b#1|c@B!{a@C?{a@A!{a#0|b#1|c#2}}}}}}"},
		{"@B!{a#0|b@B!{a#0|b#1}}", "B!{a@B!{a#0|b@B!{a#0|b#1}}|b@B!{a#0|b@B!{a#0|b@B!{a#0|b#1}}}}"},
		// The body is finished, or becomes so.
		{"@B!{a@.}", "B!{a@.}"},
		{"@@B!{a.}", "B!{a.}"},
	} {
		l := local(t, c[0])
		checkUnfoldLocal(t, l)
		if u, ok := impl.UnfoldLocal(l); !ok || impl.FormatLocal(u) != c[1] {
			t.Errorf("UnfoldLocal(%q) = %q, %v, want %q", c[0], impl.FormatLocal(u), ok, c[1])
		}
	}
}

// TestLocalMeaning checks that the type, its unfolding, and the unfolding of that describe the same actions.
func TestLocalMeaning(t *testing.T) {
	list := randomLocals(3000)
	for _, s := range []string{"@B!{aC?{c#0}|b.}", "@@B!{a#0|b#1}", "@B!{a#0|b@B!{a#0|b#1}}", "@@@B?{a#2|b#1|c#0}", "@B!{a@C?{a@A!{a#0|b#1|c#2}}}"} {
		list = append(list, local(t, s))
	}
	unfoldings := 0
	for _, l := range list {
		checkUnfoldLocal(t, l)
		u, ok := impl.UnfoldLocal(l)
		if !ok {
			continue
		}
		unfoldings++
		if u.Kind == impl.LocalRec || u.Kind == impl.LocalVar {
			t.Errorf("the unfolding of %q is %q", textOfLocal(l), textOfLocal(u))
		}
		checkLocal(t, u, true)
		if want, got := (spot{node: l}).meaning(4), (spot{node: u}).meaning(4); want != got {
			t.Errorf("%q describes %s and its unfolding %s", textOfLocal(l), want, got)
		}
		if twice, ok := impl.UnfoldLocal(u); !ok || !impl.LocalEqual(u, twice) {
			t.Errorf("unfolding %q again changes it", textOfLocal(u))
		}
		if !impl.LocalEquivalent(l, u) || !impl.IsSubtype(l, u) || !impl.IsSubtype(u, l) {
			t.Errorf("%q is not equivalent to its unfolding", textOfLocal(l))
		}
		if l.Kind == impl.LocalRec && impl.LocalEqual(l, u) {
			t.Errorf("%q is equal to its unfolding", textOfLocal(l))
		}
	}
	if unfoldings < 1000 {
		t.Errorf("only %d types have an unfolding", unfoldings)
	}
}

// TestLocalStepsFollowMeaning follows long paths of labels with StepLocal.
func TestLocalStepsFollowMeaning(t *testing.T) {
	r := rand.New(rand.NewSource(6))
	steps := 0
	for _, l := range randomLocals(2000) {
		here := spot{node: l}
		for range 30 {
			here = here.head()
			u, ok := impl.UnfoldLocal(l)
			if !ok {
				break
			}
			if u.Kind != here.node.Kind || u.Peer != here.node.Peer || len(u.Branches) != len(here.node.Branches) {
				t.Fatalf("%q begins with %q and not with %q", textOfLocal(l), textOfLocal(u), textOfLocal(here.node))
			}
			if len(u.Branches) == 0 {
				break
			}
			chosen := here.node.Branches[r.Intn(len(here.node.Branches))]
			if l, ok = impl.StepLocal(l, chosen.Label); !ok || !validLocal(l) {
				t.Fatalf("StepLocal(%q) = %s, %v", chosen.Label, show(l), ok)
			}
			here = spot{chosen.Next, here.around}
			steps++
		}
	}
	if steps < 5000 {
		t.Errorf("only %d steps", steps)
	}
}

func TestStepLocal(t *testing.T) {
	for _, c := range []struct {
		text, label, next string
		ok                bool
	}{
		{"B!{a.|bC?{c.}}", "a", ".", true},
		{"B!{a.|bC?{c.}}", "b", "C?{c.}", true},
		{"B?{a.|b.|c.|dC?{c.}}", "d", "C?{c.}", true},
		{"B!{a.|bC?{c.}}", "c", "", false},
		{"B!{a.|bC?{c.}}", "", "", false},
		{"B!{a.|bC?{c.}}", "ab", "", false},
		{"B!{a@C?{c#0}}", "a", "@C?{c#0}", true},
		{"B?{a.}", "A", "", false},
		{".", "a", "", false},
		{".", "", "", false},
		{"@.", "a", "", false},
		{"@.", "", "", false},
		{"@B!{a#0|b.}", "a", "@B!{a#0|b.}", true},
		{"@B!{a#0|b.}", "b", ".", true},
		{"@B!{a#0|b.}", "d", "", false},
		{"@@B?{a#0|b#1}", "a", "@B?{a#0|b@@B?{a#0|b#1}}", true},
		{"@@B?{a#0|b#1}", "b", "@@B?{a#0|b#1}", true},
		{"@B!{aC?{c#0}|b.}", "a", "C?{c@B!{aC?{c#0}|b.}}", true},
	} {
		next, ok := impl.StepLocal(local(t, c.text), c.label)
		if ok != c.ok || impl.FormatLocal(next) != c.next || !ok && !isZeroLocal(next) {
			t.Errorf("StepLocal(%q, %q) = %s, %v, want %q", c.text, c.label, show(next), ok, c.next)
		}
	}
}

func TestUnfoldLocalDepth(t *testing.T) {
	// The variable has the depth at and another leaf the depth total, so the unfolding has at - 2 + total.
	build := func(at, total int) impl.Local {
		return loop(receive("C", option("a", sends(at-3, again(0))), option("b", sends(total-3, done()))))
	}
	for _, c := range []struct {
		at, total int
		ok        bool
	}{{21, 21, true}, {20, 22, true}, {21, 22, false}, {22, 22, false}, {3, 39, true}, {3, 40, false}, {5, 37, true}, {5, 38, false}} {
		l := build(c.at, c.total)
		checkUnfoldLocal(t, l)
		if u, ok := impl.UnfoldLocal(l); ok != c.ok || ok && depthLocal(u) != c.at-2+c.total {
			t.Errorf("UnfoldLocal with a variable at %d of %d levels: %v", c.at, c.total, ok)
		}
		// The Next of a step is less deep, but StepLocal fails if UnfoldLocal does.
		for _, label := range []string{"a", "b"} {
			if next, ok := impl.StepLocal(l, label); ok != c.ok || !ok && !isZeroLocal(next) {
				t.Errorf("StepLocal with a variable at %d of %d levels: %v", c.at, c.total, ok)
			}
		}
		checkLocal(t, l, true)
	}
	for n := 36; n <= 40; n++ {
		checkUnfoldLocal(t, loops(n-1, done()))
		checkUnfoldLocal(t, sends(n-1, done()))
		checkUnfoldLocal(t, loops(n-2, send("B", option("a", again(0)))))
		checkUnfoldLocal(t, loops(n-2, send("B", option("a", again(n-3)))))
	}
}

// localLoopOf returns n recursions around a send with variables variables of
// the outermost recursion, with nodes nodes.
func localLoopOf(n, variables, nodes int) impl.Local {
	l := send("B")
	for range variables {
		l.Branches = append(l.Branches, option("abc"[len(l.Branches):][:1], again(n-1)))
	}
	l.Branches = append(l.Branches, option("d", sizedLocal(nodes-n-1-variables)))
	return loops(n, l)
}

func TestUnfoldLocalNodes(t *testing.T) {
	for _, c := range []struct {
		recs, variables, nodes, result int
	}{
		{1, 1, 200, 398}, {1, 1, 201, 400}, {1, 1, 202, 402},
		{1, 2, 134, 399}, {1, 2, 135, 402},
		{1, 3, 101, 400}, {1, 3, 102, 404},
		{1, 0, 400, 399}, {2, 0, 400, 398},
		{2, 1, 201, 399}, {2, 1, 202, 401}, {2, 1, 203, 403},
		// Only the result is limited: the first unfoldings have 402 and 401 nodes.
		{3, 1, 202, 400}, {3, 1, 203, 402}, {4, 1, 202, 399},
	} {
		l := localLoopOf(c.recs, c.variables, c.nodes)
		if sizeLocal(l) != c.nodes || sizeLocal(unfoldedLocal(l)) != c.result {
			t.Fatalf("the type has %d nodes and its unfolding %d", sizeLocal(l), sizeLocal(unfoldedLocal(l)))
		}
		checkUnfoldLocal(t, l)
		ok := c.result <= impl.MaxGlobalNodes
		if u, got := impl.UnfoldLocal(l); got != ok || impl.LocalValid(u) != ok {
			t.Errorf("UnfoldLocal to %d nodes: %v", c.result, got)
		}
		if next, got := impl.StepLocal(l, "d"); got != ok || !ok && !isZeroLocal(next) {
			t.Errorf("StepLocal of an unfolding of %d nodes: %v", c.result, got)
		}
	}
	// The first unfolding is 41 levels deep, and the second one, the result, 40.
	l := loops(2, send("B", option("a", sends(17, again(1))), option("b", sends(18, done()))))
	checkUnfoldLocal(t, l)
	if u, ok := impl.UnfoldLocal(l); !ok || depthLocal(u) != 40 {
		t.Errorf("UnfoldLocal to %d levels: %v", depthLocal(u), ok)
	}
}

// growing returns a valid type with the given number of recursions around
// three variables of each: its unfolding grows exponentially with that number.
func growing(count int) impl.Local {
	leaves := []impl.Local{}
	for i := range count {
		leaves = append(leaves, again(i), again(i), again(i))
	}
	for len(leaves) > 1 {
		joined := send("B", option("a", leaves[0]), option("b", leaves[1]))
		leaves = append(leaves[2:], joined)
	}
	return loops(count, leaves[0])
}

// TestUnfoldLocalGrowth unfolds and compares types whose unfolding would not fit in any memory.
func TestUnfoldLocalGrowth(t *testing.T) {
	for count := 1; count <= 30; count++ {
		l := growing(count)
		if !validLocal(l) {
			t.Fatalf("invalid: %q", textOfLocal(l))
		}
		returns(t, "a function", func() {
			u, ok := impl.UnfoldLocal(l)
			if ok != (count <= 2) || !ok && !isZeroLocal(u) {
				t.Errorf("UnfoldLocal of %d recursions: %v with %d nodes", count, ok, sizeLocal(u))
			}
			if next, ok := impl.StepLocal(l, "a"); ok != (count <= 2) || !ok && !isZeroLocal(next) {
				t.Errorf("StepLocal of %d recursions: %v", count, ok)
			}
			checkLocal(t, l, true)
			if !impl.LocalEquivalent(l, loop(l)) || !impl.IsSubtype(loop(l), l) {
				t.Errorf("a type of %d recursions is not equivalent to itself in another recursion", count)
			}
		})
	}
}
