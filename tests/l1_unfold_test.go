package tests

import (
	"math/rand"
	"testing"

	"loop.example/sessiontypes/impl"
)

// checkUnfold compares UnfoldGlobal and StepGlobal of a valid type with the definition.
func checkUnfold(t *testing.T, g impl.Global) {
	t.Helper()
	want := unfolded(g)
	ok := validGlobal(want)
	if !ok {
		want = impl.Global{}
	}
	got, gotOk := impl.UnfoldGlobal(g)
	if gotOk != ok || !sameGlobal(got, want) {
		t.Fatalf("UnfoldGlobal(%s) = %s, %v, want %s, %v", show(g), show(got), gotOk, show(want), ok)
	}
	for _, label := range []string{"", "a", "b", "c", "d", "e", "A", "aa", "ab"} {
		next, found := impl.Global{}, false
		for _, b := range want.Branches {
			if b.Label == label {
				next, found = b.Next, true
			}
		}
		if got, gotOk := impl.StepGlobal(g, label); gotOk != found || !sameGlobal(got, next) {
			t.Fatalf("StepGlobal(%s, %q) = %s, %v, want %s, %v", show(g), label, show(got), gotOk, show(next), found)
		}
	}
}

func TestUnfoldGlobal(t *testing.T) {
	for _, c := range [][2]string{
		{".", "."},
		{"@.", "."},
		{"@@@.", "."},
		{"AB{a.}", "AB{a.}"},
		{"AB{a@AB{a#0}}", "AB{a@AB{a#0}}"},
		{"@AB{a.}", "AB{a.}"},
		{"@AB{a#0}", "AB{a@AB{a#0}}"},
		{"@AB{a#0|b#0}", "AB{a@AB{a#0|b#0}|b@AB{a#0|b#0}}"},
		{"@AB{aBC{c#0}|b.}", "AB{aBC{c@AB{aBC{c#0}|b.}}|b.}"},
		// The inner recursion has unfolded the outer one already.
		{"@@AB{a#0}", "AB{a@AB{a#0}}"},
		{"@@AB{a#1}", "AB{a@@AB{a#1}}"},
		{"@@AB{a#0|b#1}", "AB{a@AB{a#0|b@@AB{a#0|b#1}}|b@@AB{a#0|b#1}}"},
		{"@@@AB{a#2|b#1|c#0}", "AB{a@@@AB{a#2|b#1|c#0}|b@@AB{a@@@AB{a#2|b#1|c#0}|b#1|c#0}|c@AB{a@@@AB{a#2|b#1|c#0}|b@@AB{a@@@AB{a#2|b#1|c#0}|b#1|c#0}|c#0}}"},
		// Below another recursion, the same variable has a greater index.
		{"@AB{a@#1}", "AB{a@@AB{a@#1}}"},
		{"@AB{a@BC{c#0|d#1}}", "AB{a@BC{c#0|d@AB{a@BC{c#0|d#1}}}}"},
		{"@AB{a@BC{a@CA{a#0|b#1|c#2}}}", "AB{a@BC{a@CA{a#0|b#1|c@AB{a@BC{a@CA{a#0|b#1|c#2}}}}}}"},
		{"@AB{a#0|b@AB{a#0|b#1}}", "AB{a@AB{a#0|b@AB{a#0|b#1}}|b@AB{a#0|b@AB{a#0|b@AB{a#0|b#1}}}}"},
	} {
		g := parsed(t, c[0])
		checkUnfold(t, g)
		if u, ok := impl.UnfoldGlobal(g); !ok || impl.FormatGlobal(u) != c[1] {
			t.Errorf("UnfoldGlobal(%q) = %q, %v, want %q", c[0], impl.FormatGlobal(u), ok, c[1])
		}
	}
}

// TestMeaning checks promise 1: the type, its unfolding, and the unfolding of that describe the same messages.
func TestMeaning(t *testing.T) {
	list := randomGlobals(3000)
	for _, s := range []string{"@AB{aBC{c#0}|b.}", "@@AB{a#0|b#1}", "@AB{a#0|b@AB{a#0|b#1}}", "@@@AB{a#2|b#1|c#0}", "@AB{a@BC{a@CA{a#0|b#1|c#2}}}"} {
		list = append(list, parsed(t, s))
	}
	unfoldings := 0
	for _, g := range list {
		checkUnfold(t, g)
		u, ok := impl.UnfoldGlobal(g)
		if !ok {
			continue
		}
		unfoldings++
		if u.Kind == impl.GlobalRec || u.Kind == impl.GlobalVar {
			t.Errorf("the unfolding of %q is %q", textOf(g), textOf(u))
		}
		checkGlobal(t, u, true)
		if want, got := (place{node: g}).meaning(5), (place{node: u}).meaning(5); want != got {
			t.Errorf("%q describes %s and its unfolding %s", textOf(g), want, got)
		}
		if again, ok := impl.UnfoldGlobal(u); !ok || !impl.GlobalEqual(u, again) {
			t.Errorf("unfolding %q again changes it", textOf(u))
		}
		if len(impl.GlobalRoles(u)) > len(impl.GlobalRoles(g)) {
			t.Errorf("the unfolding of %q has more roles", textOf(g))
		}
	}
	if unfoldings < 1000 {
		t.Errorf("only %d types have an unfolding", unfoldings)
	}
}

// TestStepsFollowMeaning follows long paths of labels with StepGlobal.
func TestStepsFollowMeaning(t *testing.T) {
	r := rand.New(rand.NewSource(3))
	steps := 0
	for _, g := range randomGlobals(2000) {
		here := place{node: g}
		for range 30 {
			here = here.head()
			u, ok := impl.UnfoldGlobal(g)
			if !ok {
				break
			}
			if u.Kind != here.node.Kind || u.From != here.node.From || u.To != here.node.To || len(u.Branches) != len(here.node.Branches) {
				t.Fatalf("%q begins with %q and not with %q", textOf(g), textOf(u), textOf(here.node))
			}
			if len(u.Branches) == 0 {
				break
			}
			chosen := here.node.Branches[r.Intn(len(here.node.Branches))]
			if g, ok = impl.StepGlobal(g, chosen.Label); !ok || !validGlobal(g) {
				t.Fatalf("StepGlobal(%q) = %s, %v", chosen.Label, show(g), ok)
			}
			here = place{chosen.Next, here.around}
			steps++
		}
	}
	if steps < 5000 {
		t.Errorf("only %d steps", steps)
	}
}

func TestStepGlobal(t *testing.T) {
	for _, c := range []struct {
		text, label, next string
		ok                bool
	}{
		{"AB{a.|bBC{c.}}", "a", ".", true},
		{"AB{a.|bBC{c.}}", "b", "BC{c.}", true},
		{"AB{a.|bBC{c.}}", "c", "", false},
		{"AB{a.|bBC{c.}}", "", "", false},
		{"AB{a.|bBC{c.}}", "ab", "", false},
		{"AB{a@BC{c#0}}", "a", "@BC{c#0}", true},
		{"AB{a.}", "A", "", false},
		{".", "a", "", false},
		{".", "", "", false},
		{"@.", "a", "", false},
		{"@.", "", "", false},
		{"@AB{a#0|b.}", "a", "@AB{a#0|b.}", true},
		{"@AB{a#0|b.}", "b", ".", true},
		{"@AB{a#0|b.}", "d", "", false},
		{"@@AB{a#0|b#1}", "a", "@AB{a#0|b@@AB{a#0|b#1}}", true},
		{"@@AB{a#0|b#1}", "b", "@@AB{a#0|b#1}", true},
		{"@AB{aBC{c#0}|b.}", "a", "BC{c@AB{aBC{c#0}|b.}}", true},
	} {
		next, ok := impl.StepGlobal(parsed(t, c.text), c.label)
		if ok != c.ok || impl.FormatGlobal(next) != c.next || !ok && !isZero(next) {
			t.Errorf("StepGlobal(%q, %q) = %s, %v, want %q", c.text, c.label, show(next), ok, c.next)
		}
	}
}

func TestUnfoldDepth(t *testing.T) {
	// The variable has the depth at and another leaf the depth total, so the unfolding has at - 2 + total.
	build := func(at, total int) impl.Global {
		return rec(message("AB", branch("a", messages(at-3, variable(0))), branch("b", messages(total-3, end()))))
	}
	for _, c := range []struct {
		at, total int
		ok        bool
	}{{21, 21, true}, {20, 22, true}, {21, 22, false}, {22, 22, false}, {3, 39, true}, {3, 40, false}, {5, 37, true}, {5, 38, false}} {
		g := build(c.at, c.total)
		checkUnfold(t, g)
		if u, ok := impl.UnfoldGlobal(g); ok != c.ok || ok && depth(u) != c.at-2+c.total {
			t.Errorf("UnfoldGlobal with a variable at %d of %d levels: %v", c.at, c.total, ok)
		}
		// The Next of a step is less deep, but StepGlobal fails if UnfoldGlobal does.
		if next, ok := impl.StepGlobal(g, "a"); ok != c.ok || !ok && !isZero(next) {
			t.Errorf("StepGlobal with a variable at %d of %d levels: %v", c.at, c.total, ok)
		}
		if next, ok := impl.StepGlobal(g, "b"); ok != c.ok || !ok && !isZero(next) {
			t.Errorf("StepGlobal with a variable at %d of %d levels: %v", c.at, c.total, ok)
		}
	}
	for n := 36; n <= 40; n++ {
		checkUnfold(t, recs(n-1, end()))
		checkUnfold(t, messages(n-1, end()))
		checkUnfold(t, recs(n-2, message("AB", branch("a", variable(0)))))
		checkUnfold(t, recs(n-2, message("AB", branch("a", variable(n-3)))))
	}
}

// loopOf returns n recursions around a message with variables variables of
// the outermost recursion, with nodes nodes.
func loopOf(n, variables, nodes int) impl.Global {
	g := message("AB")
	for range variables {
		g.Branches = append(g.Branches, branch("abc"[len(g.Branches):][:1], variable(n-1)))
	}
	g.Branches = append(g.Branches, branch("d", sized(nodes-n-1-variables)))
	return recs(n, g)
}

func TestUnfoldNodes(t *testing.T) {
	for _, c := range []struct {
		recs, variables, nodes, result int
	}{
		{1, 1, 200, 398}, {1, 1, 201, 400}, {1, 1, 202, 402},
		{1, 2, 134, 399}, {1, 2, 135, 402},
		{1, 0, 400, 399}, {2, 0, 400, 398},
		{2, 1, 201, 399}, {2, 1, 202, 401}, {2, 1, 203, 403},
		// Only the result is limited: the first unfoldings have 402 and 401 nodes.
		{3, 1, 202, 400}, {3, 1, 203, 402}, {4, 1, 202, 399},
	} {
		g := loopOf(c.recs, c.variables, c.nodes)
		if size(g) != c.nodes || size(unfolded(g)) != c.result {
			t.Fatalf("the type has %d nodes and its unfolding %d", size(g), size(unfolded(g)))
		}
		checkUnfold(t, g)
		ok := c.result <= impl.MaxGlobalNodes
		if u, got := impl.UnfoldGlobal(g); got != ok || impl.GlobalValid(u) != ok {
			t.Errorf("UnfoldGlobal to %d nodes: %v", c.result, got)
		}
		if next, got := impl.StepGlobal(g, "d"); got != ok || !ok && !isZero(next) {
			t.Errorf("StepGlobal of an unfolding of %d nodes: %v", c.result, got)
		}
	}
	// The first unfolding is 41 levels deep, and the second one, the result, 40.
	g := recs(2, message("AB", branch("a", messages(17, variable(1))), branch("b", messages(18, end()))))
	checkUnfold(t, g)
	if u, ok := impl.UnfoldGlobal(g); !ok || depth(u) != 40 {
		t.Errorf("UnfoldGlobal to %d levels: %v", depth(u), ok)
	}
}

// TestUnfoldGrowth unfolds types whose unfolding would not fit in any memory.
func TestUnfoldGrowth(t *testing.T) {
	for count := 1; count <= 30; count++ {
		leaves := []impl.Global{}
		for i := range count {
			leaves = append(leaves, variable(i), variable(i), variable(i))
		}
		for len(leaves) > 1 {
			joined := message("AB", branch("a", leaves[0]), branch("b", leaves[1]))
			leaves = append(leaves[2:], joined)
		}
		g := recs(count, leaves[0])
		if !validGlobal(g) {
			t.Fatalf("invalid: %q", textOf(g))
		}
		returns(t, "UnfoldGlobal", func() {
			u, ok := impl.UnfoldGlobal(g)
			if ok != (count <= 2) || !ok && !isZero(u) {
				t.Errorf("UnfoldGlobal of %d recursions: %v with %d nodes", count, ok, size(u))
			}
			if next, ok := impl.StepGlobal(g, "a"); ok != (count <= 2) || !ok && !isZero(next) {
				t.Errorf("StepGlobal of %d recursions: %v", count, ok)
			}
		})
	}
}
