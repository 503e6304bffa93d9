package tests

import (
	"strings"
	"testing"

	"loop.example/sessiontypes/impl"
)

// none stands for a projection that does not exist.
const none = "none"

// checkProject compares the four functions that project g with the wanted
// texts of its projections onto A, B and C.
func checkProject(t *testing.T, g impl.Global, want [3]string) {
	t.Helper()
	without := ""
	for i, role := range roles {
		l, ok := impl.Project(g, role)
		switch {
		case want[i] == none:
			without += role
			if ok || !isZeroLocal(l) {
				t.Errorf("Project(%q, %q) = %s, %v, want none", textOf(g), role, show(l), ok)
			}
		case !ok || textOfLocal(l) != want[i] || !validLocal(l):
			t.Errorf("Project(%q, %q) = %s, %v, want %q", textOf(g), role, show(l), ok, want[i])
		}
	}
	if got := impl.UnprojectableRoles(g); got != without {
		t.Errorf("UnprojectableRoles(%q) = %q, want %q", textOf(g), got, without)
	}
	all, ok := impl.ProjectAll(g)
	if ok != (without == "") || !ok && len(all) != 0 || ok && len(all) != 3 {
		t.Errorf("ProjectAll(%q) = %s, %v", textOf(g), show(all), ok)
		return
	}
	for i, l := range all {
		if textOfLocal(l) != want[i] {
			t.Errorf("ProjectAll(%q)[%d] = %s, want %q", textOf(g), i, show(l), want[i])
		}
	}
}

// wantedProjections applies the rules of the document to g.
func wantedProjections(g impl.Global) (want [3]string) {
	for i, role := range roles {
		want[i] = none
		if l, ok := projectByRules(g, role); ok {
			want[i] = textOfLocal(l)
		}
	}
	return want
}

func TestProjections(t *testing.T) {
	for _, c := range []struct{ g, a, b, c string }{
		// The examples of the document.
		{"AB{aBC{cCA{d.}}|bBC{d.}}", "B!{aC?{d.}|b.}", "A?{aC!{c.}|bC!{d.}}", "B?{cA!{d.}|d.}"},
		{"AB{a.|bCA{a.}}", "B!{a.|bC?{a.}}", "A?{a.|b.}", none},
		// Rule 1: the role does not occur, and no variable refers outside.
		{".", ".", ".", "."},
		{"@.", ".", ".", "."},
		{"@@@.", ".", ".", "."},
		{"AB{a.}", "B!{a.}", "A?{a.}", "."},
		{"@AB{a#0}", "@B!{a#0}", "@A?{a#0}", "."},
		{"@BC{a#0|b.}", ".", "@C!{a#0|b.}", "@B?{a#0|b.}"},
		{"@CA{a.|b@CA{a#0|b#1|c.}}", "@C?{a.|b@C?{a#0|b#1|c.}}", ".", "@A!{a.|b@A!{a#0|b#1|c.}}"},
		{"AC{a@AB{a#0|b.}}", "C!{a@B!{a#0|b.}}", "@A?{a#0|b.}", "A?{a.}"},
		{"AC{a@AB{a@BA{a#0|b#1|c.}|b.}}", "C!{a@B!{a@B?{a#0|b#1|c.}|b.}}", "@A?{a@A!{a#0|b#1|c.}|b.}", "A?{a.}"},
		{"AB{a@BA{a.|b#0}|bAC{c.}}", "B!{a@B?{a.|b#0}|bC!{c.}}", "A?{a@A!{a.|b#0}|b.}", none},
		{"AB{a@AB{a.|b#0}|b@BA{a.|b#0}}", "B!{a@B!{a.|b#0}|b@B?{a.|b#0}}", "A?{a@A?{a.|b#0}|b@A!{a.|b#0}}", "."},
		// The same rule does not apply where a variable refers outside, or where the role occurs.
		{"@AC{a@AB{a#0|b#1}}", "@C!{a@B!{a#0|b#1}}", "@@A?{a#0|b#1}", none},
		{"@AC{aAB{a#0|b.}}", "@C!{aB!{a#0|b.}}", "@A?{a#0|b.}", none},
		{"@AC{aAB{a#0|b#0}}", "@C!{aB!{a#0|b#0}}", "@A?{a#0|b#0}", "@A?{a#0}"},
		{"@AB{a#0|bAC{c.}}", "@B!{a#0|bC!{c.}}", "@A?{a#0|b.}", none},
		{"@AB{a@BA{a#0|b.}|bAC{c#0}}", "@B!{a@B?{a#0|b.}|bC!{c#0}}", "@A?{a@A!{a#0|b.}|b#0}", none},
		// Rule 2.
		{"@AB{aBC{a.|b#0}}", none, "@A?{aC!{a.|b#0}}", "@B?{a.|b#0}"},
		// Rule 3: a body that is projected to an end, to a variable with index 0, and to one with a greater index.
		{"AB{a@AC{a.}}", "B!{a@C!{a.}}", "A?{a.}", "@A?{a.}"},
		{"AB{a@AC{a#0}}", "B!{a@C!{a#0}}", "A?{a.}", "@A?{a#0}"},
		{"@AB{a@#1}", "@B!{a#0}", "@A?{a#0}", "."},
		{"@AB{a@@#2}", "@B!{a#0}", "@A?{a#0}", "."},
		{"@@AB{a@@#3}", "@@B!{a#1}", "@@A?{a#1}", "."},
		{"@AB{a@AC{a#1}}", "@B!{a@C!{a#1}}", "@A?{a#0}", "@@A?{a#1}"},
		{"@AB{a@@AC{a#2}}", "@B!{a@@C!{a#2}}", "@A?{a#0}", "@@@A?{a#2}"},
		{"@AB{a@AC{a@CA{a#2}}}", "@B!{a@C!{a@C?{a#2}}}", "@A?{a#0}", "@@A?{a@A!{a#2}}"},
		{"@@AB{a@AC{a#2}|b@AC{b#2}}", "@@B!{a@C!{a#2}|b@C!{b#2}}", "@@A?{a#1|b#1}", "@@@A?{a#2|b#2}"},
		{"@AB{a@@AC{a#1}}", "@B!{a@@C!{a#1}}", "@A?{a.}", "@@@A?{a#1}"},
		{"@AB{a@AC{a#1|b#1}|b#0}", "@B!{a@C!{a#1|b#1}|b#0}", "@A?{a#0|b#0}", none},
		{"@AB{a@AB{a@CA{a#2}|b@CA{b#2}}}", "@B!{a@B!{a@C?{a#2}|b@C?{b#2}}}", "@A?{a@A?{a#1|b#1}}", none},
		// Rule 4: the labels and their order, and both of the peers.
		{"AB{aBC{a.}|c.|dCB{d.}}", "B!{a.|c.|d.}", "A?{aC!{a.}|c.|dC?{d.}}", none},
		{"AC{aCA{d.}|c.|dAC{d.}}", "C!{aC?{d.}|c.|dC!{d.}}", ".", "A?{aA!{d.}|c.|dA?{d.}}"},
		{"CB{b.}", ".", "C?{b.}", "B!{b.}"},
		{"BC{aAB{b.}}", "B!{b.}", "C!{aA?{b.}}", "B?{a.}"},
		// Rule 5: merging.
		{"AB{aAC{a.}|bAC{b.}}", "B!{aC!{a.}|bC!{b.}}", "A?{a.|b.}", "A?{a.|b.}"},
		{"AB{aAC{a.}|bAC{a.}}", "B!{aC!{a.}|bC!{a.}}", "A?{a.|b.}", "A?{a.}"},
		{"AB{aCA{a.}|bCA{a.}}", "B!{aC?{a.}|bC?{a.}}", "A?{a.|b.}", "A!{a.}"},
		{"AB{aCA{a.}|bCA{b.}}", "B!{aC?{a.}|bC?{b.}}", "A?{a.|b.}", none},
		{"AB{aCA{a.}|bCB{a.}}", "B!{aC?{a.}|b.}", "A?{a.|bC?{a.}}", none},
		{"AB{aAC{a.}|bCA{a.}}", "B!{aC!{a.}|bC?{a.}}", "A?{a.|b.}", none},
		{"AB{aAC{a.}|bBC{a.}}", "B!{aC!{a.}|b.}", "A?{a.|bC!{a.}}", none},
		{"AB{aAC{a.|b.}|bAC{b.|c.}|dAC{d.}}", "B!{aC!{a.|b.}|bC!{b.|c.}|dC!{d.}}", "A?{a.|b.|d.}", "A?{a.|b.|c.|d.}"},
		{"AB{aAC{b.}|bAC{aAC{c.}|bAC{d.}}|cAC{b.}}", "B!{aC!{b.}|bC!{aC!{c.}|bC!{d.}}|cC!{b.}}", "A?{a.|b.|c.}", none},
		{"AB{aAC{bBC{b.}}|bAC{bBC{c.}}|cAC{aCB{c.}|bBC{b.}}}", "B!{aC!{b.}|bC!{b.}|cC!{a.|b.}}", none, "A?{aB!{c.}|bB?{b.|c.}}"},
		{"AB{aAC{a.}|bAC{a.}|cCA{a.}}", "B!{aC!{a.}|bC!{a.}|cC?{a.}}", "A?{a.|b.|c.}", none},
		{"AB{aAC{a.}|b.|cAC{a.}}", "B!{aC!{a.}|b.|cC!{a.}}", "A?{a.|b.|c.}", none},
		{"AB{aBC{aCA{d.}}|bBC{aCA{d.}|bCA{d.}}}", "B!{aC?{d.}|bC?{d.}}", "A?{aC!{a.}|bC!{a.|b.}}", "B?{aA!{d.}|bA!{d.}}"},
		{"AB{a@AC{a#0}|b@AC{b#0}}", "B!{a@C!{a#0}|b@C!{b#0}}", "A?{a.|b.}", "@A?{a#0|b#0}"},
		{"@AB{a@AC{a#0}|b@AC{b#1}}", "@B!{a@C!{a#0}|b@C!{b#1}}", "@A?{a.|b#0}", "@@A?{a#0|b#1}"},
		{"@AB{a@AC{a#1}|b@AC{b#1|c@AC{c#2}}}", "@B!{a@C!{a#1}|b@C!{b#1|c@C!{c#2}}}", "@A?{a#0|b#0}", "@@A?{a#1|b#1|c@A?{c#2}}"},
		{"AB{aAC{a.}|b@AC{a.}}", "B!{aC!{a.}|b@C!{a.}}", "A?{a.|b.}", none},
		{"@AB{aAC{a#0}|bAC{b#0}|c@AC{c#1}}", "@B!{aC!{a#0}|bC!{b#0}|c@C!{c#1}}", "@A?{a#0|b#0|c#0}", none},
		{"AB{aAC{c.}|b@AC{c.}|d@AC{c.}}", "B!{aC!{c.}|b@C!{c.}|d@C!{c.}}", "A?{a.|b.|d.}", none},
		{"@BC{aCA{a#0}|bCA{b#0}}", "@C?{a#0|b#0}", "@C!{a#0|b#0}", "@B?{aA!{a#0}|bA!{b#0}}"},
		// No projection onto two or three roles.
		{"AB{aAC{aCB{a.}|b.}|bAC{a.|b.}}", "B!{aC!{a.|b.}|bC!{a.|b.}}", none, none},
		{"BA{aBC{aCA{a.}|b.}|bBC{a.|b.}}", none, "A!{aC!{a.|b.}|bC!{a.|b.}}", none},
		{"CA{aCB{aBA{a.}|b.}|bCB{a.|b.}}", none, none, "A!{aB!{a.|b.}|bB!{a.|b.}}"},
		{"AB{aBC{aCA{a.}|b.}|bAC{aCB{a.}|b.}}", none, none, none},
	} {
		g := parsed(t, c.g)
		want := [3]string{c.a, c.b, c.c}
		if rules := wantedProjections(g); rules != want {
			t.Errorf("by the rules, %q has the projections %q, not %q", c.g, rules, want)
		}
		checkProject(t, g, want)
	}
}

// TestEveryProjection compares the projections of all small types, and of larger ones, with the rules.
func TestEveryProjection(t *testing.T) {
	list := allGlobals(5, 0, 0, "AB", "AC", "BA", "BC", "CA", "CB")
	list = append(list, allGlobals(7, 0, 0, "AB", "BC")...)
	list = append(list, allGlobals(7, 0, 0, "CA", "AC")...)
	list = append(list, randomGlobals(3000)...)
	list = append(list, randomProtocols(3000)...)
	for _, g := range list {
		checkProject(t, g, wantedProjections(g))
	}
}

// checkMerge compares MergeLocals, in both directions, with the wanted text.
func checkMerge(t *testing.T, a, b impl.Local, want string) {
	t.Helper()
	for range 2 {
		l, ok := impl.MergeLocals(a, b)
		switch {
		case want == none && (ok || !isZeroLocal(l)):
			t.Errorf("MergeLocals(%q, %q) = %s, %v, want none", textOfLocal(a), textOfLocal(b), show(l), ok)
		case want != none && (!ok || textOfLocal(l) != want || !validLocal(l)):
			t.Errorf("MergeLocals(%q, %q) = %s, %v, want %q", textOfLocal(a), textOfLocal(b), show(l), ok, want)
		}
		a, b = b, a
	}
}

func TestMerges(t *testing.T) {
	for _, c := range []struct{ a, b, want string }{
		// Equal nodes.
		{".", ".", "."},
		{"B!{a.}", "B!{a.}", "B!{a.}"},
		{"@B!{a#0|bC?{d.}}", "@B!{a#0|bC?{d.}}", "@B!{a#0|bC?{d.}}"},
		{"@@A?{a#0|b#1|c@#1|d.}", "@@A?{a#0|b#1|c@#1|d.}", "@@A?{a#0|b#1|c@#1|d.}"},
		// Receives that share both, one or none of the labels.
		{"B?{aC!{a.}|b.}", "B?{aC!{a.}|b.}", "B?{aC!{a.}|b.}"},
		{"B?{a.|b.}", "B?{b.|c.}", "B?{a.|b.|c.}"},
		{"B?{a.}", "B?{b.}", "B?{a.|b.}"},
		{"B?{aC!{a.}}", "B?{bC?{b.}}", "B?{aC!{a.}|bC?{b.}}"},
		{"B?{aC!{a.}|d.}", "B?{bC?{b.}|c@.}", "B?{aC!{a.}|bC?{b.}|c@.|d.}"},
		{"B?{c.}", "B?{a.|b.|d.}", "B?{a.|b.|c.|d.}"},
		{"B?{a.|b.|c.|d.}", "B?{a.|b.|c.|d.}", "B?{a.|b.|c.|d.}"},
		{"B?{a.|b.}", "B?{a.}", "B?{a.|b.}"},
		{"B?{aC?{a.}}", "B?{aC?{b.}|b.}", "B?{aC?{a.|b.}|b.}"},
		{"B?{aC?{a.}|cC!{a.}}", "B?{aC?{b.}|b.|cC!{a.}}", "B?{aC?{a.|b.}|b.|cC!{a.}}"},
		{"B?{aC!{a.}}", "B?{aC!{b.}}", none},
		{"B?{a.}", "B?{aC!{a.}|b.}", none},
		{"B?{a.|bC!{a.}}", "B?{a.|bC?{a.}}", none},
		{"B?{a.}", "C?{a.}", none},
		{"B?{a.}", "C?{b.}", none},
		{"B?{aC?{a.}}", "B?{aA?{b.}}", none},
		// Sends and recursions.
		{"B!{a.}", "B!{b.}", none},
		{"B!{a.}", "B!{a.|b.}", none},
		{"B!{a.|b.}", "B!{a.|c.}", none},
		{"B!{a.}", "C!{a.}", none},
		{"B!{aC?{a.}}", "B!{aC?{b.}}", "B!{aC?{a.|b.}}"},
		{"B!{a.|bC?{a.}|d.}", "B!{a.|bC?{b.}|d.}", "B!{a.|bC?{a.|b.}|d.}"},
		{"B!{aC!{a.}}", "B!{aC!{b.}}", none},
		{"@B?{a#0}", "@B?{b#0}", "@B?{a#0|b#0}"},
		{"@B?{a#0}", "@B?{b.}", "@B?{a#0|b.}"},
		{"@B?{a#0}", "@B?{a.}", none},
		{"@@B?{a#0}", "@@B?{a#1}", none},
		{"@@B?{a#0}", "@@B?{b#1}", "@@B?{a#0|b#1}"},
		{"@B!{a@C?{a#0}}", "@B!{a@C?{b#1}}", "@B!{a@C?{a#0|b#1}}"},
		{"@.", "@.", "@."},
		// Nodes that differ otherwise, even if they are equivalent.
		{".", "@.", none},
		{"@.", "@@.", none},
		{".", "B?{a.}", none},
		{"B!{a.}", ".", none},
		{"B!{a.}", "B?{a.}", none},
		{"@B?{a#0}", "B?{a@B?{a#0}}", none},
		{"@B!{a#0}", "@B!{aB!{a#0}}", none},
		{"@B?{a.}", "B?{b.}", none},
		{"@B?{a.}", "@@B?{a.}", none},
		{"@B?{a#0}", "@B?{a@#1}", none},
		{"B?{aC!{a.}|b.}", "B?{aC!{a@.}|b.}", none},
	} {
		checkMerge(t, local(t, c.a), local(t, c.b), c.want)
	}
}

// wantedMerge applies the definition of the document to a and b, which are valid.
func wantedMerge(a, b impl.Local) string {
	merged, ok := mergeByRules(a, b)
	if !ok || !validLocal(merged) {
		return none
	}
	return textOfLocal(merged)
}

func TestEveryMerge(t *testing.T) {
	few := allLocals(4, 0, 0)
	for i, a := range few {
		for _, b := range few[i:] {
			checkMerge(t, a, b, wantedMerge(a, b))
		}
	}
	list := append(allLocals(5, 0, 0), randomLocals(1000)...)
	for _, g := range randomProtocols(1000) {
		for _, role := range roles {
			l, _ := projectByRules(g, role)
			list = append(list, l)
		}
	}
	mergeable := 0
	for _, distance := range []int{0, 1, 2, 3, 5, 8, 13, 21, 34, 100} {
		for i, a := range list {
			b := list[(i+distance)%len(list)]
			want := wantedMerge(a, b)
			checkMerge(t, a, b, want)
			if distance > 0 && want != none && !sameLocal(a, b) {
				mergeable++
			}
		}
	}
	if mergeable < 300 {
		t.Errorf("only %d pairs of different types are mergeable", mergeable)
	}
}

// chosen returns a receive of one label from A, followed by l.
func chosen(label string, l impl.Local) impl.Local { return receive("A", option(label, l)) }

// TestMergeLimits merges types whose result has the greatest number of nodes, or one more.
func TestMergeLimits(t *testing.T) {
	for _, c := range []struct {
		a, b int
		want bool
	}{
		// The two types have the root in common: the result has a+b+1 nodes.
		{1, 1, true}, {199, 200, true}, {200, 200, false}, {398, 1, true}, {1, 398, true}, {398, 2, false}, {399, 399, false},
	} {
		a, b := chosen("a", sizedLocal(c.a)), chosen("b", sizedLocal(c.b))
		merged, ok := impl.MergeLocals(a, b)
		if ok != c.want || ok && sizeLocal(merged) != c.a+c.b+1 || !ok && !isZeroLocal(merged) {
			t.Errorf("the result with %d nodes is returned: %v", c.a+c.b+1, ok)
		}
	}
	for _, nodes := range []int{399, 400, 401} {
		l := sizedLocal(nodes)
		if merged, ok := impl.MergeLocals(l, l); ok != (nodes <= 400) || ok && !sameLocal(merged, l) || !ok && !isZeroLocal(merged) {
			t.Errorf("a type with %d nodes is merged with itself: %v", nodes, ok)
		}
	}
	for _, deep := range []int{39, 40, 41} {
		a, b := sends(deep-2, chosen("a", done())), sends(deep-2, chosen("b", done()))
		want := none
		if deep <= 40 {
			want = textOfLocal(sends(deep-2, receive("A", option("a", done()), option("b", done()))))
		}
		checkMerge(t, a, b, want)
	}
}

// TestProjectionLimits projects types with the greatest depth and numbers of nodes and branches, and beyond.
func TestProjectionLimits(t *testing.T) {
	for _, c := range []struct {
		g     impl.Global
		valid bool
	}{
		{sized(400), true},
		{sized(401), false},
		{messages(39, end()), true},
		{messages(40, end()), false},
		{recs(38, message("CA", branch("b", variable(37)))), true},
		{recs(39, message("CA", branch("b", variable(38)))), false},
		{messages(38, message("AB", branch("a", end()), branch("b", end()))), true},
		{messages(39, message("AB", branch("a", end()), branch("b", end()))), false},
		{messages(25, sized(375)), true},
		{messages(25, sized(376)), false},
		{message("AB", branch("a", end()), branch("b", end()), branch("c", end())), true},
		{message("AB", branch("a", end()), branch("b", end()), branch("c", end()), branch("d", end())), false},
	} {
		if c.valid {
			checkProject(t, c.g, wantedProjections(c.g))
			continue
		}
		checkInvalid(t, c.g)
	}
	// A merge has up to four labels: more than a message can have.
	told := func(labels string) impl.Global {
		g := message("AC")
		for _, label := range strings.Split(labels, "") {
			g.Branches = append(g.Branches, branch(label, end()))
		}
		return g
	}
	g := message("AB", branch("a", told("acd")), branch("b", told("abd")), branch("c", told("b")))
	if l, ok := impl.Project(g, "C"); !ok || textOfLocal(l) != "A?{a.|b.|c.|d.}" {
		t.Errorf("a projection with four labels is %s, %v", show(l), ok)
	}
	if l, ok := impl.Project(message("AB", branch("a", told("abcd"))), "C"); ok || !isZeroLocal(l) {
		t.Errorf("a message with four labels is projected to %s", show(l))
	}
}

// checkInvalid requires that no function accepts g.
func checkInvalid(t *testing.T, g impl.Global) {
	t.Helper()
	for _, role := range roles {
		if l, ok := impl.Project(g, role); ok || !isZeroLocal(l) {
			t.Errorf("Project accepts a type that is not valid and returns %s", show(l))
		}
	}
	if all, ok := impl.ProjectAll(g); ok || len(all) != 0 {
		t.Errorf("ProjectAll accepts a type that is not valid and returns %s", show(all))
	}
	if got := impl.UnprojectableRoles(g); got != "" {
		t.Errorf("UnprojectableRoles accepts a type that is not valid and returns %q", got)
	}
}

func TestInvalidTypesAreNotProjected(t *testing.T) {
	a := branch("a", end())
	for _, g := range []impl.Global{
		{}, {Kind: -1}, {Kind: 5}, {Kind: impl.GlobalMessage}, {Kind: impl.GlobalRec},
		{Kind: impl.GlobalEnd, From: "A"}, {Kind: impl.GlobalEnd, Index: 1}, {Kind: impl.GlobalEnd, Branches: []impl.GlobalBranch{a}},
		variable(0), variable(1), variable(-1), rec(variable(0)), rec(variable(1)), rec(rec(variable(0))), rec(rec(variable(1))),
		message("AB", branch("a", variable(0))), rec(message("AB", branch("a", variable(1)))), rec(message("AB", branch("a", variable(-1)))),
		rec(message("AB", branch("a", rec(variable(0))))),
		message("AA", a), message("AD", a), message("ab", a), {Kind: impl.GlobalMessage, From: "A", Branches: []impl.GlobalBranch{a}},
		message("AB", branch("e", end())), message("AB", branch("", end())), message("AB", branch("b", end()), a), message("AB", a, a),
		message("AB", branch("a", impl.Global{})), message("AB", a, branch("b", message("CA"))),
	} {
		if validGlobal(g) {
			t.Fatalf("%s is valid", show(g))
		}
		checkInvalid(t, g)
		checkInvalid(t, message("BC", a, branch("b", g)))
	}
}

func TestProjectionOntoNoRole(t *testing.T) {
	for _, text := range []string{".", "AB{a.}", "@AB{aBC{a#0}|bBC{b.}}"} {
		g := parsed(t, text)
		for _, role := range []string{"", "D", "a", "AB", "BA", "ABC", "A ", " A", "A\x00", "Ä", "\xc1", "."} {
			if l, ok := impl.Project(g, role); ok || !isZeroLocal(l) {
				t.Errorf("Project(%q, %q) = %s, %v", text, role, show(l), ok)
			}
		}
	}
}

func TestInvalidTypesAreNotMerged(t *testing.T) {
	a := option("a", done())
	invalid := []impl.Local{
		{}, {Kind: 6}, {Kind: -1}, {Kind: impl.LocalEnd, Peer: "A"}, {Kind: impl.LocalEnd, Index: 1},
		again(0), again(2), again(-1), loop(again(0)), loop(again(1)), loop(loop(again(1))),
		receive("B", option("a", again(0))), loop(receive("B", option("a", again(1)))), send("B", option("a", loop(again(0)))),
		send("D", a), send("", a), receive("BC", a), receive("B"), send("B"), send("B", a, a), receive("B", option("b", done()), a),
		receive("B", option("e", done())), receive("B", option("", done())), receive("B", option("a", impl.Local{})),
		{Kind: impl.LocalRec}, {Kind: impl.LocalRec, Branches: []impl.LocalBranch{a}},
	}
	for _, l := range invalid {
		if validLocal(l) {
			t.Fatalf("%s is valid", show(l))
		}
		for _, other := range append([]impl.Local{l, done(), receive("B", option("b", done())), loop(receive("B", option("c", again(0))))}, invalid...) {
			for _, pair := range [][2]impl.Local{{l, other}, {other, l}, {receive("C", option("a", l)), receive("C", option("a", other))},
				{receive("C", option("a", other)), receive("C", option("b", l))}} {
				if merged, ok := impl.MergeLocals(pair[0], pair[1]); ok || !isZeroLocal(merged) {
					t.Errorf("MergeLocals merges %s and %s to %s", show(pair[0]), show(pair[1]), show(merged))
				}
			}
		}
	}
}
