package tests

import (
	"strings"
	"testing"

	"loop.example/sessiontypes/impl"
)

func TestProjectMemory(t *testing.T) {
	list := append(randomProtocols(300), randomGlobals(200)...)
	list = append(list, rec(variable(0)), message("BC", branch("b", end()), branch("a", sized(30))))
	for _, original := range list {
		g := spacious(original)
		all := map[*impl.LocalBranch]bool{}
		for range 2 {
			locals, _ := impl.ProjectAll(g)
			for i := range locals {
				if !localElements(locals[i], all) {
					t.Errorf("ProjectAll(%q) shares memory", textOf(original))
				}
			}
			for _, role := range roles {
				if l, _ := impl.Project(g, role); !localElements(l, all) {
					t.Errorf("Project(%q, %q) shares memory", textOf(original), role)
				}
			}
			impl.UnprojectableRoles(g)
		}
		if !sameGlobal(g, original) || !marked(g) {
			t.Errorf("%q was modified", textOf(original))
		}
	}
}

// TestProjectAllMemory writes behind the length of a result and then asks again.
func TestProjectAllMemory(t *testing.T) {
	g := parsed(t, "@AB{aBC{a#0}|bBC{b.}}")
	first, _ := impl.ProjectAll(g)
	second, _ := impl.ProjectAll(g)
	whole := first[:cap(first)]
	for i := range whole {
		whole[i] = again(7)
	}
	third, _ := impl.ProjectAll(g)
	for _, locals := range [][]impl.Local{second, third} {
		for i, want := range wantedProjections(g) {
			if textOfLocal(locals[i]) != want {
				t.Errorf("the projections became %s", show(locals))
			}
		}
	}
}

func TestMergeMemory(t *testing.T) {
	list := append(randomLocals(200), allLocals(4, 0, 0)...)
	list = append(list, loop(again(0)), receive("B", option("b", done()), option("a", sizedLocal(30))))
	for i, a := range list {
		for _, distance := range []int{0, 1, 2, 3, 5, 8, 13, 21} {
			b := list[(i+distance)%len(list)]
			x, y := spaciousLocal(a), spaciousLocal(b)
			all := map[*impl.LocalBranch]bool{}
			if !localElements(x, all) || !localElements(y, all) {
				t.Fatal("the arguments share memory")
			}
			for range 2 {
				if merged, _ := impl.MergeLocals(x, y); !localElements(merged, all) {
					t.Errorf("MergeLocals(%q, %q) shares memory", textOfLocal(a), textOfLocal(b))
				}
			}
			// One argument twice: its parts may not occur twice in the result either.
			if merged, _ := impl.MergeLocals(x, x); !localElements(merged, all) {
				t.Errorf("MergeLocals(%q, itself) shares memory", textOfLocal(a))
			}
			if !sameLocal(x, a) || !sameLocal(y, b) || !markedLocal(x) || !markedLocal(y) {
				t.Errorf("%q or %q was modified", textOfLocal(a), textOfLocal(b))
			}
		}
	}
	// The argument has the same memory in two places, and the result may not.
	shared := []impl.LocalBranch{option("a", done())}
	double := receive("B", option("a", impl.Local{Kind: impl.LocalSend, Peer: "C", Branches: shared}),
		option("b", impl.Local{Kind: impl.LocalSend, Peer: "C", Branches: shared}))
	for _, other := range []impl.Local{double, receive("B", option("c", done()))} {
		if merged, ok := impl.MergeLocals(double, other); !ok || !localElements(merged, map[*impl.LocalBranch]bool{}) {
			t.Errorf("MergeLocals(%q, %q) shares memory", textOfLocal(double), textOfLocal(other))
		}
	}
	sharedNext := []impl.GlobalBranch{branch("a", end())}
	next := impl.Global{Kind: impl.GlobalMessage, From: "A", To: "C", Branches: sharedNext}
	g := message("AB", branch("a", next), branch("b", next))
	for _, role := range roles {
		if l, ok := impl.Project(g, role); !ok || !localElements(l, map[*impl.LocalBranch]bool{}) {
			t.Errorf("Project(%q, %q) shares memory", textOf(g), role)
		}
	}
}

// TestProjectKeepsNoState calls the functions in another order and at the same time.
func TestProjectKeepsNoState(t *testing.T) {
	list := append(randomProtocols(200), randomGlobals(200)...)
	results := func(i int) string {
		all, ok := impl.ProjectAll(list[i])
		l, _ := impl.Project(list[i], roles[i%3])
		other, _ := impl.Project(list[(i+1)%len(list)], roles[i%3])
		merged, _ := impl.MergeLocals(l, other)
		return show(all) + show(ok) + impl.FormatLocal(l) + " " + impl.FormatLocal(merged) + " " + impl.UnprojectableRoles(list[i])
	}
	keepsNoState(t, len(list), results)
}

// TestUnusualMemoryIsNotProjected passes types that contain themselves, or that are far larger than their memory.
func TestUnusualMemoryIsNotProjected(t *testing.T) {
	recsOnly := impl.Global{Kind: impl.GlobalRec, Branches: make([]impl.GlobalBranch, 1)}
	recsOnly.Branches[0].Next = recsOnly
	for _, g := range []impl.Global{cycle(1, "B"), cycle(3, "B"), recsOnly, shared(200, end()), shared(38, rec(end())),
		messages(1000000, end()), recs(1000000, end()), message("AB", branch("a", end()), branch("b", cycle(2, "B")))} {
		returns(t, "a function", func() { checkInvalid(t, g) })
	}
	for _, l := range []impl.Local{localCycle(1, "B"), localCycle(3, "B"), sharedLocal(200, done()), sharedLocal(38, loop(done())),
		sends(1000000, done()), loops(1000000, done()), receive("B", option("a", done()), option("b", localCycle(2, "B")))} {
		returns(t, "MergeLocals", func() {
			for _, pair := range [][2]impl.Local{{l, l}, {l, done()}, {receive("B", option("c", done())), l}} {
				if merged, ok := impl.MergeLocals(pair[0], pair[1]); ok || !isZeroLocal(merged) {
					t.Error("MergeLocals accepts an invalid type")
				}
			}
		})
	}
	long := strings.Repeat("A", 1<<22)
	if l, ok := impl.Project(parsed(t, "AB{a.}"), long); ok || !isZeroLocal(l) {
		t.Error("Project accepts a long role")
	}
}
