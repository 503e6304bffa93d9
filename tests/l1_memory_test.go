package tests

import (
	"testing"

	"loop.example/sessiontypes/impl"
)

// spacious copies g into slices with more capacity than length, and marks what lies behind the length.
func spacious(g impl.Global) impl.Global {
	branches := make([]impl.GlobalBranch, 0, len(g.Branches)+2)
	for _, b := range g.Branches {
		branches = append(branches, branch(b.Label, spacious(b.Next)))
	}
	beyond := branches[:cap(branches)]
	for i := len(branches); i < len(beyond); i++ {
		beyond[i].Label = "beyond"
	}
	g.Branches = branches
	return g
}

// elements adds the elements of all slices of g, up to their capacity, and
// reports whether none of them was there before.
func elements(g impl.Global, all map[*impl.GlobalBranch]bool) bool {
	separate := true
	whole := g.Branches[:cap(g.Branches)]
	for i := range whole {
		separate = separate && !all[&whole[i]]
		all[&whole[i]] = true
	}
	for _, b := range g.Branches {
		separate = elements(b.Next, all) && separate
	}
	return separate
}

// marked reports whether everything behind the lengths of the slices is still marked.
func marked(g impl.Global) bool {
	beyond := g.Branches[:cap(g.Branches)][len(g.Branches):]
	for i := range beyond {
		if beyond[i].Label != "beyond" || !isZero(beyond[i].Next) {
			return false
		}
	}
	for _, b := range g.Branches {
		if !marked(b.Next) {
			return false
		}
	}
	return true
}

func TestGlobalMemory(t *testing.T) {
	list := append(randomGlobals(400), parsed(t, "."), parsed(t, "@AB{a#0|b#0|c#0}"), parsed(t, "@@AB{a#0|b#1|c@#2}"),
		parsed(t, "AB{aBC{c.}|bAB{a.|b.|c.}}"), rec(variable(0)), message("AB", branch("b", end()), branch("a", sized(30))))
	for _, original := range list {
		g := spacious(original)
		all := map[*impl.GlobalBranch]bool{}
		if !elements(g, all) {
			t.Fatal("the argument shares memory with itself")
		}
		impl.GlobalValid(g)
		impl.GlobalNodes(g)
		impl.GlobalRoles(g)
		impl.GlobalEqual(g, original)
		text := impl.FormatGlobal(g)
		for range 2 {
			if parsed, _ := impl.ParseGlobal(text); !elements(parsed, all) {
				t.Errorf("ParseGlobal(%q) shares memory", text)
			}
			if u, _ := impl.UnfoldGlobal(g); !elements(u, all) {
				t.Errorf("UnfoldGlobal(%q) shares memory", textOf(original))
			}
			for _, label := range []string{"a", "b", "c", "d"} {
				if next, _ := impl.StepGlobal(g, label); !elements(next, all) {
					t.Errorf("StepGlobal(%q, %q) shares memory", textOf(original), label)
				}
			}
		}
		if !sameGlobal(g, original) || !marked(g) {
			t.Errorf("%q was modified", textOf(original))
		}
	}
}

// TestGlobalKeepsNoState calls the functions in another order and at the same time.
func TestGlobalKeepsNoState(t *testing.T) {
	list := randomGlobals(300)
	results := func(i int) string {
		g := list[i]
		u, _ := impl.UnfoldGlobal(g)
		next, _ := impl.StepGlobal(g, "a")
		again, _ := impl.ParseGlobal(impl.FormatGlobal(g))
		return impl.FormatGlobal(g) + " " + impl.FormatGlobal(u) + " " + impl.FormatGlobal(next) + " " + impl.FormatGlobal(again) + " " + impl.GlobalRoles(g)
	}
	keepsNoState(t, len(list), results)
}

// cycle returns a type of the kind that contains itself after n nodes. The last node has the given To.
func cycle(n int, to string) impl.Global {
	nodes := make([][]impl.GlobalBranch, n)
	for i := range nodes {
		nodes[i] = make([]impl.GlobalBranch, 1)
	}
	for i := range nodes {
		nodes[i][0] = branch("a", impl.Global{Kind: impl.GlobalMessage, From: "A", To: "B", Branches: nodes[(i+1)%n]})
	}
	nodes[n-1][0].Next.To = to
	return impl.Global{Kind: impl.GlobalMessage, From: "A", To: "B", Branches: nodes[0]}
}

// shared returns a type of n levels in which the branches of a message share their memory.
func shared(n int, leaf impl.Global) impl.Global {
	for range n {
		leaf = message("AB", branch("a", leaf), branch("b", leaf), branch("c", leaf))
	}
	return leaf
}

// TestUnusualMemory passes types that contain themselves, or that are far larger than their memory.
func TestUnusualMemory(t *testing.T) {
	loops := impl.Global{Kind: impl.GlobalRec, Branches: make([]impl.GlobalBranch, 1)}
	loops.Branches[0].Next = loops
	wide := message("AB")
	for range 100000 {
		wide.Branches = append(wide.Branches, branch("a", end()))
	}
	for i := range wide.Branches {
		wide.Branches[i].Next = wide
	}
	for _, g := range []impl.Global{cycle(1, "B"), cycle(3, "B"), loops, wide, shared(200, end()), shared(38, rec(end())),
		messages(1000000, end()), recs(1000000, end()), message("AB", branch("a", end()), branch("b", cycle(2, "B")))} {
		returns(t, "a function", func() {
			if impl.GlobalValid(g) || impl.GlobalNodes(g) != 0 || impl.FormatGlobal(g) != "" || impl.GlobalRoles(g) != "" {
				t.Error("an invalid type is accepted")
			}
			if u, ok := impl.UnfoldGlobal(g); ok || !isZero(u) {
				t.Error("an invalid type is unfolded")
			}
			if next, ok := impl.StepGlobal(g, "a"); ok || !isZero(next) {
				t.Error("an invalid type has a step")
			}
			if !impl.GlobalEqual(g, g) || impl.GlobalEqual(g, end()) || impl.GlobalEqual(g, impl.Global{}) {
				t.Error("a type is not equal only to itself")
			}
		})
	}
	returns(t, "GlobalEqual", func() {
		for _, c := range []struct {
			a, b impl.Global
			want bool
		}{
			{cycle(1, "B"), cycle(1, "B"), true},
			{cycle(2, "B"), cycle(3, "B"), true},
			{cycle(4, "C"), cycle(4, "C"), true},
			{cycle(4, "C"), cycle(6, "C"), false},
			{cycle(4, "C"), cycle(4, "B"), false},
			{shared(200, end()), shared(200, end()), true},
			{shared(200, end()), shared(200, rec(end())), false},
			{shared(200, end()), shared(201, end()), false},
			{messages(1000000, end()), messages(1000000, end()), true},
			{messages(1000000, end()), messages(1000000, variable(0)), false},
		} {
			if impl.GlobalEqual(c.a, c.b) != c.want {
				t.Errorf("GlobalEqual is not %v", c.want)
			}
		}
	})
}

func TestLongTexts(t *testing.T) {
	returns(t, "ParseGlobal", func() {
		for _, piece := range []string{"@", "AB{a", "#0", ".", "}", "|", "\x00", "AB{a.|", "a.|"} {
			long := make([]byte, 0, 8<<20)
			for len(long) < 4<<20 {
				long = append(long, piece...)
			}
			for _, before := range []string{"", "AB{"} {
				if g, ok := impl.ParseGlobal(before + string(long)); ok || !isZero(g) {
					t.Errorf("ParseGlobal accepts a long text of %q", piece)
				}
			}
		}
	})
}
