package tests

import (
	"testing"

	"loop.example/sessiontypes/impl"
)

// spaciousLocal copies l into slices with more capacity than length, and marks what lies behind the length.
func spaciousLocal(l impl.Local) impl.Local {
	branches := make([]impl.LocalBranch, 0, len(l.Branches)+2)
	for _, b := range l.Branches {
		branches = append(branches, option(b.Label, spaciousLocal(b.Next)))
	}
	beyond := branches[:cap(branches)]
	for i := len(branches); i < len(beyond); i++ {
		beyond[i].Label = "beyond"
	}
	l.Branches = branches
	return l
}

// localElements adds the elements of all slices of l, up to their capacity,
// and reports whether none of them was there before.
func localElements(l impl.Local, all map[*impl.LocalBranch]bool) bool {
	separate := true
	whole := l.Branches[:cap(l.Branches)]
	for i := range whole {
		separate = separate && !all[&whole[i]]
		all[&whole[i]] = true
	}
	for _, b := range l.Branches {
		separate = localElements(b.Next, all) && separate
	}
	return separate
}

// markedLocal reports whether everything behind the lengths of the slices is still marked.
func markedLocal(l impl.Local) bool {
	beyond := l.Branches[:cap(l.Branches)][len(l.Branches):]
	for i := range beyond {
		if beyond[i].Label != "beyond" || !isZeroLocal(beyond[i].Next) {
			return false
		}
	}
	for _, b := range l.Branches {
		if !markedLocal(b.Next) {
			return false
		}
	}
	return true
}

func TestLocalMemory(t *testing.T) {
	list := append(randomLocals(400), local(t, "."), local(t, "@B!{a#0|b#0|c#0}"), local(t, "@@B?{a#0|b#1|c@#2}"),
		local(t, "A!{aC?{c.}|bB!{a.|b.|c.|d.}}"), loop(again(0)), send("B", option("b", done()), option("a", sizedLocal(30))))
	for i, original := range list {
		l := spaciousLocal(original)
		other := spaciousLocal(list[(i+1)%len(list)])
		all := map[*impl.LocalBranch]bool{}
		if !localElements(l, all) {
			t.Fatal("the argument shares memory with itself")
		}
		impl.LocalValid(l)
		impl.LocalPeers(l)
		impl.LocalEqual(l, other)
		impl.LocalEquivalent(l, other)
		impl.IsSubtype(l, other)
		impl.IsSubtype(l, l)
		text := impl.FormatLocal(l)
		for range 2 {
			if parsed, _ := impl.ParseLocal(text); !localElements(parsed, all) {
				t.Errorf("ParseLocal(%q) shares memory", text)
			}
			if u, _ := impl.UnfoldLocal(l); !localElements(u, all) {
				t.Errorf("UnfoldLocal(%q) shares memory", textOfLocal(original))
			}
			for _, label := range []string{"a", "b", "c", "d"} {
				if next, _ := impl.StepLocal(l, label); !localElements(next, all) {
					t.Errorf("StepLocal(%q, %q) shares memory", textOfLocal(original), label)
				}
			}
		}
		if !sameLocal(l, original) || !markedLocal(l) || !markedLocal(other) || !sameLocal(other, list[(i+1)%len(list)]) {
			t.Errorf("%q or the type after it was modified", textOfLocal(original))
		}
	}
}

// TestLocalKeepsNoState calls the functions in another order and at the same time.
func TestLocalKeepsNoState(t *testing.T) {
	list := randomLocals(300)
	results := func(i int) string {
		l, other := list[i], list[(i+1)%len(list)]
		u, _ := impl.UnfoldLocal(l)
		next, _ := impl.StepLocal(l, "a")
		reread, _ := impl.ParseLocal(impl.FormatLocal(l))
		return impl.FormatLocal(l) + " " + impl.FormatLocal(u) + " " + impl.FormatLocal(next) + " " + impl.FormatLocal(reread) + " " + impl.LocalPeers(l) +
			show([]bool{impl.LocalEquivalent(l, u), impl.IsSubtype(l, other), impl.IsSubtype(other, l)})
	}
	keepsNoState(t, len(list), results)
}

// localCycle returns a type that contains itself after n nodes. The last node has the given peer.
func localCycle(n int, peer string) impl.Local {
	nodes := make([][]impl.LocalBranch, n)
	for i := range nodes {
		nodes[i] = make([]impl.LocalBranch, 1)
	}
	for i := range nodes {
		nodes[i][0] = option("a", send("B", nodes[(i+1)%n]...))
	}
	nodes[n-1][0].Next.Peer = peer
	return send("B", nodes[0]...)
}

// sharedLocal returns a type of n levels in which the branches of an action share their memory.
func sharedLocal(n int, leaf impl.Local) impl.Local {
	for range n {
		leaf = receive("C", option("a", leaf), option("b", leaf), option("c", leaf), option("d", leaf))
	}
	return leaf
}

// TestUnusualLocalMemory passes types that contain themselves, or that are far larger than their memory.
func TestUnusualLocalMemory(t *testing.T) {
	loopsOnly := impl.Local{Kind: impl.LocalRec, Branches: make([]impl.LocalBranch, 1)}
	loopsOnly.Branches[0].Next = loopsOnly
	wide := send("B")
	for range 100000 {
		wide.Branches = append(wide.Branches, option("a", done()))
	}
	for i := range wide.Branches {
		wide.Branches[i].Next = wide
	}
	for _, l := range []impl.Local{localCycle(1, "B"), localCycle(3, "B"), loopsOnly, wide, sharedLocal(200, done()), sharedLocal(38, loop(done())),
		sends(1000000, done()), loops(1000000, done()), receive("B", option("a", done()), option("b", localCycle(2, "B")))} {
		returns(t, "a function", func() {
			if impl.LocalValid(l) || impl.FormatLocal(l) != "" || impl.LocalPeers(l) != "" {
				t.Error("an invalid type is accepted")
			}
			if impl.LocalEquivalent(l, l) || impl.IsSubtype(l, l) || impl.IsSubtype(l, done()) || impl.IsSubtype(done(), l) {
				t.Error("an invalid type is related to a type")
			}
			if u, ok := impl.UnfoldLocal(l); ok || !isZeroLocal(u) {
				t.Error("an invalid type is unfolded")
			}
			if next, ok := impl.StepLocal(l, "a"); ok || !isZeroLocal(next) {
				t.Error("an invalid type has a step")
			}
			if !impl.LocalEqual(l, l) || impl.LocalEqual(l, done()) || impl.LocalEqual(l, impl.Local{}) {
				t.Error("a type is not equal only to itself")
			}
		})
	}
	returns(t, "LocalEqual", func() {
		for _, c := range []struct {
			a, b impl.Local
			want bool
		}{
			{localCycle(1, "B"), localCycle(1, "B"), true},
			{localCycle(2, "B"), localCycle(3, "B"), true},
			{localCycle(4, "C"), localCycle(4, "C"), true},
			{localCycle(4, "C"), localCycle(6, "C"), false},
			{localCycle(4, "C"), localCycle(4, "B"), false},
			{sharedLocal(200, done()), sharedLocal(200, done()), true},
			{sharedLocal(200, done()), sharedLocal(200, loop(done())), false},
			{sharedLocal(200, done()), sharedLocal(201, done()), false},
			{sends(1000000, done()), sends(1000000, done()), true},
			{sends(1000000, done()), sends(1000000, again(0)), false},
		} {
			if impl.LocalEqual(c.a, c.b) != c.want {
				t.Errorf("LocalEqual is not %v", c.want)
			}
		}
	})
}

func TestLongLocalTexts(t *testing.T) {
	returns(t, "ParseLocal", func() {
		for _, piece := range []string{"@", "B!{a", "B?{a", "#0", ".", "}", "|", "\x00", "B!{a.|", "a.|"} {
			long := make([]byte, 0, 8<<20)
			for len(long) < 4<<20 {
				long = append(long, piece...)
			}
			for _, before := range []string{"", "B!{"} {
				if l, ok := impl.ParseLocal(before + string(long)); ok || !isZeroLocal(l) {
					t.Errorf("ParseLocal accepts a long text of %q", piece)
				}
			}
		}
	})
}
