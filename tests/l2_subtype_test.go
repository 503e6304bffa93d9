package tests

import (
	"math/rand"
	"testing"

	"loop.example/sessiontypes/impl"
)

// checkRelated compares IsSubtype, in both directions, and LocalEquivalent with
// the definition, and returns whether a is a subtype of b.
func checkRelated(t *testing.T, a, b impl.Local) bool {
	t.Helper()
	below, above := related(a, b, true, map[string]bool{}), related(b, a, true, map[string]bool{})
	equivalent := related(a, b, false, map[string]bool{})
	for _, c := range []struct {
		name      string
		got, want bool
	}{
		{"IsSubtype(a, b)", impl.IsSubtype(a, b), below},
		{"IsSubtype(b, a)", impl.IsSubtype(b, a), above},
		{"LocalEquivalent(a, b)", impl.LocalEquivalent(a, b), equivalent},
		{"LocalEquivalent(b, a)", impl.LocalEquivalent(b, a), equivalent},
	} {
		if c.got != c.want {
			t.Errorf("%s = %v with a = %q, b = %q", c.name, c.got, textOfLocal(a), textOfLocal(b))
		}
	}
	return below
}

func TestRelations(t *testing.T) {
	const equivalent, below, none = "equivalent", "below", "none"
	for _, c := range []struct{ a, b, relation string }{
		{".", ".", equivalent},
		{"B!{a.}", "B!{a.|b.}", below},
		{"B!{b.}", "B!{a.|b.}", below},
		{"B!{a.|d.}", "B!{a.|b.|c.|d.}", below},
		{"B?{a.|b.}", "B?{a.}", below},
		{"B?{a.|b.}", "B?{b.}", below},
		{"B?{a.|b.|c.|d.}", "B?{b.|c.}", below},
		{"B!{a.}", "B!{b.}", none},
		{"B?{a.}", "B?{b.}", none},
		{"B!{a.|b.}", "B!{b.|c.}", none},
		{"B?{a.|b.}", "B?{b.|c.}", none},
		{"B!{a.}", "B?{a.}", none},
		{"B!{a.}", "C!{a.}", none},
		{"B?{a.}", "A?{a.}", none},
		{"B!{a.}", ".", none},
		{"B?{a.}", ".", none},
		{"B!{aC!{a.}}", "B!{a.}", none},
		// The continuations are compared in the same direction below a send and below a receive.
		{"B!{aC!{a.}}", "B!{aC!{a.|b.}|b.}", below},
		{"B!{aC?{a.|b.}}", "B!{aC?{a.}|b.}", below},
		{"B?{aC!{a.}|b.}", "B?{aC!{a.|b.}}", below},
		{"B?{aC?{a.|b.}|b.}", "B?{aC?{a.}}", below},
		{"B!{aC!{a.|b.}}", "B!{aC!{a.}|b.}", none},
		{"B?{aC?{a.}|b.}", "B?{aC?{a.|b.}}", none},
		// Only the continuations of the labels that both have are compared.
		{"B!{a.}", "B!{a.|bC!{c.}}", below},
		{"B?{a.|bC!{c.}}", "B?{a.}", below},
		{"B!{a.|bC!{c.}}", "B!{a.|b.}", none},
		{"B?{a.|bC!{c.}}", "B?{a.|b.}", none},
		{"B!{aC?{a.}|b.}", "B!{aC?{b.}|b.}", none},
		{"B!{a.|bC?{a.}}", "B!{a.|bC?{b.}}", none},
		// Recursions whose body is finished.
		{".", "@.", equivalent},
		{"@.", "@@@.", equivalent},
		{"B!{a@.}", "B!{a.}", equivalent},
		{"B!{a@@.}", "B!{a.|b.}", below},
		{"@B!{a.}", "B!{a@.}", equivalent},
		{"@.", "B!{a.}", none},
		{"@.", "@B?{a#0}", none},
		{"B!{a.}", "@B!{a#0}", none},
		// The same type, unfolded at different points.
		{"@B!{a#0}", "B!{a@B!{a#0}}", equivalent},
		{"@B!{a#0}", "@B!{aB!{a#0}}", equivalent},
		{"@B!{aB!{a#0}}", "@B!{aB!{aB!{a#0}}}", equivalent},
		{"B!{a@B!{aB!{a#0}}}", "@B!{aB!{aB!{a#0}}}", equivalent},
		{"@B!{a#0}", "@@B!{a#1}", equivalent},
		{"@@B!{a#0}", "@@B!{a#1}", equivalent},
		{"@B!{a@#1}", "@B!{a#0}", equivalent},
		{"@B!{aC?{c#0}|b.}", "B!{aC?{c@B!{aC?{c#0}|b.}}|b.}", equivalent},
		{"@B!{aC?{c#0}}", "B!{a@C?{cB!{a#0}}}", equivalent},
		{"C?{c@B!{aC?{c#0}}}", "@C?{cB!{a#0}}", equivalent},
		{"@B!{a#0|b@B!{a#0|b#1}}", "@B!{a#0|b#0}", equivalent},
		{"@B?{a@C!{b#0|c#1}|d.}", "@B?{aC!{b@C!{b#0|c@B?{a@C!{b#0|c#1}|d.}}|c#0}|d@.}", equivalent},
		// The variables look the same and mean something else.
		{"@B!{a@C!{b#0}}", "@B!{a@C!{b#1}}", none},
		{"@B!{a#0|b.}", "@B!{a.|b#0}", none},
		{"@B!{aC?{c#0}}", "@C?{cB!{a#0}}", none},
		{"@B!{aB!{b#0}}", "@B!{aB!{bB!{a#0}}}", none},
		{"@B!{a#0}", "@B?{a#0}", none},
		// Endless types with more or fewer labels.
		{"@B!{a#0}", "@B!{a#0|b.}", below},
		{"@B!{a#0|b#0}", "@B!{a#0|b#0|c.}", below},
		{"@B?{a#0|b.}", "@B?{a#0}", below},
		{"@B?{a#0|b.}", "B?{a@B?{a#0}|b.}", below},
		{"B!{a@B!{a#0}}", "@B!{a#0|b#0}", below},
		{"@B!{aC?{c#0|d.}}", "@B!{aC?{c#0}|b.}", below},
		{"@B!{aC?{c#0}}", "@B!{aC?{c#0|d.}|b.}", none},
		{"@B!{a#0}", "@B!{aB!{a#0|b.}}", below},
		{"@B!{aB!{a#0}}", "@B!{a#0|b.}", below},
		// The difference comes after the first lap.
		{"@B!{aB!{a#0}}", "B!{aB!{aB!{a@B!{aB!{a#0|b.}}}}}", below},
		{"B!{aB!{aB!{a@B!{aB!{b#0}}}}}", "@B!{a#0}", none},
	} {
		a, b := local(t, c.a), local(t, c.b)
		checkRelated(t, a, b)
		isBelow, isAbove := c.relation != none, c.relation == equivalent
		if impl.IsSubtype(a, b) != isBelow || impl.IsSubtype(b, a) != isAbove || impl.LocalEquivalent(a, b) != isAbove {
			t.Errorf("%s and %s: subtypes %v and %v, equivalent %v, want %s", c.a, c.b,
				impl.IsSubtype(a, b), impl.IsSubtype(b, a), impl.LocalEquivalent(a, b), c.relation)
		}
		if equal := c.a == c.b; impl.LocalEqual(a, b) != equal {
			t.Errorf("LocalEqual(%s, %s) = %v", c.a, c.b, !equal)
		}
	}
}

// TestLabelSets compares actions with every two sets of labels, at the root and below.
func TestLabelSets(t *testing.T) {
	withLabels := func(kind, set int) impl.Local {
		l := impl.Local{Kind: kind, Peer: "B"}
		for i, label := range []string{"a", "b", "c", "d"} {
			if set>>i&1 == 1 {
				l.Branches = append(l.Branches, option(label, done()))
			}
		}
		return l
	}
	for x := 1; x < 16; x++ {
		for y := 1; y < 16; y++ {
			contained, contains := x&y == x, x&y == y
			for _, around := range []func(impl.Local) impl.Local{
				func(l impl.Local) impl.Local { return l },
				loop,
				func(l impl.Local) impl.Local {
					return loop(receive("C", option("a", again(0)), option("d", loop(send("A", option("c", l))))))
				},
			} {
				for kind, want := range map[int]bool{impl.LocalSend: contained, impl.LocalReceive: contains} {
					a, b := around(withLabels(kind, x)), around(withLabels(kind, y))
					checkRelated(t, a, b)
					if impl.IsSubtype(a, b) != want || impl.LocalEquivalent(a, b) != (x == y) {
						t.Errorf("%q and %q: subtype %v, equivalent %v", textOfLocal(a), textOfLocal(b), !want, x != y)
					}
				}
				if a, b := around(withLabels(impl.LocalSend, x)), around(withLabels(impl.LocalReceive, y)); checkRelated(t, a, b) {
					t.Errorf("%q is a subtype of %q", textOfLocal(a), textOfLocal(b))
				}
			}
		}
	}
}

// TestRandomRelations compares types of which many are related.
func TestRandomRelations(t *testing.T) {
	r := rand.New(rand.NewSource(7))
	list := randomLocals(1500)
	equivalent, proper, none := 0, 0, 0
	for i, l := range list {
		pairs := [][2]impl.Local{
			{variant(r, l, 5, false), l},
			{variant(r, l, 5, false), variant(r, l, 4, false)},
			{variant(r, l, 5, true), l},
			{variant(r, l, 5, true), variant(r, l, 4, true)},
			{l, list[(i+1)%len(list)]},
		}
		for n, pair := range pairs {
			a, b := pair[0], pair[1]
			if !validLocal(a) || !validLocal(b) {
				continue
			}
			below := checkRelated(t, a, b)
			if n < 3 && !below {
				t.Errorf("%q is no subtype of %q", textOfLocal(a), textOfLocal(b))
			}
			switch {
			case impl.LocalEquivalent(a, b):
				if textOfLocal(a) != textOfLocal(b) {
					equivalent++
				}
			case below:
				proper++
			default:
				none++
			}
		}
	}
	if equivalent < 1000 || proper < 500 || none < 500 {
		t.Errorf("%d pairs are equivalent but not equal, %d proper subtypes, %d not related", equivalent, proper, none)
	}
}

// TestOrder checks that the relations are an order and its equivalence.
func TestOrder(t *testing.T) {
	r := rand.New(rand.NewSource(8))
	chains := 0
	for _, c := range randomLocals(1000) {
		b := variant(r, c, 4, true)
		a := variant(r, b, 4, true)
		if !validLocal(a) || !validLocal(b) {
			continue
		}
		if !impl.IsSubtype(a, a) || !impl.LocalEquivalent(a, a) {
			t.Errorf("%q is not related to itself", textOfLocal(a))
		}
		if !impl.IsSubtype(a, b) || !impl.IsSubtype(b, c) || !impl.IsSubtype(a, c) {
			t.Errorf("no chain of subtypes: %q, %q, %q", textOfLocal(a), textOfLocal(b), textOfLocal(c))
		}
		if both := impl.IsSubtype(a, c) && impl.IsSubtype(c, a); impl.LocalEquivalent(a, c) != both {
			t.Errorf("LocalEquivalent(%q, %q) = %v", textOfLocal(a), textOfLocal(c), !both)
		}
		chains++
	}
	if chains < 800 {
		t.Errorf("only %d chains", chains)
	}
}

// partner returns the valid type of the only other role in l: it receives what l sends and the other way round.
func partner(l impl.Local) impl.Local {
	switch l.Kind {
	case impl.LocalSend:
		l.Kind = impl.LocalReceive
	case impl.LocalReceive:
		l.Kind = impl.LocalSend
	}
	var branches []impl.LocalBranch
	for _, b := range l.Branches {
		branches = append(branches, option(b.Label, partner(b.Next)))
	}
	l.Branches = branches
	return l
}

// step is StepLocal that stops the test where there is no step.
func step(t *testing.T, l impl.Local, label string) impl.Local {
	t.Helper()
	next, ok := impl.StepLocal(l, label)
	if !ok {
		t.Fatalf("%q has no action with the label %q", textOfLocal(l), label)
	}
	return next
}

// TestReplacement checks promise 2: it runs a subtype in the place of its
// supertype, together with the partner for which the supertype was written.
func TestReplacement(t *testing.T) {
	r := rand.New(rand.NewSource(9))
	sent, received := 0, 0
	for _, super := range randomLocals(1500) {
		sub := variant(r, super, 5, true)
		if !validLocal(sub) || !impl.IsSubtype(sub, super) {
			continue
		}
		other := partner(super)
		for range 20 {
			mine, okMine := impl.UnfoldLocal(sub)
			theirs, okTheirs := impl.UnfoldLocal(other)
			if !okMine || !okTheirs || mine.Kind == impl.LocalEnd && theirs.Kind == impl.LocalEnd {
				break
			}
			if mine.Peer != theirs.Peer || mine.Kind+theirs.Kind != impl.LocalSend+impl.LocalReceive {
				t.Fatalf("%q does not fit its partner %q", textOfLocal(mine), textOfLocal(theirs))
			}
			sender := theirs
			if mine.Kind == impl.LocalSend {
				sender = mine
				sent++
			} else {
				received++
			}
			label := sender.Branches[r.Intn(len(sender.Branches))].Label
			sub, other = step(t, sub, label), step(t, other, label)
			if !impl.IsSubtype(sub, partner(other)) {
				t.Fatalf("after %q, %q is no subtype of %q", label, textOfLocal(sub), textOfLocal(partner(other)))
			}
		}
	}
	if sent < 1000 || received < 1000 {
		t.Errorf("only %d labels sent and %d received", sent, received)
	}
}

// lap returns a loop of n sends of the label a to B, the last of which may also send the labels of more.
func lap(n int, more ...impl.LocalBranch) impl.Local {
	last := send("B", append([]impl.LocalBranch{option("a", again(0))}, more...)...)
	return loop(sends(n-1, last))
}

// TestLaps compares loops of different lengths: only the common multiple of their lengths shows every pair.
func TestLaps(t *testing.T) {
	for n := 1; n <= 38; n++ {
		for _, m := range []int{1, 2, 7, 37, 38} {
			a, b := lap(n), lap(m)
			if !impl.LocalEquivalent(a, b) || !impl.IsSubtype(a, b) || !impl.IsSubtype(b, a) {
				t.Errorf("loops of %d and %d actions are not equivalent", n, m)
			}
			b = lap(m, option("b", done()))
			if impl.LocalEquivalent(a, b) || !impl.IsSubtype(a, b) || impl.IsSubtype(b, a) {
				t.Errorf("the loop of %d actions is not a proper subtype of the loop of %d actions with one more label", n, m)
			}
			b.Branches[0].Next.Kind = impl.LocalReceive
			if impl.LocalEquivalent(a, b) || impl.IsSubtype(a, b) || impl.IsSubtype(b, a) {
				t.Errorf("a loop of sends is related to one of %d actions with a receive", m)
			}
		}
	}
}

// TestRelationsAtLimits compares valid types whose unfolding is not valid, and types of the greatest size and depth.
func TestRelationsAtLimits(t *testing.T) {
	returns(t, "a comparison", func() {
		for _, n := range []int{399, 400, 401} {
			a, b := sizedLocal(n), sizedLocal(n)
			if ok := n <= 400; impl.LocalEquivalent(a, b) != ok || impl.IsSubtype(a, b) != ok || impl.LocalEquivalent(loop(a), b) != (n < 400) {
				t.Errorf("types of %d nodes are not related as they should be", n)
			}
		}
		for _, n := range []int{39, 40, 41} {
			a, b := sends(n-1, done()), sends(n-1, done())
			if ok := n <= 40; impl.LocalEquivalent(a, b) != ok || impl.IsSubtype(a, b) != ok || impl.IsSubtype(b, loop(a)) != (n < 40) {
				t.Errorf("types of %d levels are not related as they should be", n)
			}
		}
		// These have 400 nodes, and their unfolding has far more.
		wide, wider := localLoopOf(1, 3, 400), localLoopOf(1, 3, 399)
		if _, ok := impl.UnfoldLocal(wide); ok || !impl.LocalValid(wide) {
			t.Error("the type or its unfolding is not as large as it should be")
		}
		if !impl.LocalEquivalent(wide, wide) || !impl.IsSubtype(wide, localLoopOf(1, 3, 400)) {
			t.Error("a type is not equivalent to itself because its unfolding is too large")
		}
		if impl.LocalEquivalent(wide, wider) || impl.IsSubtype(wide, wider) && impl.IsSubtype(wider, wide) {
			t.Error("different large types are equivalent")
		}
		// Almost all pairs of the nodes of these two are compared.
		a, b := manyLaps(12, 10), manyLaps(9, 13)
		if !impl.LocalValid(a) || !impl.LocalValid(b) || !impl.LocalEquivalent(a, b) || !impl.IsSubtype(b, a) {
			t.Error("large loops are not equivalent")
		}
	})
}

// manyLaps returns a loop that sends a, b, c or d to B at each step, with
// branches of different lengths before it begins again.
func manyLaps(branches, length int) impl.Local {
	l := again(0)
	for i := range branches {
		chain := again(0)
		for range length - i%3 {
			chain = send("B", option("a", chain), option("b", again(0)))
		}
		l = send("B", option("a", chain), option("b", l))
	}
	return loop(l)
}
