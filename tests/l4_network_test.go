package tests

import (
	"slices"
	"strings"
	"testing"

	"loop.example/sessiontypes/impl"
)

func TestNewNetwork(t *testing.T) {
	for _, texts := range [][3]string{
		{".", ".", "."},
		{"@B!{a#0|b.}", "@A?{a#0|b.}", "."},
		{"B!{a.|bC?{c.}}", "C?{a.|b.|c.|d.}", "@@A!{a#0|b#1}"},
		{"@.", "@@@.", "A?{a@.}"},
	} {
		want := networkOf(t, texts)
		n, ok := impl.NewNetwork(want.Locals)
		if !ok || networkText(n) != networkText(want) {
			t.Errorf("NewNetwork of %s = %s, %v", networkText(want), show(n), ok)
		}
		checkNetwork(t, n)
	}
	for _, locals := range [][]impl.Local{
		nil,
		{},
		{done()},
		{done(), done()},
		{done(), done(), done(), done()},
		{done(), done(), {}},
		{done(), again(0), done()},
		{loop(again(0)), done(), done()},
		{send("A", option("a", done())), done(), done()},
		{done(), done(), receive("C", option("a", done()))},
	} {
		if n, ok := impl.NewNetwork(locals); ok || !isZeroNetwork(n) {
			t.Errorf("NewNetwork(%s) = %s, %v", show(locals), show(n), ok)
		}
	}
}

// TestNumbers is about the numbers of local types and of queues.
func TestNumbers(t *testing.T) {
	for locals := range 7 {
		for queues := range 13 {
			n := impl.Network{Queues: make([]string, queues)}
			for range locals {
				n.Locals = append(n.Locals, done())
			}
			if locals == 3 && queues == 9 {
				checkNetwork(t, n)
				continue
			}
			checkInvalidNetwork(t, show(n), n)
			// The others may be there, beyond the lengths.
			n.Locals = append(n.Locals, make([]impl.Local, 10)...)[:locals]
			n.Queues = append(n.Queues, make([]string, 10)...)[:queues]
			checkInvalidNetwork(t, show(n), n)
		}
	}
	checkInvalidNetwork(t, "the zero value", impl.Network{})
	many := impl.Network{Locals: make([]impl.Local, 1<<16), Queues: make([]string, 1<<16)}
	returns(t, "a function", func() { checkInvalidNetwork(t, "many", many) })
}

func TestQueues(t *testing.T) {
	base := networkOf(t, [3]string{"B?{a.|b.}", "C!{c.}", "A?{d.}"})
	checkNetwork(t, base)
	for i := range 9 {
		for _, labels := range []string{"a", "b", "c", "d", "ab", "dd", "cba", "aaa", "dad"} {
			n := withQueue(base, i, labels)
			if i%4 == 0 {
				// A queue from a role to itself.
				checkInvalidNetwork(t, networkText(n), n)
				continue
			}
			checkNetwork(t, n)
		}
		for _, labels := range []string{
			"aaaa", "abcd", "aaaaaaaaa", "e", "`", "A", "\x00", "ae", "ea", "aea", "aae", "aa\x00", " ", "a ", " a", ".", "\xff", "é", "aé", "éa", "a\xffa", "E", "B",
		} {
			n := withQueue(base, i, labels)
			checkInvalidNetwork(t, networkText(n), n)
		}
		for c := range 256 {
			n := withQueue(base, i, string([]byte{'b', byte(c)}))
			if got := impl.NetworkValid(n); got != (i%4 != 0 && 'a' <= c && c <= 'd') {
				t.Errorf("NetworkValid of %q in the queue %d = %v", n.Queues[i], i, got)
			}
		}
	}
	returns(t, "a function", func() {
		checkInvalidNetwork(t, "a long queue", withQueue(base, 1, strings.Repeat("a", 1<<24)))
	})
}

// TestLocalsOfNetwork is about the local types that a network may have.
func TestLocalsOfNetwork(t *testing.T) {
	base := networkOf(t, [3]string{".", ".", "."}, "ABa", "BCb", "CAc")
	for role, own := range roles {
		for _, peer := range roles {
			// Each of these types has the peer somewhere, and no other one that is the role.
			other := roles[(role+1)%3]
			for _, l := range []impl.Local{
				send(peer, option("a", done())),
				receive(peer, option("a", done())),
				loop(send(peer, option("a", again(0)))),
				send(other, option("a", done()), option("d", receive(peer, option("a", done())))),
				receive(other, option("a", done()), option("b", loops(3, send(peer, option("a", again(2)))))),
			} {
				n := withLocal(base, role, l)
				if peer == own {
					checkInvalidNetwork(t, networkText(n), n)
				} else {
					checkNetwork(t, n)
				}
			}
		}
		for _, l := range []impl.Local{
			{}, {Kind: 6}, {Kind: -1}, again(0), loop(again(0)), loop(loop(again(1))),
			send("D", option("a", done())), send("", option("a", done())), send(roles[(role+1)%3]),
			send(roles[(role+1)%3], option("b", done()), option("a", done())),
			send(roles[(role+1)%3], option("e", done())), receive(roles[(role+2)%3], option("a", again(0))),
			{Kind: impl.LocalEnd, Peer: roles[(role+1)%3]}, {Kind: impl.LocalEnd, Index: 1},
			sizedFor(roles[(role+1)%3], 401), deepFor(roles[(role+1)%3], 41),
		} {
			n := withLocal(base, role, l)
			checkInvalidNetwork(t, networkText(n), n)
		}
		for _, l := range []impl.Local{sizedFor(roles[(role+1)%3], 400), deepFor(roles[(role+1)%3], 40), loops(39, done())} {
			checkNetwork(t, withLocal(base, role, l))
		}
	}
}

// deepFor returns a type with n levels and the peer.
func deepFor(peer string, n int) impl.Local {
	l := done()
	for range n - 1 {
		l = send(peer, option("a", l))
	}
	return l
}

// sizedFor returns a shallow type with n nodes and the peer.
func sizedFor(peer string, n int) impl.Local {
	l := sizedLocal(n)
	text := strings.ReplaceAll(textOfLocal(l), "C", peer)
	l, _, _ = readLocal(text)
	return l
}

// loopFor returns what localLoopOf does, with one peer.
func loopFor(peer string, recs, variables, nodes int) impl.Local {
	text := textOfLocal(localLoopOf(recs, variables, nodes))
	l, _, _ := readLocal(strings.NewReplacer("B", peer, "C", peer).Replace(text))
	return l
}

// deepLoopFor returns a recursive type with a variable at the depth at and
// another leaf at the depth total, so that its unfolding has at - 2 + total levels.
func deepLoopFor(peer string, at, total int) impl.Local {
	inner, other := again(0), done()
	for range at - 3 {
		inner = send(peer, option("a", inner))
	}
	for range total - 3 {
		other = receive(peer, option("c", other))
	}
	return loop(send(peer, option("a", inner), option("b", other)))
}

// foldedTypes returns valid types with the peer, with current types that are
// just within a limit, or with current types that are just not.
func foldedTypes(peer string, within bool) []impl.Local {
	if within {
		return []impl.Local{
			loopFor(peer, 1, 1, 201), loopFor(peer, 3, 1, 202), loopFor(peer, 1, 3, 101),
			deepLoopFor(peer, 21, 21), deepLoopFor(peer, 20, 22), deepLoopFor(peer, 4, 38),
		}
	}
	return []impl.Local{
		loopFor(peer, 1, 1, 202), loopFor(peer, 2, 1, 202), loopFor(peer, 1, 3, 102),
		deepLoopFor(peer, 21, 22), deepLoopFor(peer, 22, 21), deepLoopFor(peer, 4, 39),
	}
}

// TestCurrentTypes is about local types that are valid and whose current types are not.
func TestCurrentTypes(t *testing.T) {
	base := networkOf(t, [3]string{".", ".", "."}, "ABa", "BAc")
	for role := range roles {
		for _, within := range []bool{false, true} {
			for _, l := range foldedTypes(roles[(role+1)%3], within) {
				if !impl.LocalValid(l) {
					t.Fatalf("%q is not valid", textOfLocal(l))
				}
				n := withLocal(base, role, l)
				if within {
					checkNetwork(t, n)
				} else {
					checkInvalidNetwork(t, networkText(n), n)
				}
				if got, ok := impl.NewNetwork(n.Locals); ok != within || !ok && !isZeroNetwork(got) {
					t.Errorf("NewNetwork of %s = %v", networkText(n), ok)
				}
			}
		}
	}
}

// TestInvalidAfterAction is about enabled actions after which the network would not be valid.
func TestInvalidAfterAction(t *testing.T) {
	for role := range roles {
		for _, peer := range []string{roles[(role+1)%3], roles[(role+2)%3]} {
			for _, within := range []bool{false, true} {
				for _, next := range foldedTypes(peer, within) {
					checkNextType(t, role, send(peer, option("a", next), option("b", done())), within)
					checkNextType(t, role, receive(peer, option("a", next), option("b", done())), within)
				}
			}
		}
		// The current type of the role is within the limits, and the one of a branch is not.
		next := loop(loopFor(roles[(role+1)%3], 1, 1, 202))
		checkNextType(t, role, loop(send(roles[(role+1)%3], option("a", next))), false)
	}
}

// checkNextType requires that the action of the role, with the label a, is
// enabled, and that ApplyAction accepts it only if that is ok.
func checkNextType(t *testing.T, role int, l impl.Local, ok bool) {
	t.Helper()
	current := unfoldedLocal(l)
	n := withLocal(networkOf(t, [3]string{".", ".", "."}, current.Peer+roles[role]+"ad"), role, l)
	checkNetwork(t, n)
	a := impl.Action{Role: roles[role], Receive: current.Kind == impl.LocalReceive, Peer: current.Peer, Label: "a"}
	if !slices.Contains(impl.EnabledActions(n), a) || impl.NetworkStuck(n) {
		t.Errorf("%s is not enabled in %s", actText(a), networkText(n))
	}
	after, got := impl.ApplyAction(n, a)
	if got != ok || !ok && !isZeroNetwork(after) || impl.NetworkValid(after) != ok {
		t.Errorf("ApplyAction of %s to %s = %v", actText(a), networkText(n), got)
	}
	if other := (impl.Action{Role: roles[role], Peer: current.Peer, Label: "b"}); len(current.Branches) == 2 && !a.Receive {
		if after, ok := impl.ApplyAction(n, other); !ok || !impl.NetworkValid(after) {
			t.Errorf("ApplyAction of %s to %s = %v", actText(other), networkText(n), ok)
		}
	}
}

func TestQueueContents(t *testing.T) {
	n := networkOf(t, [3]string{".", "@A?{a#0}", "."}, "ABab", "ACc", "BAd", "BCaaa", "CAba", "CBdcb")
	for i, from := range roles {
		for j, to := range roles {
			if got, want := impl.QueueContents(n, from, to), []string{"", "ab", "c", "d", "", "aaa", "ba", "dcb", ""}[3*i+j]; got != want {
				t.Errorf("QueueContents from %s to %s = %q, want %q", from, to, got, want)
			}
		}
		for _, other := range []string{"", "D", "a", "AB", "BC", "ABC", " ", "A ", "\x00", "@", strings.Repeat("A", 1<<20)} {
			if a, b := impl.QueueContents(n, from, other), impl.QueueContents(n, other, from); a != "" || b != "" {
				t.Errorf("QueueContents between %s and %s = %q and %q", from, show(other), a, b)
			}
			if got := impl.QueueContents(n, other, other); got != "" {
				t.Errorf("QueueContents from %s to itself = %q", show(other), got)
			}
		}
	}
}

// TestEnabledActions has the wanted actions in their order, and what ends or does not.
func TestEnabledActions(t *testing.T) {
	const finished, stuck = "finished", "stuck"
	for _, c := range []struct {
		locals  [3]string
		queues  []string
		enabled string
		state   string
		strange string
	}{
		{[3]string{".", ".", "."}, nil, "", finished, ""},
		{[3]string{"@.", "@@.", "@@@."}, nil, "", finished, ""},
		// A finished role with messages in flight.
		{[3]string{".", "A?{a.}", "."}, []string{"ABa"}, "B?Aa", "", ""},
		{[3]string{".", ".", "."}, []string{"ABa"}, "", stuck, ""},
		{[3]string{"@.", ".", "."}, []string{"CBabc"}, "", stuck, ""},
		{[3]string{"C?{d.}", ".", "."}, []string{"CAd", "CBb"}, "A?Cd", "", ""},
		// The order: by role, and then by branch.
		{[3]string{"@B!{a#0|b.}", "@A?{a#0|b.}", "."}, nil, "A!Ba A!Bb", "", ""},
		{[3]string{"C!{b.|d.}", "A!{a.|b.|c.|d.}", "B!{c.}"}, nil, "A!Cb A!Cd B!Aa B!Ab B!Ac B!Ad C!Bc", "", ""},
		{[3]string{"B?{a.|b.}", "C?{b.|c.}", "A?{c.|d.}"}, []string{"BAba", "CBcb", "ACd"}, "A?Bb B?Cc C?Ad", "", ""},
		{[3]string{".", "C!{a.|b.}", "B?{a.|b.}"}, []string{"BCb"}, "B!Ca B!Cb C?Bb", "", ""},
		{[3]string{"C!{a.}", "C!{a.}", "B?{a.|b.}"}, []string{"BCb"}, "A!Ca B!Ca C?Bb", "", ""},
		// A full queue, and one with a last free place.
		{[3]string{"B!{a.|b.}", "A?{a.}", "."}, []string{"ABabc"}, "B?Aa", "", ""},
		{[3]string{"B!{a.|b.}", "A?{a.}", "."}, []string{"ABab"}, "A!Ba A!Bb B?Aa", "", ""},
		{[3]string{"B!{a.|b.}", "A?{b.}", "."}, []string{"ABabc"}, "", stuck, "B"},
		{[3]string{"B!{a.}", "C!{a.}", "A!{a.}"}, []string{"ABaaa", "BCaaa", "CAaaa"}, "", stuck, ""},
		{[3]string{"B!{a.}", "C!{a.}", "A!{a.}"}, []string{"BAaaa", "CBaaa", "ACaaa"}, "A!Ba B!Ca C!Aa", "", ""},
		{[3]string{"B!{a.}", "A!{b.}", "."}, []string{"ABaaa", "BAaa"}, "B!Ab", "", ""},
		// A message that arrives before it is awaited.
		{[3]string{".", "C!{c.}", "A?{aB?{c.}}"}, []string{"BCc"}, "B!Cc", "", ""},
		{[3]string{"C!{a.}", ".", "A?{aB?{c.}}"}, []string{"BCc"}, "A!Ca", "", ""},
		{[3]string{".", ".", "A?{aB?{c.}}"}, []string{"BCc"}, "", stuck, ""},
		{[3]string{".", ".", "A?{aB?{c.}}"}, []string{"BCc", "ACa"}, "C?Aa", "", ""},
		{[3]string{".", ".", "A?{b.}"}, []string{"ACab"}, "", stuck, "C"},
		// Only a label that the receiver awaits, and only the oldest.
		{[3]string{".", "@A?{b#0|d.}", "."}, []string{"ABdb"}, "B?Ad", "", ""},
		{[3]string{".", "@A?{b#0|d.}", "."}, []string{"ABad"}, "", stuck, "B"},
		{[3]string{".", "@A?{b#0|d.}", "."}, []string{"BAb", "CBd", "ACd"}, "", stuck, ""},
		{[3]string{".", "@A?{b#0|d.}", "."}, nil, "", stuck, ""},
		{[3]string{"B?{a.}", "A?{a.}", "."}, nil, "", stuck, ""},
		{[3]string{"B?{a.}", "C?{a.}", "A?{a.}"}, []string{"BAb", "CBc", "ACd"}, "", stuck, "ABC"},
		{[3]string{"B?{a.}", "C?{a.}", "A?{a.}"}, []string{"BAb", "CBa", "ACd"}, "B?Ca", "", "AC"},
		{[3]string{"B?{a.}", "A!{b.}", "."}, []string{"BAb"}, "B!Ab", "", "A"},
		{[3]string{"B!{a.}", "A!{b.}", "."}, []string{"BAb", "ABc"}, "A!Ba B!Ab", "", ""},
		{[3]string{".", ".", "."}, []string{"BAb", "ABc"}, "", stuck, ""},
	} {
		n := networkOf(t, c.locals, c.queues...)
		checkNetwork(t, n)
		checkOtherActions(t, n)
		text := networkText(n)
		if got := actTexts(impl.EnabledActions(n)); got != c.enabled {
			t.Errorf("EnabledActions of %s = %s, want %s", text, got, c.enabled)
		}
		if impl.NetworkFinished(n) != (c.state == finished) || impl.NetworkStuck(n) != (c.state == stuck) {
			t.Errorf("%s is finished %v and stuck %v, want %q", text, impl.NetworkFinished(n), impl.NetworkStuck(n), c.state)
		}
		if got := impl.UnexpectedReceivers(n); got != c.strange {
			t.Errorf("UnexpectedReceivers of %s = %q, want %q", text, got, c.strange)
		}
	}
}

func TestApplyAction(t *testing.T) {
	for _, c := range []struct {
		before  [3]string
		queues  []string
		actions string
		after   string
	}{
		{[3]string{"B!{a.|bC?{c.}}", "A?{a.|b.}", "."}, nil, "A!Bb", "C?{c.} A?{a.|b.} . [,b,,,,,,,]"},
		{[3]string{"B!{a.|bC?{c.}}", "A?{a.|b.}", "."}, nil, "A!Ba B?Aa", ". . . [,,,,,,,,]"},
		// The action unfolds the type of its role, and no other type.
		{[3]string{"@B!{aB!{b#0}}", "@A?{aA?{b#0}}", "."}, nil, "A!Ba", "B!{b@B!{aB!{b#0}}} @A?{aA?{b#0}} . [,a,,,,,,,]"},
		{[3]string{"@B!{aB!{b#0}}", "@A?{aA?{b#0}}", "."}, nil, "A!Ba A!Bb", "@B!{aB!{b#0}} @A?{aA?{b#0}} . [,ab,,,,,,,]"},
		{[3]string{"@B!{aB!{b#0}}", "@A?{aA?{b#0}}", "."}, nil, "A!Ba A!Bb B?Aa", "@B!{aB!{b#0}} A?{b@A?{aA?{b#0}}} . [,b,,,,,,,]"},
		{[3]string{"@@C!{a#0|b#1}", ".", "@."}, []string{"ACcc"}, "A!Ca", "@C!{a#0|b@@C!{a#0|b#1}} . @. [,,cca,,,,,,]"},
		{[3]string{"@@C!{a#0|b#1}", ".", "@."}, nil, "A!Ca A!Cb", "@@C!{a#0|b#1} . @. [,,ab,,,,,,]"},
		// The queue is in order: appended at the end, removed from the front.
		{[3]string{"@B!{a#0|b.}", "@A?{a#0|b.}", "."}, nil, "A!Ba A!Ba A!Bb", ". @A?{a#0|b.} . [,aab,,,,,,,]"},
		{[3]string{"@B!{a#0|b.}", "@A?{a#0|b.}", "."}, nil, "A!Ba A!Ba A!Bb B?Aa B?Aa", ". @A?{a#0|b.} . [,b,,,,,,,]"},
		{[3]string{"@B!{a#0|b.}", "@A?{a#0|b.}", "."}, nil, "A!Ba A!Ba A!Bb B?Aa B?Aa B?Ab", ". . . [,,,,,,,,]"},
		{[3]string{"C?{a.}", "@A!{b#0}", "@B!{c#0}"}, []string{"CAabc", "CBdd", "BAcb"}, "A?Ca B!Ab C!Bc", ". @A!{b#0} @B!{c#0} [,,,cbb,,,bc,ddc,]"},
		// A message that arrives before it is awaited stays where it is.
		{[3]string{"C!{a.}", "C!{c.}", "A?{aB?{c.}}"}, nil, "B!Cc A!Ca C?Aa", ". . B?{c.} [,,,,,c,,,]"},
		{[3]string{"C!{a.}", "C!{c.}", "A?{aB?{c.}}"}, nil, "B!Cc A!Ca C?Aa C?Bc", ". . . [,,,,,,,,]"},
		// To the same peer, and from it, at the same time.
		{[3]string{"B!{aB?{b.}}", "A!{bA?{a.}}", "."}, nil, "A!Ba B!Ab A?Bb B?Aa", ". . . [,,,,,,,,]"},
	} {
		n := networkOf(t, c.before, c.queues...)
		for text := range strings.FieldsSeq(c.actions) {
			checkNetwork(t, n)
			next, ok := impl.ApplyAction(n, act(text))
			if !ok {
				t.Fatalf("ApplyAction of %s to %s fails", text, networkText(n))
			}
			n = next
		}
		if got := networkText(n); got != c.after {
			t.Errorf("after %s: %s, want %s", c.actions, got, c.after)
		}
	}
}

// TestNoSuchAction applies actions to networks in which nothing, or something else, is enabled.
func TestNoSuchAction(t *testing.T) {
	for _, n := range []impl.Network{
		networkOf(t, [3]string{".", ".", "."}),
		networkOf(t, [3]string{"@B!{a#0|b.}", "@A?{a#0|b.}", "."}),
		networkOf(t, [3]string{"@B!{a#0|b.}", "@A?{a#0|b.}", "."}, "ABab"),
		networkOf(t, [3]string{"@B!{a#0|b.}", "@A?{a#0|b.}", "."}, "ABaba"),
		networkOf(t, [3]string{"B!{a.}", "A!{b.}", "A!{c.|d.}"}, "BAb", "ABa"),
		networkOf(t, [3]string{"B?{a.|b.|c.|d.}", "A?{a.|b.|c.|d.}", "B?{a.|b.|c.|d.}"}, "BAa", "ABb", "ACc", "BCd"),
	} {
		checkNetwork(t, n)
		checkOtherActions(t, n)
	}
	n := networkOf(t, [3]string{"B!{a.}", ".", "."})
	long := strings.Repeat("A", 1<<22)
	for _, a := range []impl.Action{{}, {Role: long, Peer: "B", Label: "a"}, {Role: "A", Peer: long, Label: "a"}, {Role: "A", Peer: "B", Label: long}} {
		if got, ok := impl.ApplyAction(n, a); ok || !isZeroNetwork(got) {
			t.Errorf("ApplyAction of %s = %s, %v", show(a), show(got), ok)
		}
	}
}

// TestRandomNetworks compares networks whose types and queues need not fit each other with the document.
func TestRandomNetworks(t *testing.T) {
	finished, stuck, unexpected, steps := 0, 0, 0, 0
	for i, n := range randomNetworks(4000) {
		for range 12 {
			if impl.NetworkFinished(n) {
				finished++
			}
			if impl.NetworkStuck(n) {
				stuck++
			}
			if impl.UnexpectedReceivers(n) != "" {
				unexpected++
			}
			if i%100 == 0 {
				checkOtherActions(t, n)
			}
			after := checkNetwork(t, n)
			if len(after) == 0 {
				break
			}
			steps++
			n = after[(i+steps)%len(after)]
		}
	}
	if finished < 5 || stuck < 1000 || unexpected < 1000 || steps < 5000 {
		t.Errorf("only %d finished, %d stuck, %d with unexpected receivers and %d steps", finished, stuck, unexpected, steps)
	}
}

func TestNetworkEqual(t *testing.T) {
	base := networkOf(t, [3]string{"@B!{a#0|b.}", "@A?{a#0|b.}", "."}, "ABab", "CAd")
	none := impl.Network{}
	short := impl.Network{Locals: base.Locals[:2], Queues: base.Queues[:8]}
	wrong := impl.Network{Locals: []impl.Local{again(7), {}, send("", option("x", done()))}, Queues: []string{"x", "", "aaaaaaa", "\x00"}}
	all := []impl.Network{
		base, none, short, wrong,
		{Locals: base.Locals}, {Queues: base.Queues},
		{Locals: base.Locals[:2], Queues: base.Queues}, {Locals: base.Locals, Queues: base.Queues[:8]},
		{Locals: append(slices.Clone(base.Locals), done()), Queues: base.Queues}, {Locals: base.Locals, Queues: append(slices.Clone(base.Queues), "")},
		{Locals: wrong.Locals[:1]}, {Queues: wrong.Queues[:1]}, {Locals: []impl.Local{{}}}, {Queues: []string{""}}, {Queues: []string{"", ""}},
		{Locals: []impl.Local{base.Locals[1], base.Locals[0], base.Locals[2]}, Queues: base.Queues},
	}
	for i := range 9 {
		all = append(all, withQueue(base, i, "c"), withQueue(base, i, "cc"), withQueue(base, i, "x"))
	}
	for i := range 3 {
		all = append(all, withLocal(base, i, local(t, "@C!{a#0|b.}")), withLocal(base, i, unfoldedLocal(local(t, "@C!{a#0|b.}"))), withLocal(base, i, impl.Local{}))
	}
	for i, a := range all {
		for j, b := range all {
			// A copy has no memory in common with the original.
			c := impl.Network{Queues: append([]string{}, b.Queues...)}
			for _, l := range b.Locals {
				c.Locals = append(c.Locals, spaciousLocal(l))
			}
			if impl.NetworkEqual(a, b) != (i == j) || impl.NetworkEqual(a, c) != (i == j) || impl.NetworkEqual(c, a) != (i == j) {
				t.Errorf("NetworkEqual of %s and %s is not %v", show(a), show(b), i == j)
			}
		}
	}
	if !impl.NetworkEqual(none, impl.Network{Locals: []impl.Local{}, Queues: []string{}}) {
		t.Error("NetworkEqual distinguishes nil and empty slices")
	}
	equivalent := withLocal(base, 0, unfoldedLocal(base.Locals[0]))
	if impl.NetworkEqual(base, equivalent) || impl.NetworkEqual(equivalent, base) {
		t.Error("NetworkEqual takes equivalent types as equal")
	}
}
