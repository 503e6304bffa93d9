package tests

import (
	"strings"
	"testing"

	"loop.example/sessiontypes/impl"
)

// spaciousNetwork copies n into slices with more capacity than length, and marks what lies behind the length.
func spaciousNetwork(n impl.Network) impl.Network {
	locals := make([]impl.Local, 0, len(n.Locals)+2)
	for _, l := range n.Locals {
		locals = append(locals, spaciousLocal(l))
	}
	queues := append(make([]string, 0, len(n.Queues)+2), n.Queues...)
	for i := len(locals); i < cap(locals); i++ {
		locals[:cap(locals)][i].Peer = "beyond"
	}
	for i := len(queues); i < cap(queues); i++ {
		queues[:cap(queues)][i] = "beyond"
	}
	return impl.Network{Locals: locals, Queues: queues}
}

// markedNetwork reports whether everything behind the lengths of the slices is still marked.
func markedNetwork(n impl.Network) bool {
	for i, l := range n.Locals[:cap(n.Locals)] {
		if i < len(n.Locals) && !markedLocal(l) || i >= len(n.Locals) && l.Peer != "beyond" {
			return false
		}
	}
	for _, queue := range n.Queues[:cap(n.Queues)][len(n.Queues):] {
		if queue != "beyond" {
			return false
		}
	}
	return true
}

// memory has the elements of slices, up to their capacity.
type memory struct {
	branches map[*impl.LocalBranch]bool
	others   map[any]bool
}

func newMemory() memory { return memory{map[*impl.LocalBranch]bool{}, map[any]bool{}} }

// addNetwork adds the elements of all slices of n, and reports whether none of them was there before.
func (m memory) addNetwork(n impl.Network) bool {
	separate := true
	for i := range n.Locals[:cap(n.Locals)] {
		element := &n.Locals[:cap(n.Locals)][i]
		separate = separate && !m.others[element] && localElements(*element, m.branches)
		m.others[element] = true
	}
	for i := range n.Queues[:cap(n.Queues)] {
		element := &n.Queues[:cap(n.Queues)][i]
		separate = separate && !m.others[element]
		m.others[element] = true
	}
	return separate
}

// addActions adds the elements of a list of actions, and reports whether none of them was there before.
func (m memory) addActions(list []impl.Action) bool {
	separate := true
	for i := range list[:cap(list)] {
		element := &list[:cap(list)][i]
		separate = separate && !m.others[element]
		m.others[element] = true
	}
	return separate
}

func TestNetworkMemory(t *testing.T) {
	list := randomNetworks(300)
	for _, g := range randomProtocols(200) {
		if n, ok := start(t, g); ok {
			list = append(list, n)
		}
	}
	for i, original := range list {
		n, other := spaciousNetwork(original), spaciousNetwork(list[(i+1)%len(list)])
		all := newMemory()
		if !all.addNetwork(n) {
			t.Fatal("the argument shares memory with itself")
		}
		impl.NetworkValid(n)
		impl.NetworkFinished(n)
		impl.NetworkStuck(n)
		impl.UnexpectedReceivers(n)
		impl.NetworkEqual(n, other)
		impl.QueueContents(n, "A", "B")
		for range 2 {
			enabled := impl.EnabledActions(n)
			if !all.addActions(enabled) {
				t.Errorf("EnabledActions of %s share memory", networkText(original))
			}
			for _, a := range enabled {
				if next, _ := impl.ApplyAction(n, a); !all.addNetwork(next) {
					t.Errorf("the network after %s in %s shares memory", actText(a), networkText(original))
				}
			}
			if started, _ := impl.NewNetwork(n.Locals); !all.addNetwork(started) {
				t.Errorf("NewNetwork of %s shares memory", networkText(original))
			}
		}
		if networkText(n) != networkText(original) || !markedNetwork(n) || !markedNetwork(other) || networkText(other) != networkText(list[(i+1)%len(list)]) {
			t.Errorf("%s or the network after it was modified", networkText(original))
		}
	}
}

// TestSharedNetworkMemory passes networks with the same memory in several places, and results may not have it.
func TestSharedNetworkMemory(t *testing.T) {
	branches := []impl.LocalBranch{option("a", done()), option("b", done())}
	l := impl.Local{Kind: impl.LocalSend, Peer: "C", Branches: branches}
	double := send("C", option("a", l), option("b", l))
	for _, locals := range [][]impl.Local{{l, l, done()}, {double, double, done()}, {loop(double), double, done()}} {
		n, ok := impl.NewNetwork(locals)
		if !ok || !newMemory().addNetwork(n) {
			t.Errorf("NewNetwork(%s) shares memory", show(locals))
		}
		shared := impl.Network{Locals: locals, Queues: make([]string, 9)}
		for _, a := range impl.EnabledActions(shared) {
			if next, ok := impl.ApplyAction(shared, a); !ok || !newMemory().addNetwork(next) {
				t.Errorf("the network after %s in %s shares memory", actText(a), networkText(shared))
			}
		}
	}
}

// TestNetworkKeepsNoState calls the functions in another order and at the same time.
func TestNetworkKeepsNoState(t *testing.T) {
	list := randomNetworks(200)
	results := func(i int) string {
		n := list[i]
		text := actTexts(impl.EnabledActions(n)) + impl.UnexpectedReceivers(n) + show([]bool{impl.NetworkFinished(n), impl.NetworkStuck(n)})
		for _, a := range impl.EnabledActions(n) {
			next, ok := impl.ApplyAction(n, a)
			text += networkText(next) + show(ok) + show(impl.NetworkEqual(n, next))
		}
		started, _ := impl.NewNetwork(n.Locals)
		return text + networkText(started)
	}
	keepsNoState(t, len(list), results)
}

// TestReadinessIsNotVisible asks many times, because several roles are ready at once.
func TestReadinessIsNotVisible(t *testing.T) {
	for _, n := range []impl.Network{
		networkOf(t, [3]string{"B!{a.|b.}", "A?{a.|b.}", "@A!{c#0}"}, "ABab"),
		networkOf(t, [3]string{"B!{a.|b.}", "A?{a.|b.}", "@A!{c#0}"}),
		networkOf(t, [3]string{"B!{a.|b.}", "A?{a.|b.}", "@A!{c#0}"}, "ABbba", "CAaaa"),
		networkOf(t, [3]string{"B!{a.}", "C!{b.}", "A!{c.|d.}"}, "BAb", "ABa"),
		networkOf(t, [3]string{"B?{a.}", "C?{b.}", "A?{d.}"}, "BAa", "CBb", "ACc"),
	} {
		want := actTexts(enabledByRules(n))
		for range 500 {
			if got := actTexts(impl.EnabledActions(n)); got != want || impl.UnexpectedReceivers(n) != unexpectedByRules(n) {
				t.Fatalf("EnabledActions of %s = %s, want %s", networkText(n), got, want)
			}
		}
	}
}

// TestUnusualNetworkMemory passes local types that contain themselves, or that are far larger than their memory.
func TestUnusualNetworkMemory(t *testing.T) {
	base := networkOf(t, [3]string{".", ".", "."}, "ABa", "CBb")
	loopsOnly := impl.Local{Kind: impl.LocalRec, Branches: make([]impl.LocalBranch, 1)}
	loopsOnly.Branches[0].Next = loopsOnly
	for _, l := range []impl.Local{localCycle(1, "B"), localCycle(3, "B"), loopsOnly, sharedLocal(200, done()), sharedLocal(38, loop(done())),
		sends(1000000, done()), loops(1000000, done()), receive("B", option("a", done()), option("b", localCycle(2, "B")))} {
		for role := range roles {
			n := withLocal(base, role, l)
			returns(t, "a function", func() {
				checkInvalidNetwork(t, "a large type", n)
				if started, ok := impl.NewNetwork(n.Locals); ok || !isZeroNetwork(started) {
					t.Error("NewNetwork accepts a large type")
				}
				if !impl.NetworkEqual(n, n) || impl.NetworkEqual(n, base) || impl.NetworkEqual(base, n) {
					t.Error("a network is not equal only to itself")
				}
			})
		}
	}
	// The unfolding of such a type would not fit in any memory.
	n := withLocal(base, 2, growing(12))
	returns(t, "a function", func() { checkInvalidNetwork(t, "a growing type", n) })
	long := withQueue(base, 1, strings.Repeat("a", 1<<22))
	if !impl.NetworkEqual(long, withQueue(base, 1, strings.Repeat("a", 1<<22))) || impl.NetworkEqual(long, withQueue(base, 1, strings.Repeat("a", 1<<22-1)+"b")) {
		t.Error("NetworkEqual of long queues")
	}
}
