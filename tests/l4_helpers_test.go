package tests

import (
	"math/rand"
	"slices"
	"strings"
	"testing"

	"loop.example/sessiontypes/impl"
)

// act returns the action that a text such as A!Ba or B?Aa describes.
func act(text string) impl.Action {
	return impl.Action{Role: text[:1], Receive: text[1] == '?', Peer: text[2:3], Label: text[3:]}
}

// actText describes an action as act reads it.
func actText(a impl.Action) string {
	mark := "!"
	if a.Receive {
		mark = "?"
	}
	return a.Role + mark + a.Peer + a.Label
}

func actTexts(list []impl.Action) string {
	var texts []string
	for _, a := range list {
		texts = append(texts, actText(a))
	}
	return strings.Join(texts, " ")
}

// queuesOf returns nine queues. Each of the given texts names two roles, and then the labels: ABaab.
func queuesOf(texts ...string) []string {
	queues := make([]string, 9)
	for _, text := range texts {
		queues[place9(text[:1], text[1:2])] = text[2:]
	}
	return queues
}

// place9 is the place of the queue between two roles.
func place9(from, to string) int {
	return slices.Index([]string{"AA", "AB", "AC", "BA", "BB", "BC", "CA", "CB", "CC"}, from+to)
}

// networkOf returns the network with the local types of three texts, and queues as queuesOf does.
func networkOf(t *testing.T, locals [3]string, queues ...string) impl.Network {
	t.Helper()
	n := impl.Network{Queues: queuesOf(queues...)}
	for _, text := range locals {
		n.Locals = append(n.Locals, local(t, text))
	}
	return n
}

// withLocal returns n with the local type of one role replaced.
func withLocal(n impl.Network, role int, l impl.Local) impl.Network {
	n.Locals = slices.Clone(n.Locals)
	n.Locals[role] = l
	return n
}

// withQueue returns n with one queue replaced.
func withQueue(n impl.Network, queue int, labels string) impl.Network {
	n.Queues = slices.Clone(n.Queues)
	n.Queues[queue] = labels
	return n
}

func isZeroNetwork(n impl.Network) bool { return len(n.Locals) == 0 && len(n.Queues) == 0 }

// networkText describes a network of small trees.
func networkText(n impl.Network) string {
	var parts []string
	for _, l := range n.Locals {
		parts = append(parts, textOfLocal(l))
	}
	return strings.Join(parts, " ") + " [" + strings.Join(n.Queues, ",") + "]"
}

// fits checks a local type of a role, which is a small tree, by the definition in the document.
func fits(l impl.Local, role string) bool {
	return validLocal(l) && validLocal(unfoldedLocal(l)) && !strings.Contains(textOfLocal(l), role)
}

// validNetwork checks a network of small trees by the definition in the document.
func validNetwork(n impl.Network) bool {
	if len(n.Locals) != 3 || len(n.Queues) != 9 {
		return false
	}
	for i, l := range n.Locals {
		if !fits(l, roles[i]) {
			return false
		}
	}
	for i, queue := range n.Queues {
		if len(queue) > 3 || i%4 == 0 && queue != "" {
			return false
		}
		for j := range len(queue) {
			if queue[j] < 'a' || queue[j] > 'd' {
				return false
			}
		}
	}
	return true
}

// enabledByRules finds the enabled actions of a valid network by the definition in the document.
func enabledByRules(n impl.Network) []impl.Action {
	var list []impl.Action
	for i, role := range roles {
		l := unfoldedLocal(n.Locals[i])
		for _, b := range l.Branches {
			switch l.Kind {
			case impl.LocalSend:
				if len(n.Queues[place9(role, l.Peer)]) < 3 {
					list = append(list, impl.Action{Role: role, Peer: l.Peer, Label: b.Label})
				}
			case impl.LocalReceive:
				if strings.HasPrefix(n.Queues[place9(l.Peer, role)], b.Label) {
					list = append(list, impl.Action{Role: role, Receive: true, Peer: l.Peer, Label: b.Label})
				}
			}
		}
	}
	return list
}

// appliedByRules performs an enabled action by the definition in the document.
func appliedByRules(n impl.Network, a impl.Action) (impl.Network, bool) {
	role := slices.Index(roles, a.Role)
	next, _ := nextLocal(unfoldedLocal(n.Locals[role]), a.Label)
	n = withLocal(n, role, next)
	if a.Receive {
		queue := place9(a.Peer, a.Role)
		n = withQueue(n, queue, n.Queues[queue][1:])
	} else {
		queue := place9(a.Role, a.Peer)
		n = withQueue(n, queue, n.Queues[queue]+a.Label)
	}
	return n, validNetwork(n)
}

// finishedByRules decides whether a valid network is finished.
func finishedByRules(n impl.Network) bool {
	for _, l := range n.Locals {
		if unfoldedLocal(l).Kind != impl.LocalEnd {
			return false
		}
	}
	return strings.Join(n.Queues, "") == ""
}

// unexpectedByRules finds the unexpected receivers of a valid network.
func unexpectedByRules(n impl.Network) string {
	found := ""
	for i, role := range roles {
		l := unfoldedLocal(n.Locals[i])
		if l.Kind != impl.LocalReceive {
			continue
		}
		if queue := n.Queues[place9(l.Peer, role)]; queue != "" {
			if _, expected := nextLocal(l, queue[:1]); !expected {
				found += role
			}
		}
	}
	return found
}

// checkNetwork compares all functions for a valid network of small trees with
// the document. It returns the networks after the enabled actions.
func checkNetwork(t *testing.T, n impl.Network) []impl.Network {
	t.Helper()
	text := networkText(n)
	if !impl.NetworkValid(n) {
		t.Errorf("%s is not valid", text)
	}
	enabled := enabledByRules(n)
	if got := impl.EnabledActions(n); !slices.Equal(got, enabled) {
		t.Errorf("EnabledActions of %s = %s, want %s", text, actTexts(got), actTexts(enabled))
	}
	finished := finishedByRules(n)
	if got := impl.NetworkFinished(n); got != finished {
		t.Errorf("NetworkFinished of %s = %v", text, got)
	}
	if got := impl.NetworkStuck(n); got != (!finished && len(enabled) == 0) {
		t.Errorf("NetworkStuck of %s = %v", text, got)
	}
	if got, want := impl.UnexpectedReceivers(n), unexpectedByRules(n); got != want {
		t.Errorf("UnexpectedReceivers of %s = %q, want %q", text, got, want)
	}
	for i, from := range roles {
		for j, to := range roles {
			if got := impl.QueueContents(n, from, to); got != n.Queues[3*i+j] {
				t.Errorf("QueueContents of %s from %s to %s = %q", text, from, to, got)
			}
		}
	}
	var after []impl.Network
	for _, a := range enabled {
		want, ok := appliedByRules(n, a)
		if !ok {
			want = impl.Network{}
		}
		got, gotOk := impl.ApplyAction(n, a)
		if gotOk != ok || networkText(got) != networkText(want) {
			t.Errorf("ApplyAction of %s to %s = %s, %v, want %s, %v", actText(a), text, show(got), gotOk, show(want), ok)
		}
		if ok {
			after = append(after, got)
		}
	}
	return after
}

// anyActions returns actions with all combinations of some fields, most of which fit nothing.
func anyActions() []impl.Action {
	var list []impl.Action
	names := []string{"A", "B", "C", "", "D", "a", "AB", "A "}
	for _, role := range names {
		for _, peer := range names {
			for _, label := range []string{"a", "b", "c", "d", "", "e", "A", "aa", "ab", "a\x00"} {
				list = append(list, impl.Action{Role: role, Peer: peer, Label: label}, impl.Action{Role: role, Receive: true, Peer: peer, Label: label})
			}
		}
	}
	return list
}

// checkOtherActions requires that ApplyAction accepts no action that is not enabled in n.
func checkOtherActions(t *testing.T, n impl.Network) {
	t.Helper()
	enabled := enabledByRules(n)
	for _, a := range anyActions() {
		if slices.Contains(enabled, a) {
			continue
		}
		if got, ok := impl.ApplyAction(n, a); ok || !isZeroNetwork(got) {
			t.Errorf("ApplyAction of %+v to %s = %s, %v", a, networkText(n), show(got), ok)
		}
	}
}

// checkInvalidNetwork requires the results for a network that is not valid.
func checkInvalidNetwork(t *testing.T, what string, n impl.Network) {
	t.Helper()
	if impl.NetworkValid(n) || impl.NetworkFinished(n) || impl.NetworkStuck(n) {
		t.Errorf("%s: the network is valid, finished or stuck", what)
	}
	if list, receivers := impl.EnabledActions(n), impl.UnexpectedReceivers(n); len(list) != 0 || receivers != "" {
		t.Errorf("%s: %s, and %q receive an unexpected label", what, actTexts(list), receivers)
	}
	for _, from := range roles {
		for _, to := range roles {
			if got := impl.QueueContents(n, from, to); got != "" {
				t.Errorf("%s: the queue from %s to %s is %q", what, from, to, got)
			}
			for _, receive := range []bool{false, true} {
				a := impl.Action{Role: from, Receive: receive, Peer: to, Label: "a"}
				if got, ok := impl.ApplyAction(n, a); ok || !isZeroNetwork(got) {
					t.Errorf("%s: ApplyAction of %s = %s, %v", what, actText(a), show(got), ok)
				}
			}
		}
	}
}

// randomLocalOf returns a type that the role can have.
func randomLocalOf(r *rand.Rand, role int, depth int) impl.Local {
	for {
		l := randomLocal(r, depth, 0, 0)
		if fits(l, roles[role]) {
			return l
		}
	}
}

// randomNetworks returns valid networks with types and queues that need not
// fit each other, the same ones in each run.
func randomNetworks(n int) []impl.Network {
	r := rand.New(rand.NewSource(9))
	var list []impl.Network
	for len(list) < n {
		network := impl.Network{Queues: make([]string, 9)}
		for role := range roles {
			network.Locals = append(network.Locals, randomLocalOf(r, role, 2+r.Intn(4)))
		}
		for i := range network.Queues {
			for i%4 != 0 && len(network.Queues[i]) < 3 && r.Intn(2) == 0 {
				network.Queues[i] += string("abcd"[r.Intn(4)])
			}
		}
		list = append(list, network)
	}
	return list
}
