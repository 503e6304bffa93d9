package tests

import (
	"math/big"
	"math/rand"
	"slices"
	"strings"
	"testing"

	"loop.example/sessiontypes/impl"
)

// acts returns the actions of a text such as A!Ba B?Aa.
func acts(text string) []impl.Action {
	var list []impl.Action
	for field := range strings.FieldsSeq(text) {
		list = append(list, act(field))
	}
	return list
}

// protocolNetwork returns the network of the projections of the global type with the text.
func protocolNetwork(t *testing.T, text string) impl.Network {
	t.Helper()
	n, ok := start(t, parsed(t, text))
	if !ok {
		t.Fatalf("no network of %q", text)
	}
	return n
}

// sameNetwork is NetworkEqual for networks of small trees.
func sameNetwork(a, b impl.Network) bool {
	return slices.EqualFunc(a.Locals, b.Locals, sameLocal) && slices.Equal(a.Queues, b.Queues)
}

// runByRules executes a valid network by the definition in the document.
func runByRules(n impl.Network, choices []int) (impl.Network, []impl.Action) {
	var trace []impl.Action
	for _, choice := range choices[:min(len(choices), 24)] {
		enabled := enabledByRules(n)
		if len(enabled) == 0 {
			break
		}
		// The modulus of big numbers is never negative.
		index := new(big.Int).Mod(big.NewInt(int64(choice)), big.NewInt(int64(len(enabled))))
		a := enabled[index.Int64()]
		next, ok := appliedByRules(n, a)
		if !ok {
			break
		}
		n, trace = next, append(trace, a)
	}
	return n, trace
}

// checkRun compares RunChoices with the document for a valid network, and
// requires what promise 5 says of the trace and of each of its beginnings.
func checkRun(t *testing.T, n impl.Network, choices []int) []impl.Action {
	t.Helper()
	text := networkText(n)
	wantLast, want := runByRules(n, choices)
	last, trace := impl.RunChoices(n, choices)
	if !slices.Equal(trace, want) || !sameNetwork(last, wantLast) {
		t.Errorf("RunChoices of %s with %s = %s, %s, want %s, %s", text, show(choices), networkText(last), actTexts(trace), networkText(wantLast), actTexts(want))
	}
	current := n
	for i := range trace {
		if got, ok := impl.ReplayTrace(n, trace[:i]); !ok || !sameNetwork(got, current) {
			t.Errorf("ReplayTrace of %s in %s = %s, %v", actTexts(trace[:i]), text, show(got), ok)
		}
		current, _ = appliedByRules(current, trace[i])
	}
	if got, ok := impl.ReplayTrace(n, trace); !ok || !impl.NetworkEqual(got, last) {
		t.Errorf("ReplayTrace of %s in %s = %s, %v", actTexts(trace), text, show(got), ok)
	}
	if got, ok := impl.ParseTrace(impl.FormatTrace(trace)); !ok || !slices.Equal(got, trace) {
		t.Errorf("ParseTrace of the text of %s = %s, %v", actTexts(trace), actTexts(got), ok)
	}
	return trace
}

// reached is a configuration, with the actions by which it was found.
type reached struct {
	network impl.Network
	trace   []impl.Action
}

func (r reached) stuck() bool {
	return !finishedByRules(r.network) && len(enabledByRules(r.network)) == 0
}

func (r reached) wrong() bool { return r.stuck() || unexpectedByRules(r.network) != "" }

// exploreByRules explores a valid network by the definition in the document.
func exploreByRules(n impl.Network, limit int) (found []reached, complete bool) {
	found = []reached{{network: n}}
	for i := 0; i < len(found); i++ {
		for _, a := range enabledByRules(found[i].network) {
			next, ok := appliedByRules(found[i].network, a)
			if !ok || slices.ContainsFunc(found, func(r reached) bool { return sameNetwork(r.network, next) }) {
				continue
			}
			if len(found) == limit {
				return found, false
			}
			found = append(found, reached{next, append(slices.Clip(found[i].trace), a)})
		}
	}
	return found, true
}

// checkExploration compares the functions for a valid network and a valid limit with the document.
func checkExploration(t *testing.T, n impl.Network, limit int) (found []reached, complete bool) {
	t.Helper()
	text := networkText(n)
	found, complete = exploreByRules(n, limit)
	stuck := 0
	for _, r := range found {
		if r.stuck() {
			stuck++
		}
	}
	if a, b, c := impl.CountStates(n, limit); a != len(found) || b != stuck || c != complete {
		t.Errorf("CountStates of %s up to %d = %d, %d, %v, want %d, %d, %v", text, limit, a, b, c, len(found), stuck, complete)
	}
	trace, ok := impl.FindCounterexample(n, limit)
	i := slices.IndexFunc(found, reached.wrong)
	if ok != (i >= 0) || ok && !slices.Equal(trace, found[i].trace) || !ok && len(trace) > 0 {
		t.Errorf("FindCounterexample of %s up to %d = %s, %v", text, limit, actTexts(trace), ok)
	}
	if ok {
		checkReal(t, n, trace)
	}
	return found, complete
}

// checkReal requires what promise 5 says of a counterexample: the actions are
// possible, and lead to a configuration that is stuck or in which a role
// receives an unexpected message.
func checkReal(t *testing.T, n impl.Network, trace []impl.Action) {
	t.Helper()
	last, ok := n, true
	for _, a := range trace {
		if impl.NetworkStuck(last) || impl.UnexpectedReceivers(last) != "" {
			t.Errorf("%s in %s: there is an earlier counterexample before %s", actTexts(trace), networkText(n), actText(a))
		}
		if last, ok = impl.ApplyAction(last, a); !ok {
			t.Errorf("%s in %s: %s is not possible", actTexts(trace), networkText(n), actText(a))
		}
	}
	if !impl.NetworkStuck(last) && impl.UnexpectedReceivers(last) == "" {
		t.Errorf("%s in %s is not a counterexample", actTexts(trace), networkText(n))
	}
	replayed, ok := impl.ReplayTrace(n, trace)
	if ok != (len(trace) <= 24) || ok && !sameNetwork(replayed, last) {
		t.Errorf("ReplayTrace of %s in %s = %s, %v", actTexts(trace), networkText(n), show(replayed), ok)
	}
}

// checkNoExploration requires the results for a network that is not valid, or
// for a limit that is not.
func checkNoExploration(t *testing.T, what string, n impl.Network, limit int) {
	t.Helper()
	if states, stuck, complete := impl.CountStates(n, limit); states != 0 || stuck != 0 || complete {
		t.Errorf("%s: CountStates up to %d = %d, %d, %v", what, limit, states, stuck, complete)
	}
	if trace, ok := impl.FindCounterexample(n, limit); ok || len(trace) != 0 {
		t.Errorf("%s: FindCounterexample up to %d = %s, %v", what, limit, actTexts(trace), ok)
	}
}

// checkNoRun requires the results of all functions for a network that is not valid.
func checkNoRun(t *testing.T, what string, n impl.Network) {
	t.Helper()
	for _, choices := range [][]int{nil, {}, {0}, {0, 1, -1}, make([]int, 30)} {
		if last, trace := impl.RunChoices(n, choices); !isZeroNetwork(last) || len(trace) != 0 {
			t.Errorf("%s: RunChoices with %s = %s, %s", what, show(choices), show(last), actTexts(trace))
		}
	}
	for _, trace := range [][]impl.Action{nil, {}, acts("A!Ba"), acts("A!Ba B?Aa")} {
		if last, ok := impl.ReplayTrace(n, trace); ok || !isZeroNetwork(last) {
			t.Errorf("%s: ReplayTrace of %s = %s, %v", what, actTexts(trace), show(last), ok)
		}
	}
	for _, limit := range []int{-1, 0, 1, 5, 80, 81} {
		checkNoExploration(t, what, n, limit)
	}
}

// invalidNetworks returns networks that are not valid, each by another condition.
func invalidNetworks(t *testing.T) []impl.Network {
	t.Helper()
	base := networkOf(t, [3]string{"@B!{a#0|b.}", "@A?{a#0|b.}", "."})
	full := append(slices.Clone(base.Locals), done())
	list := []impl.Network{
		{}, {Locals: base.Locals}, {Queues: base.Queues},
		{Locals: base.Locals[:2], Queues: base.Queues}, {Locals: full, Queues: base.Queues},
		{Locals: base.Locals, Queues: base.Queues[:8]}, {Locals: base.Locals, Queues: make([]string, 10)},
		withQueue(base, 0, "a"), withQueue(base, 4, "b"), withQueue(base, 8, "c"),
		withQueue(base, 1, "aaaa"), withQueue(base, 7, "e"), withQueue(base, 5, "a "), withQueue(base, 2, "\x00"),
		withQueue(base, 3, strings.Repeat("a", 1<<20)),
	}
	for role, own := range roles {
		other := roles[(role+1)%3]
		list = append(list, withLocal(base, role, impl.Local{}), withLocal(base, role, again(0)), withLocal(base, role, loop(again(0))),
			withLocal(base, role, send(own, option("a", done()))), withLocal(base, role, receive(other)),
			withLocal(base, role, sizedFor(other, 401)), withLocal(base, role, deepFor(other, 41)))
		for _, l := range foldedTypes(other, false) {
			list = append(list, withLocal(base, role, l))
		}
	}
	return list
}

// randomChoices returns choices of which some are negative, far away or next to the limits of integers.
func randomChoices(r *rand.Rand, n int) []int {
	var choices []int
	for range n {
		choice := r.Intn(40) - 20
		switch r.Intn(8) {
		case 0:
			choice = int(r.Uint64())
		case 1:
			choice = -1<<63 + r.Intn(12)
		case 2:
			choice = 1<<63 - 1 - r.Intn(12)
		}
		choices = append(choices, choice)
	}
	return choices
}

// damaged returns l with a change somewhere: another label, a branch less, another peer, another kind or an early end.
func damaged(r *rand.Rand, l impl.Local) impl.Local {
	if len(l.Branches) == 0 {
		return done()
	}
	l.Branches = slices.Clone(l.Branches)
	i := r.Intn(len(l.Branches))
	if l.Kind == impl.LocalRec || r.Intn(3) > 0 {
		l.Branches[i].Next = damaged(r, l.Branches[i].Next)
		return l
	}
	switch last := len(l.Branches) - 1; r.Intn(5) {
	case 0:
		l.Branches[last].Label = "d"
	case 1:
		if last > 0 {
			l.Branches = slices.Delete(l.Branches, i, i+1)
		}
	case 2:
		l.Peer = roles[r.Intn(3)]
	case 3:
		l.Kind = impl.LocalSend + impl.LocalReceive - l.Kind
	case 4:
		l.Branches[i].Next = done()
	}
	return l
}

// damagedNetworks returns networks of which most do not do what some protocol says, the same ones in each run.
func damagedNetworks(t *testing.T, n int) []impl.Network {
	t.Helper()
	r := rand.New(rand.NewSource(12))
	protocols := randomProtocols(n)
	var list []impl.Network
	for len(list) < n {
		network, ok := start(t, protocols[r.Intn(len(protocols))])
		if !ok {
			continue
		}
		role := r.Intn(3)
		if network = withLocal(network, role, damaged(r, network.Locals[role])); validNetwork(network) {
			list = append(list, network)
		}
	}
	return list
}

// mixedNetworks returns the given numbers of networks that are random, that are
// damaged, and that belong to protocols. Of the last, a few are missing.
func mixedNetworks(t *testing.T, random, damaged, projected int) []impl.Network {
	t.Helper()
	list := append(randomNetworks(random), damagedNetworks(t, damaged)...)
	for _, g := range randomProtocols(projected) {
		if n, ok := start(t, g); ok {
			list = append(list, n)
		}
	}
	return list
}
