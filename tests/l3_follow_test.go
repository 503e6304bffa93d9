package tests

import (
	"testing"

	"loop.example/sessiontypes/impl"
)

// follow runs the roles of the local types along all messages of the global
// type, up to n of them, and returns the first thing that does not follow.
// Only the two roles of a message proceed.
func follow(g place, locals [3]spot, n int) string {
	g = g.head()
	if g.node.Kind == impl.GlobalEnd {
		for i, l := range locals {
			if l.head().node.Kind != impl.LocalEnd {
				return roles[i] + " is not finished at the end"
			}
		}
		return ""
	}
	from, to := int(g.node.From[0]-'A'), int(g.node.To[0]-'A')
	sender, receiver := locals[from].head(), locals[to].head()
	switch {
	case sender.node.Kind != impl.LocalSend || sender.node.Peer != g.node.To:
		return g.node.From + " does not send to " + g.node.To
	case receiver.node.Kind != impl.LocalReceive || receiver.node.Peer != g.node.From:
		return g.node.To + " does not receive from " + g.node.From
	case len(sender.node.Branches) != len(g.node.Branches):
		return g.node.From + " has other labels than the message"
	case n == 0:
		return ""
	}
	for i, b := range g.node.Branches {
		received, ok := nextLocal(receiver.node, b.Label)
		if sender.node.Branches[i].Label != b.Label || !ok {
			return "the label " + b.Label + " is not sent or not received"
		}
		after := locals
		after[from] = spot{sender.node.Branches[i].Next, sender.around}
		after[to] = spot{received, receiver.around}
		if problem := follow(place{b.Next, g.around}, after, n-1); problem != "" {
			return b.Label + ": " + problem
		}
	}
	return ""
}

// projections returns what ProjectAll does, as the start of follow, and whether there are projections.
func projections(t *testing.T, g impl.Global) (locals [3]spot, ok bool) {
	t.Helper()
	all, ok := impl.ProjectAll(g)
	if !ok {
		return locals, false
	}
	for i := range locals {
		locals[i].node = all[i]
	}
	return locals, true
}

// TestProjectionsFollowMessages is about promise 3.
func TestProjectionsFollowMessages(t *testing.T) {
	list := append(randomProtocols(3000), allGlobals(5, 0, 0, "AB", "AC", "BA", "BC", "CA", "CB")...)
	list = append(list, allGlobals(7, 0, 0, "AB", "BC")...)
	for _, text := range []string{
		"@AB{a#0|b.}", "AB{aBC{cCA{d.}}|bBC{d.}}", "@AB{aBC{a#0}|bBC{b.}}", "@AB{a@AC{a#1}}", "@AB{aAC{aCB{a#0}}|bAC{bCB{b#0}}|c@AC{cCB{c#1}}}",
	} {
		list = append(list, parsed(t, text))
	}
	followed := 0
	for _, g := range list {
		if locals, ok := projections(t, g); ok {
			followed++
			if problem := follow(place{node: g}, locals, 7); problem != "" {
				t.Errorf("%q: %s", textOf(g), problem)
			}
		}
	}
	if followed < 5000 {
		t.Errorf("only %d types have projections", followed)
	}
}

// TestProjectionsAfterMessages is about promise 3: after a message, its roles
// follow the rest of the global type, and so does the third role, which may
// have more labels that it can receive.
func TestProjectionsAfterMessages(t *testing.T) {
	steps := 0
	for _, g := range append(randomProtocols(3000), allGlobals(5, 0, 0, "AB", "AC", "BC", "CB")...) {
		before, ok := impl.ProjectAll(g)
		if !ok {
			continue
		}
		for n := 0; n < 4; n++ {
			unfolded, _ := impl.UnfoldGlobal(g)
			if unfolded.Kind != impl.GlobalMessage {
				break
			}
			label := unfolded.Branches[n%len(unfolded.Branches)].Label
			next, ok := impl.StepGlobal(g, label)
			if !ok {
				break
			}
			after, ok := impl.ProjectAll(next)
			if !ok {
				t.Errorf("%q, after %s, has no projections onto %s", textOf(g), label, impl.UnprojectableRoles(next))
				break
			}
			steps++
			for i, role := range roles {
				if role != unfolded.From && role != unfolded.To {
					if !impl.IsSubtype(before[i], after[i]) {
						t.Errorf("%s in %q: %q is not a subtype of %q", role, textOf(g), textOfLocal(before[i]), textOfLocal(after[i]))
					}
					continue
				}
				if l, ok := impl.StepLocal(before[i], label); !ok || !impl.LocalEquivalent(l, after[i]) {
					t.Errorf("%s in %q: %q, after %s, is not %q", role, textOf(g), textOfLocal(before[i]), label, textOfLocal(after[i]))
				}
			}
			g, before = next, after
		}
	}
	if steps < 5000 {
		t.Errorf("only %d steps", steps)
	}
}
