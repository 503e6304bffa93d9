package tests

import (
	"math/rand"
	"strings"

	"loop.example/sessiontypes/impl"
)

// roles has the roles in order.
var roles = []string{"A", "B", "C"}

// mergeByRules merges two small trees by the definition in the document.
func mergeByRules(a, b impl.Local) (impl.Local, bool) {
	if sameLocal(a, b) {
		return a, true
	}
	if a.Kind != b.Kind || a.Peer != b.Peer || a.Kind == impl.LocalEnd || a.Kind == impl.LocalVar {
		return impl.Local{}, false
	}
	merged := impl.Local{Kind: a.Kind, Peer: a.Peer}
	for _, label := range []string{"", "a", "b", "c", "d"} {
		next, inA := nextLocal(a, label)
		nextB, inB := nextLocal(b, label)
		if inA != inB && a.Kind != impl.LocalReceive {
			return impl.Local{}, false
		}
		both := true
		switch {
		case inA && inB:
			next, both = mergeByRules(next, nextB)
		case inB:
			next = nextB
		}
		if !both {
			return impl.Local{}, false
		}
		if inA || inB {
			merged.Branches = append(merged.Branches, option(label, next))
		}
	}
	return merged, true
}

// refersOutside reports whether a variable in g refers to a recursion around g,
// if recs recursions lie between g and that place.
func refersOutside(g impl.Global, recs int) bool {
	if g.Kind == impl.GlobalRec {
		recs++
	}
	for _, b := range g.Branches {
		if refersOutside(b.Next, recs) {
			return true
		}
	}
	return g.Kind == impl.GlobalVar && g.Index >= recs
}

// projectByRules projects a small tree by the definition in the document: the first rule that applies.
func projectByRules(g impl.Global, role string) (impl.Local, bool) {
	if !strings.Contains(textOf(g), role) && !refersOutside(g, 0) || g.Kind == impl.GlobalEnd {
		return done(), true
	}
	if g.Kind == impl.GlobalVar {
		return again(g.Index), true
	}
	var nexts []impl.LocalBranch
	for _, b := range g.Branches {
		next, ok := projectByRules(b.Next, role)
		if !ok {
			return impl.Local{}, false
		}
		nexts = append(nexts, option(b.Label, next))
	}
	result, ok := nexts[0].Next, true
	switch {
	case g.Kind == impl.GlobalRec && (result.Kind == impl.LocalEnd || result.Kind == impl.LocalVar && result.Index == 0):
		return done(), true
	case g.Kind == impl.GlobalRec && result.Kind == impl.LocalVar:
		return again(result.Index - 1), true
	case g.Kind == impl.GlobalRec:
		return loop(result), true
	case g.From == role:
		return send(g.To, nexts...), true
	case g.To == role:
		return receive(g.From, nexts...), true
	}
	for _, next := range nexts[1:] {
		if ok {
			result, ok = mergeByRules(result, next.Next)
		}
	}
	return result, ok
}

// randomProtocol returns a valid type with at most about depth levels, in which
// each choice is usually told to the role that does not learn it, so that most
// of these types have all projections.
func randomProtocol(r *rand.Rand, depth, recs, unguarded int) impl.Global {
	choice := r.Intn(10)
	switch {
	case recs > unguarded && (depth <= 1 || choice < 3):
		return variable(unguarded + r.Intn(recs-unguarded))
	case depth <= 1 || choice == 3:
		return end()
	case choice <= 5:
		return rec(randomProtocol(r, depth-1, recs+1, unguarded+1))
	}
	order := r.Perm(3)
	from, to, third := roles[order[0]], roles[order[1]], roles[order[2]]
	g := message(from + to)
	told := r.Intn(10) > 0
	for i, label := range []string{"a", "b", "c", "d"} {
		if len(g.Branches) == 3 || r.Intn(2) == 0 && (len(g.Branches) > 0 || i < 3) {
			continue
		}
		next := randomProtocol(r, depth-2, recs, 0)
		if told {
			next = message(to+third, branch(label, next))
		}
		g.Branches = append(g.Branches, branch(label, next))
	}
	return g
}

// randomProtocols returns types of many shapes that have all projections, the same ones in each run.
func randomProtocols(n int) []impl.Global {
	r := rand.New(rand.NewSource(7))
	var list []impl.Global
	for len(list) < n {
		g := randomProtocol(r, 3+len(list)%9, 0, 0)
		projectable := size(g) <= impl.MaxGlobalNodes
		for _, role := range roles {
			if projectable {
				_, projectable = projectByRules(g, role)
			}
		}
		if projectable {
			list = append(list, g)
		}
	}
	return list
}

// allGlobals returns every valid type with at most n nodes whose messages have
// one of the pairs of roles and the labels a and b only, in a place with the
// given numbers of recursions around it.
func allGlobals(n, recs, unguarded int, pairs ...string) []impl.Global {
	if n <= 0 {
		return nil
	}
	list := []impl.Global{end()}
	for i := unguarded; i < recs; i++ {
		list = append(list, variable(i))
	}
	for _, body := range allGlobals(n-1, recs+1, unguarded+1, pairs...) {
		list = append(list, rec(body))
	}
	for _, next := range allGlobals(n-1, recs, 0, pairs...) {
		others := allGlobals(n-1-size(next), recs, 0, pairs...)
		for _, pair := range pairs {
			list = append(list, message(pair, branch("a", next)))
			for _, other := range others {
				list = append(list, message(pair, branch("a", next), branch("b", other)))
			}
		}
	}
	return list
}

// allLocals returns every valid type with at most n nodes that has the peer B
// and the labels a and b only, in a place with the given numbers of recursions around it.
func allLocals(n, recs, unguarded int) []impl.Local {
	if n <= 0 {
		return nil
	}
	list := []impl.Local{done()}
	for i := unguarded; i < recs; i++ {
		list = append(list, again(i))
	}
	for _, body := range allLocals(n-1, recs+1, unguarded+1) {
		list = append(list, loop(body))
	}
	for _, next := range allLocals(n-1, recs, 0) {
		list = append(list, send("B", option("a", next)), receive("B", option("a", next)), receive("B", option("b", next)))
		for _, other := range allLocals(n-1-sizeLocal(next), recs, 0) {
			list = append(list, send("B", option("a", next), option("b", other)), receive("B", option("a", next), option("b", other)))
		}
	}
	return list
}
