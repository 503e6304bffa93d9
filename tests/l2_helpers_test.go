package tests

import (
	"math/rand"
	"strconv"
	"strings"
	"testing"

	"loop.example/sessiontypes/impl"
)

func done() impl.Local { return impl.Local{Kind: impl.LocalEnd} }

func again(index int) impl.Local { return impl.Local{Kind: impl.LocalVar, Index: index} }

func loop(body impl.Local) impl.Local {
	return impl.Local{Kind: impl.LocalRec, Branches: []impl.LocalBranch{{Next: body}}}
}

// loops puts n recursions around body.
func loops(n int, body impl.Local) impl.Local {
	for range n {
		body = loop(body)
	}
	return body
}

func option(label string, next impl.Local) impl.LocalBranch {
	return impl.LocalBranch{Label: label, Next: next}
}

func send(peer string, branches ...impl.LocalBranch) impl.Local {
	return impl.Local{Kind: impl.LocalSend, Peer: peer, Branches: branches}
}

func receive(peer string, branches ...impl.LocalBranch) impl.Local {
	return impl.Local{Kind: impl.LocalReceive, Peer: peer, Branches: branches}
}

// sends puts n sends of the label a to B around body.
func sends(n int, body impl.Local) impl.Local {
	for range n {
		body = send("B", option("a", body))
	}
	return body
}

// sizedLocal returns a shallow type with n nodes.
func sizedLocal(n int) impl.Local {
	if n == 1 {
		return done()
	}
	l := receive("C")
	n--
	for free := min(n, 4); free > 0; free-- {
		share := n / free
		l.Branches = append(l.Branches, option("abcd"[len(l.Branches):][:1], sizedLocal(share)))
		n -= share
	}
	return l
}

// local returns the type whose text is text, which must be valid.
func local(t *testing.T, text string) impl.Local {
	t.Helper()
	l, ok := impl.ParseLocal(text)
	if !ok {
		t.Fatalf("ParseLocal rejects %q", text)
	}
	return l
}

// isZeroLocal reports whether l is the zero value of its type.
func isZeroLocal(l impl.Local) bool {
	return l.Kind == 0 && l.Peer == "" && l.Index == 0 && len(l.Branches) == 0
}

// sameLocal is LocalEqual for types that are small trees.
func sameLocal(a, b impl.Local) bool {
	if a.Kind != b.Kind || a.Peer != b.Peer || a.Index != b.Index || len(a.Branches) != len(b.Branches) {
		return false
	}
	for i := range a.Branches {
		if a.Branches[i].Label != b.Branches[i].Label || !sameLocal(a.Branches[i].Next, b.Branches[i].Next) {
			return false
		}
	}
	return true
}

func sizeLocal(l impl.Local) int {
	n := 1
	for _, b := range l.Branches {
		n += sizeLocal(b.Next)
	}
	return n
}

func depthLocal(l impl.Local) int {
	below := 0
	for _, b := range l.Branches {
		below = max(below, depthLocal(b.Next))
	}
	return below + 1
}

// textOfLocal writes any small tree in the manner of FormatLocal.
func textOfLocal(l impl.Local) string {
	switch l.Kind {
	case impl.LocalEnd:
		return "."
	case impl.LocalVar:
		return "#" + strconv.Itoa(l.Index)
	case impl.LocalRec:
		return "@" + textOfLocal(l.Branches[0].Next)
	}
	var parts []string
	for _, b := range l.Branches {
		parts = append(parts, b.Label+textOfLocal(b.Next))
	}
	mark := map[int]string{impl.LocalSend: "!", impl.LocalReceive: "?"}[l.Kind]
	return l.Peer + mark + "{" + strings.Join(parts, "|") + "}"
}

// wellFormedLocal checks a small tree by the definition in the document.
// enclosing has, for each recursion around it, whether an action lies in between.
func wellFormedLocal(l impl.Local, enclosing []bool) bool {
	switch l.Kind {
	case impl.LocalEnd:
		return l.Peer == "" && l.Index == 0 && len(l.Branches) == 0
	case impl.LocalVar:
		return l.Peer == "" && len(l.Branches) == 0 &&
			0 <= l.Index && l.Index < len(enclosing) && enclosing[len(enclosing)-1-l.Index]
	case impl.LocalRec:
		return l.Peer == "" && l.Index == 0 && len(l.Branches) == 1 && l.Branches[0].Label == "" &&
			wellFormedLocal(l.Branches[0].Next, append(append([]bool{}, enclosing...), false))
	case impl.LocalSend, impl.LocalReceive:
		guarded := make([]bool, len(enclosing))
		for i := range guarded {
			guarded[i] = true
		}
		last := ""
		for _, b := range l.Branches {
			if len(b.Label) != 1 || b.Label < "a" || b.Label > "d" || b.Label <= last || !wellFormedLocal(b.Next, guarded) {
				return false
			}
			last = b.Label
		}
		return l.Index == 0 && 1 <= len(l.Branches) && len(l.Branches) <= 4 &&
			(l.Peer == "A" || l.Peer == "B" || l.Peer == "C")
	}
	return false
}

func validLocal(l impl.Local) bool {
	return sizeLocal(l) <= 400 && depthLocal(l) <= 40 && wellFormedLocal(l, nil)
}

// readLocal reads a text by recursive descent, without the conditions that wellFormedLocal checks.
func readLocal(s string) (impl.Local, string, bool) {
	switch {
	case strings.HasPrefix(s, "."):
		return done(), s[1:], true
	case strings.HasPrefix(s, "#"):
		if len(s) < 2 || s[1] < '0' || s[1] > '9' {
			return impl.Local{}, s, false
		}
		return again(int(s[1] - '0')), s[2:], true
	case strings.HasPrefix(s, "@"):
		body, rest, ok := readLocal(s[1:])
		return loop(body), rest, ok
	case len(s) < 3 || s[1] != '!' && s[1] != '?' || s[2] != '{':
		return impl.Local{}, s, false
	}
	l, separator := send(s[:1]), "{"
	if s[1] == '?' {
		l = receive(s[:1])
	}
	for s = s[2:]; len(s) >= 2 && s[:1] == separator; separator = "|" {
		next, rest, ok := readLocal(s[2:])
		if !ok {
			return impl.Local{}, s, false
		}
		l.Branches = append(l.Branches, option(s[1:2], next))
		if s = rest; strings.HasPrefix(s, "}") {
			return l, s[1:], true
		}
	}
	return impl.Local{}, s, false
}

// substituteLocal replaces the variables of the index in l, and at each recursion of the next one.
func substituteLocal(l impl.Local, index int, by impl.Local) impl.Local {
	if l.Kind == impl.LocalVar && l.Index == index {
		return by
	}
	if l.Kind == impl.LocalRec {
		index++
	}
	var branches []impl.LocalBranch
	for _, b := range l.Branches {
		branches = append(branches, option(b.Label, substituteLocal(b.Next, index, by)))
	}
	l.Branches = branches
	return l
}

// unfoldedLocal applies the definition of unfolding to a valid type.
func unfoldedLocal(l impl.Local) impl.Local {
	for l.Kind == impl.LocalRec {
		l = substituteLocal(l.Branches[0].Next, 0, l)
	}
	return l
}

// nextLocal returns what follows the label, and whether there is such a branch.
func nextLocal(l impl.Local, label string) (impl.Local, bool) {
	for _, b := range l.Branches {
		if b.Label == label {
			return b.Next, true
		}
	}
	return impl.Local{}, false
}

// related compares valid types by the definition: by the subtype relation, or else by equivalence.
// seen has the texts of the pairs of unfolded types that have been compared.
func related(a, b impl.Local, subtype bool, seen map[string]bool) bool {
	a, b = unfoldedLocal(a), unfoldedLocal(b)
	pair := textOfLocal(a) + " " + textOfLocal(b)
	if seen[pair] {
		return true
	}
	seen[pair] = true
	if a.Kind != b.Kind || a.Peer != b.Peer {
		return false
	}
	for _, label := range []string{"a", "b", "c", "d"} {
		nextA, inA := nextLocal(a, label)
		nextB, inB := nextLocal(b, label)
		onlyA, onlyB := inA && !inB, inB && !inA
		if onlyA && !(subtype && a.Kind == impl.LocalReceive) || onlyB && !(subtype && a.Kind == impl.LocalSend) {
			return false
		}
		if inA && inB && !related(nextA, nextB, subtype, seen) {
			return false
		}
	}
	return true
}

// spot is a node together with the recursions around it: what a variable means.
type spot struct {
	node   impl.Local
	around []spot
}

// head follows recursions and variables up to an action or an end. It does not substitute anything.
func (s spot) head() spot {
	for {
		switch s.node.Kind {
		case impl.LocalRec:
			s = spot{s.node.Branches[0].Next, append(append([]spot{}, s.around...), s)}
		case impl.LocalVar:
			s = s.around[len(s.around)-1-s.node.Index]
		default:
			return s
		}
	}
}

// meaning writes the first n levels of actions of the tree that the type describes.
func (s spot) meaning(n int) string {
	s = s.head()
	if s.node.Kind == impl.LocalEnd {
		return "."
	}
	text := strconv.Itoa(s.node.Kind) + s.node.Peer
	if n == 0 {
		return text
	}
	for _, b := range s.node.Branches {
		text += "(" + b.Label + spot{b.Next, s.around}.meaning(n-1) + ")"
	}
	return text
}

// randomLocal returns a valid type with at most depth levels.
func randomLocal(r *rand.Rand, depth, recs, unguarded int) impl.Local {
	choice := r.Intn(8)
	switch {
	case recs > unguarded && (depth == 1 || choice == 0):
		return again(unguarded + r.Intn(recs-unguarded))
	case depth == 1 || choice == 1:
		return done()
	case choice <= 3:
		return loop(randomLocal(r, depth-1, recs+1, unguarded+1))
	}
	l := send([]string{"A", "B", "C"}[r.Intn(3)])
	if r.Intn(2) == 0 {
		l.Kind = impl.LocalReceive
	}
	for _, label := range []string{"a", "b", "c", "d"}[r.Intn(2):] {
		if len(l.Branches) < 1+r.Intn(4) {
			l.Branches = append(l.Branches, option(label, randomLocal(r, depth-1, recs, 0)))
		}
	}
	return l
}

// randomLocals returns types of many shapes, the same ones in each run.
func randomLocals(n int) []impl.Local {
	r := rand.New(rand.NewSource(4))
	var list []impl.Local
	for len(list) < n {
		if l := randomLocal(r, 2+len(list)%6, 0, 0); sizeLocal(l) <= impl.MaxGlobalNodes {
			list = append(list, l)
		}
	}
	return list
}

// variant returns a type, written differently, that is equivalent to l, which
// is valid, or if subtype is set, a subtype of l.
func variant(r *rand.Rand, l impl.Local, levels int, subtype bool) impl.Local {
	if levels == 0 {
		return l
	}
	switch choice := r.Intn(4); {
	case choice == 0:
		// No variable in l is free, so none has to change.
		return loop(variant(r, l, levels-1, subtype))
	case l.Kind == impl.LocalRec && choice > 1:
		return variant(r, unfoldedLocal(l), levels, subtype)
	case l.Kind != impl.LocalSend && l.Kind != impl.LocalReceive:
		return l
	}
	l = unfoldedLocal(l)
	var branches []impl.LocalBranch
	for _, label := range []string{"a", "b", "c", "d"} {
		next, ok := nextLocal(l, label)
		change := subtype && r.Intn(3) == 0
		switch {
		case ok && !(change && l.Kind == impl.LocalSend && len(l.Branches) > 1 && len(branches) > 0):
			branches = append(branches, option(label, variant(r, next, levels-1, subtype)))
		case !ok && change && l.Kind == impl.LocalReceive:
			branches = append(branches, option(label, randomLocal(r, 2, 0, 0)))
		}
	}
	l.Branches = branches
	return l
}
