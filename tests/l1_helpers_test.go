package tests

import (
	"fmt"
	"math/rand"
	"strconv"
	"strings"
	"sync"
	"testing"
	"time"

	"loop.example/sessiontypes/impl"
)

func end() impl.Global { return impl.Global{Kind: impl.GlobalEnd} }

func variable(index int) impl.Global { return impl.Global{Kind: impl.GlobalVar, Index: index} }

func rec(body impl.Global) impl.Global {
	return impl.Global{Kind: impl.GlobalRec, Branches: []impl.GlobalBranch{{Next: body}}}
}

// recs puts n recursions around body.
func recs(n int, body impl.Global) impl.Global {
	for range n {
		body = rec(body)
	}
	return body
}

func branch(label string, next impl.Global) impl.GlobalBranch {
	return impl.GlobalBranch{Label: label, Next: next}
}

// message takes the roles as one text of two letters.
func message(roles string, branches ...impl.GlobalBranch) impl.Global {
	return impl.Global{Kind: impl.GlobalMessage, From: roles[:1], To: roles[1:], Branches: branches}
}

// messages puts n messages with the label a around body.
func messages(n int, body impl.Global) impl.Global {
	for range n {
		body = message("AB", branch("a", body))
	}
	return body
}

// sized returns a shallow type with n nodes.
func sized(n int) impl.Global {
	if n == 1 {
		return end()
	}
	g := message("BC")
	n--
	for free := min(n, impl.MaxBranches); free > 0; free-- {
		share := n / free
		g.Branches = append(g.Branches, branch("abc"[len(g.Branches):][:1], sized(share)))
		n -= share
	}
	return g
}

// parsed returns the type whose text is text, which must be valid.
func parsed(t *testing.T, text string) impl.Global {
	t.Helper()
	g, ok := impl.ParseGlobal(text)
	if !ok {
		t.Fatalf("ParseGlobal rejects %q", text)
	}
	return g
}

// isZero reports whether g is the zero value of its type.
func isZero(g impl.Global) bool {
	return g.Kind == 0 && g.From == "" && g.To == "" && g.Index == 0 && len(g.Branches) == 0
}

// sameGlobal is GlobalEqual for types that are small trees.
func sameGlobal(a, b impl.Global) bool {
	if a.Kind != b.Kind || a.From != b.From || a.To != b.To || a.Index != b.Index || len(a.Branches) != len(b.Branches) {
		return false
	}
	for i := range a.Branches {
		if a.Branches[i].Label != b.Branches[i].Label || !sameGlobal(a.Branches[i].Next, b.Branches[i].Next) {
			return false
		}
	}
	return true
}

func size(g impl.Global) int {
	n := 1
	for _, b := range g.Branches {
		n += size(b.Next)
	}
	return n
}

func depth(g impl.Global) int {
	below := 0
	for _, b := range g.Branches {
		below = max(below, depth(b.Next))
	}
	return below + 1
}

// textOf writes any small tree in the manner of FormatGlobal.
func textOf(g impl.Global) string {
	switch g.Kind {
	case impl.GlobalEnd:
		return "."
	case impl.GlobalVar:
		return "#" + strconv.Itoa(g.Index)
	case impl.GlobalRec:
		return "@" + textOf(g.Branches[0].Next)
	}
	var parts []string
	for _, b := range g.Branches {
		parts = append(parts, b.Label+textOf(b.Next))
	}
	return g.From + g.To + "{" + strings.Join(parts, "|") + "}"
}

// show describes a value, which holds no large tree, for an error message of limited length.
func show(value any) string {
	s := fmt.Sprintf("%+v", value)
	return s[:min(len(s), 400)]
}

// wellFormed checks a small tree by the definition in the document. enclosing
// has, for each recursion around it, whether a message lies in between.
func wellFormed(g impl.Global, enclosing []bool) bool {
	switch g.Kind {
	case impl.GlobalEnd:
		return g.From == "" && g.To == "" && g.Index == 0 && len(g.Branches) == 0
	case impl.GlobalVar:
		return g.From == "" && g.To == "" && len(g.Branches) == 0 &&
			0 <= g.Index && g.Index < len(enclosing) && enclosing[len(enclosing)-1-g.Index]
	case impl.GlobalRec:
		return g.From == "" && g.To == "" && g.Index == 0 && len(g.Branches) == 1 && g.Branches[0].Label == "" &&
			wellFormed(g.Branches[0].Next, append(append([]bool{}, enclosing...), false))
	case impl.GlobalMessage:
		guarded := make([]bool, len(enclosing))
		for i := range guarded {
			guarded[i] = true
		}
		last := ""
		for _, b := range g.Branches {
			if len(b.Label) != 1 || b.Label < "a" || b.Label > "d" || b.Label <= last || !wellFormed(b.Next, guarded) {
				return false
			}
			last = b.Label
		}
		pair := g.From + " " + g.To
		return g.Index == 0 && 1 <= len(g.Branches) && len(g.Branches) <= 3 &&
			strings.Contains("A B,A C,B A,B C,C A,C B", pair) && len(pair) == 3
	}
	return false
}

func validGlobal(g impl.Global) bool {
	return size(g) <= 400 && depth(g) <= 40 && wellFormed(g, nil)
}

// readGlobal reads a text by recursive descent, without the conditions that wellFormed checks.
func readGlobal(s string) (impl.Global, string, bool) {
	switch {
	case strings.HasPrefix(s, "."):
		return end(), s[1:], true
	case strings.HasPrefix(s, "#"):
		if len(s) < 2 || s[1] < '0' || s[1] > '9' {
			return impl.Global{}, s, false
		}
		return variable(int(s[1] - '0')), s[2:], true
	case strings.HasPrefix(s, "@"):
		body, rest, ok := readGlobal(s[1:])
		return rec(body), rest, ok
	case len(s) < 3 || s[2] != '{':
		return impl.Global{}, s, false
	}
	g, separator := message(s[:2]), "{"
	for s = s[2:]; len(s) >= 2 && s[:1] == separator; separator = "|" {
		next, rest, ok := readGlobal(s[2:])
		if !ok {
			return impl.Global{}, s, false
		}
		g.Branches = append(g.Branches, branch(s[1:2], next))
		if s = rest; strings.HasPrefix(s, "}") {
			return g, s[1:], true
		}
	}
	return impl.Global{}, s, false
}

// substitute replaces the variables of the index in g, and at each recursion of the next one.
func substitute(g impl.Global, index int, by impl.Global) impl.Global {
	if g.Kind == impl.GlobalVar && g.Index == index {
		return by
	}
	if g.Kind == impl.GlobalRec {
		index++
	}
	var branches []impl.GlobalBranch
	for _, b := range g.Branches {
		branches = append(branches, branch(b.Label, substitute(b.Next, index, by)))
	}
	g.Branches = branches
	return g
}

// unfolded applies the definition of unfolding to a valid type.
func unfolded(g impl.Global) impl.Global {
	for g.Kind == impl.GlobalRec {
		g = substitute(g.Branches[0].Next, 0, g)
	}
	return g
}

// place is a node together with the recursions around it: what a variable means.
type place struct {
	node   impl.Global
	around []place
}

// head follows recursions and variables up to a message or an end. It does not substitute anything.
func (p place) head() place {
	for {
		switch p.node.Kind {
		case impl.GlobalRec:
			p = place{p.node.Branches[0].Next, append(append([]place{}, p.around...), p)}
		case impl.GlobalVar:
			p = p.around[len(p.around)-1-p.node.Index]
		default:
			return p
		}
	}
}

// meaning writes the first n levels of messages of the tree that the type describes.
func (p place) meaning(n int) string {
	p = p.head()
	if p.node.Kind != impl.GlobalMessage {
		return "."
	}
	s := p.node.From + p.node.To
	if n == 0 {
		return s
	}
	for _, b := range p.node.Branches {
		s += "(" + b.Label + place{b.Next, p.around}.meaning(n-1) + ")"
	}
	return s
}

// randomGlobal returns a valid type with at most depth levels.
func randomGlobal(r *rand.Rand, depth, recs, unguarded int) impl.Global {
	choice := r.Intn(8)
	switch {
	case recs > unguarded && (depth == 1 || choice == 0):
		return variable(unguarded + r.Intn(recs-unguarded))
	case depth == 1 || choice == 1:
		return end()
	case choice <= 3:
		return rec(randomGlobal(r, depth-1, recs+1, unguarded+1))
	}
	g := message([]string{"AB", "AC", "BA", "BC", "CA", "CB"}[r.Intn(6)])
	for _, label := range []string{"a", "b", "c", "d"}[r.Intn(2):] {
		if len(g.Branches) < 1+r.Intn(3) {
			g.Branches = append(g.Branches, branch(label, randomGlobal(r, depth-1, recs, 0)))
		}
	}
	return g
}

// randomGlobals returns types of many shapes, the same ones in each run.
func randomGlobals(n int) []impl.Global {
	r := rand.New(rand.NewSource(1))
	var list []impl.Global
	for len(list) < n {
		if g := randomGlobal(r, 2+len(list)%6, 0, 0); size(g) <= impl.MaxGlobalNodes {
			list = append(list, g)
		}
	}
	return list
}

// returns fails the test if f does not return in time.
func returns(t *testing.T, what string, f func()) {
	t.Helper()
	done := make(chan bool)
	go func() {
		f()
		close(done)
	}()
	select {
	case <-done:
	case <-time.After(time.Minute):
		t.Fatalf("%s does not return", what)
	}
}

// keepsNoState requires n results to stay the same in another order and at the same time.
func keepsNoState(t *testing.T, n int, result func(i int) string) {
	t.Helper()
	var want []string
	for i := range n {
		want = append(want, result(i))
	}
	var group sync.WaitGroup
	for range 4 {
		group.Go(func() {
			for i := n - 1; i >= 0; i-- {
				if got := result(i); got != want[i] {
					t.Errorf("%q, and later %q", want[i], got)
				}
			}
		})
	}
	group.Wait()
}
