package tests

import (
	"math/big"
	"math/rand"
	"slices"
	"strconv"
	"strings"
	"testing"

	"loop.example/sessiontypes/impl"
)

func finish() impl.Process { return impl.Process{Kind: impl.ProcessEnd} }

func jump(index int) impl.Process { return impl.Process{Kind: impl.ProcessContinue, Index: index} }

func arm(label string, next impl.Process) impl.ProcessBranch {
	return impl.ProcessBranch{Label: label, Next: next}
}

func repeat(body impl.Process) impl.Process {
	return impl.Process{Kind: impl.ProcessLoop, Branches: []impl.ProcessBranch{{Next: body}}}
}

// repeats puts n loops around body.
func repeats(n int, body impl.Process) impl.Process {
	for range n {
		body = repeat(body)
	}
	return body
}

func emit(peer, label string, next impl.Process) impl.Process {
	return impl.Process{Kind: impl.ProcessSend, Peer: peer, Label: label, Branches: []impl.ProcessBranch{{Next: next}}}
}

// emits puts n sends of the label a to B around body.
func emits(n int, body impl.Process) impl.Process {
	for range n {
		body = emit("B", "a", body)
	}
	return body
}

func accept(peer string, arms ...impl.ProcessBranch) impl.Process {
	return impl.Process{Kind: impl.ProcessReceive, Peer: peer, Branches: arms}
}

func either(nexts ...impl.Process) impl.Process {
	p := impl.Process{Kind: impl.ProcessChoose}
	for _, next := range nexts {
		p.Branches = append(p.Branches, arm("", next))
	}
	return p
}

// sizedProcess returns a shallow process with n nodes.
func sizedProcess(n int) impl.Process {
	if n == 1 {
		return finish()
	}
	p := accept("C")
	n--
	for free := min(n, 3); free > 0; free-- {
		share := n / free
		p.Branches = append(p.Branches, arm("abc"[len(p.Branches):][:1], sizedProcess(share)))
		n -= share
	}
	return p
}

// process returns the process whose text is text, which must be valid.
func process(t *testing.T, text string) impl.Process {
	t.Helper()
	p, ok := impl.ParseProcess(text)
	if !ok {
		t.Fatalf("ParseProcess rejects %q", text)
	}
	return p
}

func isZeroProcess(p impl.Process) bool {
	return p.Kind == 0 && p.Peer == "" && p.Label == "" && p.Index == 0 && len(p.Branches) == 0
}

// sameProcess is ProcessEqual for processes that are small trees.
func sameProcess(a, b impl.Process) bool {
	if a.Kind != b.Kind || a.Peer != b.Peer || a.Label != b.Label || a.Index != b.Index || len(a.Branches) != len(b.Branches) {
		return false
	}
	for i := range a.Branches {
		if a.Branches[i].Label != b.Branches[i].Label || !sameProcess(a.Branches[i].Next, b.Branches[i].Next) {
			return false
		}
	}
	return true
}

func sizeProcess(p impl.Process) int {
	n := 1
	for _, b := range p.Branches {
		n += sizeProcess(b.Next)
	}
	return n
}

// textOfProcess writes any small tree in the manner of FormatProcess.
func textOfProcess(p impl.Process) string {
	var parts []string
	for _, b := range p.Branches {
		parts = append(parts, b.Label+textOfProcess(b.Next))
	}
	switch p.Kind {
	case impl.ProcessEnd:
		return "."
	case impl.ProcessSend:
		return p.Peer + "!" + p.Label + strings.Join(parts, "")
	case impl.ProcessReceive:
		return p.Peer + "?{" + strings.Join(parts, "|") + "}"
	case impl.ProcessChoose:
		return "(" + strings.Join(parts, "+") + ")"
	case impl.ProcessLoop:
		return "@" + strings.Join(parts, "")
	}
	return "#" + strconv.Itoa(p.Index)
}

// wellFormedProcess checks a small tree by the definition in the document.
// enclosing has, for each loop around it, whether a message lies in between.
func wellFormedProcess(p impl.Process, enclosing []bool) bool {
	inside := slices.Clone(enclosing)
	message := p.Kind == impl.ProcessSend || p.Kind == impl.ProcessReceive
	for i := range inside {
		inside[i] = inside[i] || message
	}
	count, usesLabel, usesIndex := len(p.Branches), false, false
	switch p.Kind {
	case impl.ProcessEnd:
		count = 0
	case impl.ProcessSend:
		count, usesLabel = 1, true
	case impl.ProcessReceive:
		count = min(max(count, 1), 3)
	case impl.ProcessChoose:
		count = 2
	case impl.ProcessLoop:
		count, inside = 1, append(inside, false)
	case impl.ProcessContinue:
		count, usesIndex = 0, true
		if p.Index < 0 || p.Index >= len(enclosing) || !enclosing[len(enclosing)-1-p.Index] {
			return false
		}
	default:
		return false
	}
	last := ""
	for _, b := range p.Branches {
		labeled := len(b.Label) == 1 && onlyLabels(b.Label) && b.Label > last
		if labeled != (p.Kind == impl.ProcessReceive) || !labeled && b.Label != "" || !wellFormedProcess(b.Next, inside) {
			return false
		}
		last = b.Label
	}
	return len(p.Branches) == count && (message && slices.Contains(roles, p.Peer) || !message && p.Peer == "") &&
		(usesLabel && len(p.Label) == 1 && onlyLabels(p.Label) || !usesLabel && p.Label == "") && (usesIndex || p.Index == 0)
}

func validProcess(p impl.Process) bool { return sizeProcess(p) <= 40 && wellFormedProcess(p, nil) }

// readProcess reads a text by recursive descent, without the conditions that wellFormedProcess checks.
func readProcess(s string) (impl.Process, string, bool) {
	switch {
	case strings.HasPrefix(s, "."):
		return finish(), s[1:], true
	case strings.HasPrefix(s, "#"):
		if len(s) < 2 || s[1] < '0' || s[1] > '9' {
			return impl.Process{}, s, false
		}
		return jump(int(s[1] - '0')), s[2:], true
	case strings.HasPrefix(s, "@"):
		body, rest, ok := readProcess(s[1:])
		return repeat(body), rest, ok
	case strings.HasPrefix(s, "("):
		first, rest, ok := readProcess(s[1:])
		if !ok || !strings.HasPrefix(rest, "+") {
			return impl.Process{}, s, false
		}
		second, rest, ok := readProcess(rest[1:])
		if !ok || !strings.HasPrefix(rest, ")") {
			return impl.Process{}, s, false
		}
		return either(first, second), rest[1:], true
	case len(s) >= 3 && s[1] == '!':
		next, rest, ok := readProcess(s[3:])
		return emit(s[:1], s[2:3], next), rest, ok
	case len(s) < 3 || s[1:3] != "?{":
		return impl.Process{}, s, false
	}
	p, separator := accept(s[:1]), "{"
	for s = s[2:]; len(s) >= 2 && s[:1] == separator; separator = "|" {
		next, rest, ok := readProcess(s[2:])
		if !ok {
			return impl.Process{}, s, false
		}
		p.Branches = append(p.Branches, arm(s[1:2], next))
		if s = rest; strings.HasPrefix(s, "}") {
			return p, s[1:], true
		}
	}
	return impl.Process{}, s, false
}

// typeByRules infers the type of a valid process by the definition in the document.
func typeByRules(p impl.Process) (impl.Local, bool) {
	var nexts []impl.Local
	for _, b := range p.Branches {
		next, ok := typeByRules(b.Next)
		if !ok {
			return impl.Local{}, false
		}
		nexts = append(nexts, next)
	}
	switch p.Kind {
	case impl.ProcessEnd:
		return done(), true
	case impl.ProcessContinue:
		return again(p.Index), true
	case impl.ProcessLoop:
		return loop(nexts[0]), true
	case impl.ProcessSend:
		return send(p.Peer, option(p.Label, nexts[0])), true
	case impl.ProcessReceive:
		l := receive(p.Peer)
		for i, b := range p.Branches {
			l.Branches = append(l.Branches, option(b.Label, nexts[i]))
		}
		return l, true
	}
	return choiceByRules(nexts[0], nexts[1])
}

// choiceByRules returns the type of a choice, given those of its branches.
func choiceByRules(a, b impl.Local) (impl.Local, bool) {
	if sameLocal(a, b) {
		return a, true
	}
	if a.Kind != impl.LocalSend || b.Kind != impl.LocalSend || a.Peer != b.Peer {
		return impl.Local{}, false
	}
	both := send(a.Peer)
	for _, label := range []string{"a", "b", "c", "d"} {
		next, ok := nextLocal(a, label)
		other, found := nextLocal(b, label)
		switch {
		case ok && found && !sameLocal(next, other):
			return impl.Local{}, false
		case ok:
			both.Branches = append(both.Branches, option(label, next))
		case found:
			both.Branches = append(both.Branches, option(label, other))
		}
	}
	return both, true
}

// substituteProcess replaces what continues with the loop of the index in p,
// and inside of each loop with that of the next one.
func substituteProcess(p impl.Process, index int, by impl.Process) impl.Process {
	if p.Kind == impl.ProcessContinue && p.Index == index {
		return by
	}
	if p.Kind == impl.ProcessLoop {
		index++
	}
	var branches []impl.ProcessBranch
	for _, b := range p.Branches {
		branches = append(branches, arm(b.Label, substituteProcess(b.Next, index, by)))
	}
	p.Branches = branches
	return p
}

// executeByRules executes a valid process by the definition in the document.
func executeByRules(p impl.Process, inputs []int) (trace []impl.Action, finished bool) {
	for p.Kind != impl.ProcessEnd && len(trace) < 24 {
		if p.Kind == impl.ProcessLoop {
			p = substituteProcess(p.Branches[0].Next, 0, p)
			continue
		}
		branch := 0
		if p.Kind != impl.ProcessSend {
			if len(inputs) == 0 {
				break
			}
			// The modulus of big numbers is never negative.
			branch = int(new(big.Int).Mod(big.NewInt(int64(inputs[0])), big.NewInt(int64(len(p.Branches)))).Int64())
			inputs = inputs[1:]
		}
		switch p.Kind {
		case impl.ProcessSend:
			trace = append(trace, impl.Action{Peer: p.Peer, Label: p.Label})
		case impl.ProcessReceive:
			trace = append(trace, impl.Action{Receive: true, Peer: p.Peer, Label: p.Branches[branch].Label})
		}
		p = p.Branches[branch].Next
	}
	return trace, p.Kind == impl.ProcessEnd
}

// checkProcess compares every function that reads a process with the helpers.
func checkProcess(t *testing.T, p impl.Process, valid bool) {
	t.Helper()
	wantText := ""
	if valid {
		wantText = textOfProcess(p)
	}
	if impl.ProcessValid(p) != valid {
		t.Fatalf("ProcessValid(%s) = %v", show(p), !valid)
	}
	if s := impl.FormatProcess(p); s != wantText {
		t.Fatalf("FormatProcess(%s) = %.400q, want %.400q", show(p), s, wantText)
	}
	if !impl.ProcessEqual(p, p) || impl.ProcessEqual(p, either(p, p)) {
		t.Fatalf("%s is not equal only to itself", show(p))
	}
	if valid {
		checkType(t, p)
		for _, inputs := range [][]int{nil, {0}, {1, 1, 1}, {2, -1, 0, -2, 1, 5}, make([]int, 30)} {
			checkExecution(t, p, inputs)
		}
		return
	}
	if l, ok := impl.InferType(p); ok || !isZeroLocal(l) {
		t.Fatalf("InferType(%s) = %s, %v", show(p), show(l), ok)
	}
	for _, l := range []impl.Local{{}, done(), sends(1, done()), loop(sends(1, again(0))), again(0)} {
		if impl.HasType(p, l) {
			t.Fatalf("%s, which is not valid, has the type %s", show(p), show(l))
		}
	}
	for _, inputs := range [][]int{nil, {0}, {0, 1, -1}, make([]int, 30)} {
		if trace, finished := impl.RunProcess(p, inputs); finished || len(trace) != 0 {
			t.Fatalf("RunProcess(%s) = %s, %v", show(p), show(trace), finished)
		}
	}
}

// checkParseProcess compares ParseProcess with the definition of the texts.
func checkParseProcess(t *testing.T, s string) {
	t.Helper()
	p, ok := impl.ParseProcess(s)
	want, rest, read := readProcess(s)
	if !read || rest != "" || !validProcess(want) {
		want, read = impl.Process{}, false
	}
	if ok != read || !sameProcess(p, want) {
		t.Fatalf("ParseProcess(%.400q) = %s, %v, want %s, %v", s, show(p), ok, show(want), read)
	}
}

// checkType compares InferType with the document for a valid process, and
// requires a type to be one that the process has. It returns the type.
func checkType(t *testing.T, p impl.Process) (impl.Local, bool) {
	t.Helper()
	l, ok := impl.InferType(p)
	want, wantOk := typeByRules(p)
	if ok != wantOk || ok && !sameLocal(l, want) || !ok && !isZeroLocal(l) {
		t.Fatalf("InferType of %s = %s, %v, want %s, %v", textOfProcess(p), show(l), ok, show(want), wantOk)
	}
	if impl.LocalValid(l) != ok || impl.HasType(p, l) != ok {
		t.Fatalf("the type of %s is %s, but LocalValid = %v and HasType = %v", textOfProcess(p), show(l), impl.LocalValid(l), impl.HasType(p, l))
	}
	return l, ok
}

// checkHasType compares HasType with the document for a valid process and a valid type.
func checkHasType(t *testing.T, p impl.Process, l impl.Local) bool {
	t.Helper()
	own, ok := typeByRules(p)
	want := ok && related(own, l, true, map[string]bool{})
	if got := impl.HasType(p, l); got != want {
		t.Fatalf("HasType of %s and %s = %v", textOfProcess(p), textOfLocal(l), got)
	}
	return want
}

// checkExecution compares RunProcess with the document for a valid process, and
// requires what promise 8 says of its type. It returns the results.
func checkExecution(t *testing.T, p impl.Process, inputs []int) ([]impl.Action, bool) {
	t.Helper()
	trace, finished := impl.RunProcess(p, inputs)
	want, wantFinished := executeByRules(p, inputs)
	if !slices.Equal(trace, want) || finished != wantFinished {
		t.Fatalf("RunProcess of %s with %s = %s, %v, want %s, %v", textOfProcess(p), show(inputs), actTexts(trace), finished, actTexts(want), wantFinished)
	}
	if l, ok := impl.InferType(p); ok && !obeys(l, trace, finished) {
		t.Fatalf("%s has the type %s, but does %s, %v", textOfProcess(p), textOfLocal(l), actTexts(trace), finished)
	}
	return trace, finished
}

// permitted returns how many of the actions a valid type permits, and the type
// after them, unfolded.
func permitted(l impl.Local, trace []impl.Action) (int, impl.Local) {
	l = unfoldedLocal(l)
	for i, a := range trace {
		next, ok := nextLocal(l, a.Label)
		if a.Role != "" || !ok || l.Peer != a.Peer || (l.Kind == impl.LocalReceive) != a.Receive {
			return i, l
		}
		l = unfoldedLocal(next)
	}
	return len(trace), l
}

// obeys reports whether a valid type permits all actions, and permits the
// process to be finished if it is.
func obeys(l impl.Local, trace []impl.Action, finished bool) bool {
	n, rest := permitted(l, trace)
	return n == len(trace) && (!finished || rest.Kind == impl.LocalEnd)
}

// obeysExpected is obeys up to the first label that the process has received
// although the type does not have it. No peer that follows the type sends it.
func obeysExpected(l impl.Local, trace []impl.Action, finished bool) bool {
	n, rest := permitted(l, trace)
	if n < len(trace) {
		_, expected := nextLocal(rest, trace[n].Label)
		return trace[n].Receive && rest.Kind == impl.LocalReceive && rest.Peer == trace[n].Peer && !expected
	}
	return obeys(l, trace, finished)
}

// randomProcess returns a valid process with at most depth levels. Most of its choices have a type.
func randomProcess(r *rand.Rand, depth, loops, unguarded int) impl.Process {
	choice := r.Intn(10)
	switch {
	case loops > unguarded && (depth <= 1 || choice == 0):
		return jump(unguarded + r.Intn(loops-unguarded))
	case depth <= 1 || choice == 1:
		return finish()
	case choice <= 3:
		return repeat(randomProcess(r, depth-1, loops+1, unguarded+1))
	case choice <= 5:
		return emit(roles[r.Intn(3)], "abcd"[r.Intn(4):][:1], randomProcess(r, depth-1, loops, 0))
	case choice <= 7:
		return randomDecision(r, depth, loops, unguarded)
	}
	p := accept(roles[r.Intn(3)])
	for _, label := range []string{"a", "b", "c", "d"}[r.Intn(2):] {
		if len(p.Branches) < 1+r.Intn(3) {
			p.Branches = append(p.Branches, arm(label, randomProcess(r, depth-1, loops, 0)))
		}
	}
	return p
}

// randomDecision returns a choice for its place, mostly between sends to the same peer.
func randomDecision(r *rand.Rand, depth, loops, unguarded int) impl.Process {
	first := randomProcess(r, depth-1, loops, unguarded)
	if r.Intn(6) == 0 {
		return either(first, first)
	}
	if r.Intn(6) == 0 {
		return either(first, randomProcess(r, depth-1, loops, unguarded))
	}
	peer, p := roles[r.Intn(3)], impl.Process{}
	for i := range 2 + r.Intn(2) {
		next := emit(peer, "abcd"[i+r.Intn(2):][:1], randomProcess(r, depth-2, loops, 0))
		if p = either(p, next); i == 0 {
			p = next
		}
	}
	return p
}

// randomProcesses returns processes of many shapes, the same ones in each run.
func randomProcesses(n int) []impl.Process {
	r := rand.New(rand.NewSource(23))
	var list []impl.Process
	for len(list) < n {
		if p := randomProcess(r, 2+len(list)%6, 0, 0); sizeProcess(p) <= impl.MaxProcessNodes {
			list = append(list, p)
		}
	}
	return list
}

// allProcesses returns the valid processes with exactly n nodes for a place.
// For the peers and labels of an action, it has a few examples.
func allProcesses(n, loops, unguarded int) []impl.Process {
	var list []impl.Process
	if n == 1 {
		list = append(list, finish())
		for index := unguarded; index < loops; index++ {
			list = append(list, jump(index))
		}
		return list
	}
	if n > 1 {
		for _, body := range allProcesses(n-1, loops+1, unguarded+1) {
			list = append(list, repeat(body))
		}
		for _, next := range allProcesses(n-1, loops, 0) {
			list = append(list, emit("B", "a", next), emit("B", "c", next), emit("C", "a", next), accept("B", arm("b", next)))
		}
	}
	for share := 1; share < n-1; share++ {
		for _, first := range allProcesses(share, loops, unguarded) {
			for _, second := range allProcesses(n-1-share, loops, unguarded) {
				list = append(list, either(first, second))
			}
		}
		for _, first := range allProcesses(share, loops, 0) {
			for _, second := range allProcesses(n-1-share, loops, 0) {
				list = append(list, accept("B", arm("b", first), arm("d", second)))
			}
		}
	}
	return list
}

// implementation returns a process that has the type l, which is valid in its
// place and has no receive of four labels. It sends some of the labels that
// the type permits, and accepts all that the type has, or more.
func implementation(r *rand.Rand, l impl.Local) impl.Process {
	switch l.Kind {
	case impl.LocalEnd:
		return finish()
	case impl.LocalVar:
		return jump(l.Index)
	case impl.LocalRec:
		return repeat(implementation(r, l.Branches[0].Next))
	case impl.LocalReceive:
		p, room := accept(l.Peer), impl.MaxBranches-len(l.Branches)
		for _, label := range []string{"a", "b", "c", "d"} {
			if next, ok := nextLocal(l, label); ok {
				p.Branches = append(p.Branches, arm(label, implementation(r, next)))
			} else if room > 0 && r.Intn(4) == 0 {
				p.Branches = append(p.Branches, arm(label, randomProcess(r, 2, 0, 0)))
				room--
			}
		}
		return p
	}
	var p impl.Process
	for i, index := range r.Perm(len(l.Branches))[:1+r.Intn(len(l.Branches))] {
		next := emit(l.Peer, l.Branches[index].Label, implementation(r, l.Branches[index].Next))
		switch {
		case i == 0:
			p = next
		case r.Intn(2) == 0:
			p = either(p, next)
		default:
			p = either(next, p)
		}
	}
	return p
}

// implementable reports whether a small tree has no receive with more labels than a process can have.
func implementable(l impl.Local) bool {
	for _, b := range l.Branches {
		if !implementable(b.Next) {
			return false
		}
	}
	return l.Kind != impl.LocalReceive || len(l.Branches) <= impl.MaxBranches
}
