package impl

import (
	"slices"
	"strconv"
	"strings"
)

// GlobalBranch is one branch of a message: its label and the global type that follows.
type GlobalBranch struct {
	Label string
	Next  Global
}

// Global is a node of a global type.
type Global struct {
	Kind     int
	From     string
	To       string
	Index    int
	Branches []GlobalBranch
}

// Kinds of global types, and limits.
const (
	GlobalEnd      = 1
	GlobalMessage  = 2
	GlobalRec      = 3
	GlobalVar      = 4
	MaxBranches    = 3
	MaxGlobalNodes = 400
	MaxGlobalDepth = 40
)

const (
	roleLetters  = "ABC"
	labelLetters = "abcd"
	// A node takes at most the three bytes of AB{ or B!{ and two for its branch: the label and | or }.
	maxTypeText = MaxGlobalNodes * 5
)

// IsRole reports whether s is the name of a role.
func IsRole(s string) bool { return len(s) == 1 && strings.Contains(roleLetters, s) }

// IsLabel reports whether s is a message label.
func IsLabel(s string) bool { return len(s) == 1 && strings.Contains(labelLetters, s) }

// GlobalValid reports whether g is a valid closed global type.
func GlobalValid(g Global) bool { return GlobalNodes(g) > 0 }

// GlobalNodes returns the number of nodes of g.
func GlobalNodes(g Global) int {
	nodes := 0
	if !countGlobal(g, globalScope{depth: 1}, &nodes) {
		return 0
	}
	return nodes
}

// GlobalEqual reports whether a and b are structurally equal.
func GlobalEqual(a Global, b Global) bool {
	return sameTrees(a, b, sameGlobalFields,
		func(g Global) []GlobalBranch { return g.Branches },
		func(b GlobalBranch) (string, Global) { return b.Label, b.Next })
}

// FormatGlobal returns the text of g.
func FormatGlobal(g Global) string {
	if !GlobalValid(g) {
		return ""
	}
	var text strings.Builder
	writeGlobal(&text, g)
	return text.String()
}

// ParseGlobal parses the text of a global type.
func ParseGlobal(text string) (Global, bool) {
	if len(text) > maxTypeText {
		return Global{}, false
	}
	p := globalParser{textReader: textReader{text}}
	for {
		g, ok := p.begin()
		if !ok {
			return Global{}, false
		}
		if len(g.Branches) > 0 {
			p.open = append(p.open, g)
			continue
		}
		g, more, ok := p.complete(g)
		if more {
			continue
		}
		if !ok || p.rest != "" || !GlobalValid(g) {
			return Global{}, false
		}
		return g, true
	}
}

// GlobalRoles returns the roles of g in ascending order.
func GlobalRoles(g Global) string {
	return rolesIn(FormatGlobal(g))
}

// UnfoldGlobal unfolds the recursion at the root of g.
func UnfoldGlobal(g Global) (Global, bool) {
	if !GlobalValid(g) {
		return Global{}, false
	}
	nodes := 0
	var env []globalCopier
	for g.Kind == GlobalRec {
		rec, outer := g, env
		env = append(env, func(depth int) (Global, bool) {
			return copyGlobal(rec, outer, depth, &nodes)
		})
		g = rec.Branches[0].Next
	}
	return copyGlobal(g, env, 1, &nodes)
}

// StepGlobal returns what remains of g after its first message carries the label.
func StepGlobal(g Global, label string) (Global, bool) {
	unfolded, ok := UnfoldGlobal(g)
	if !ok {
		return Global{}, false
	}
	for _, b := range unfolded.Branches {
		// The root is a message of a valid closed type, so Next is valid and closed.
		if b.Label == label {
			return b.Next, true
		}
	}
	return Global{}, false
}

// globalNode is one node of a global type with only the fields of its kind.
// No other package can add a kind, because the method is not exported.
type globalNode interface{ isGlobalNode() }

type globalEndNode struct{}

type globalMessageNode struct {
	from, to string
	branches []GlobalBranch
}

type globalRecNode struct{ body Global }

type globalVarNode struct{ index int }

func (globalEndNode) isGlobalNode()     {}
func (globalMessageNode) isGlobalNode() {}
func (globalRecNode) isGlobalNode()     {}
func (globalVarNode) isGlobalNode()     {}

// globalNodeOf returns the root of g, or nil if its fields do not fit its kind.
// It does not look at the nodes below the root.
func globalNodeOf(g Global) globalNode {
	noRoles := g.From == "" && g.To == ""
	switch g.Kind {
	case GlobalEnd:
		if noRoles && g.Index == 0 && len(g.Branches) == 0 {
			return globalEndNode{}
		}
	case GlobalMessage:
		if IsRole(g.From) && IsRole(g.To) && g.From != g.To && g.Index == 0 &&
			labelsFit(len(g.Branches), MaxBranches, func(i int) string { return g.Branches[i].Label }) {
			return globalMessageNode{g.From, g.To, g.Branches}
		}
	case GlobalRec:
		if noRoles && g.Index == 0 && len(g.Branches) == 1 && g.Branches[0].Label == "" {
			return globalRecNode{g.Branches[0].Next}
		}
	case GlobalVar:
		if noRoles && g.Index >= 0 && len(g.Branches) == 0 {
			return globalVarNode{g.Index}
		}
	}
	return nil
}

// labelsFit reports whether the n labels can be those of the branches of a
// node, which has at most the number most of them.
func labelsFit(n int, most int, label func(i int) string) bool {
	if n == 0 || n > most {
		return false
	}
	for i := range n {
		if !IsLabel(label(i)) || i > 0 && label(i) <= label(i-1) {
			return false
		}
	}
	return true
}

// globalScope describes the place of a node.
type globalScope struct {
	depth     int
	recs      int // the enclosing recursions
	unguarded int // those of them with no message in between
}

// countGlobal adds the nodes of g to nodes and reports whether g is valid in its place.
// It stops at the limits, so it returns even if g contains itself.
func countGlobal(g Global, s globalScope, nodes *int) bool {
	*nodes++
	if *nodes > MaxGlobalNodes || s.depth > MaxGlobalDepth {
		return false
	}
	below := globalScope{depth: s.depth + 1, recs: s.recs}
	switch n := globalNodeOf(g).(type) {
	case globalEndNode:
		return true
	case globalMessageNode:
		for _, b := range n.branches {
			if !countGlobal(b.Next, below, nodes) {
				return false
			}
		}
		return true
	case globalRecNode:
		below.recs, below.unguarded = s.recs+1, s.unguarded+1
		return countGlobal(n.body, below, nodes)
	case globalVarNode:
		return s.unguarded <= n.index && n.index < s.recs
	}
	return false
}

// sameGlobalFields compares two nodes without their branches.
func sameGlobalFields(a Global, b Global) bool {
	return a.Kind == b.Kind && a.From == b.From && a.To == b.To && a.Index == b.Index
}

// branchPair identifies two slices of branches of the same length.
type branchPair[B any] struct {
	a, b   *B
	length int
}

// sameTrees reports whether two trees are equal, given what a node has beside
// its branches, what its branches are and what a branch consists of.
func sameTrees[N, B any](a N, b N, sameFields func(a, b N) bool, branches func(N) []B, parts func(B) (string, N)) bool {
	// An invalid tree may contain itself or be exponentially larger than its
	// memory, so no pair of branch slices is compared twice.
	seen := map[branchPair[B]]bool{}
	work := [][2]N{{a, b}}
	for len(work) > 0 {
		last := len(work) - 1
		x, y := work[last][0], work[last][1]
		work = work[:last]
		below, other := branches(x), branches(y)
		if !sameFields(x, y) || len(below) != len(other) {
			return false
		}
		if len(below) == 0 {
			continue
		}
		key := branchPair[B]{&below[0], &other[0], len(below)}
		if seen[key] {
			continue
		}
		seen[key] = true
		for i := range below {
			label, next := parts(below[i])
			otherLabel, otherNext := parts(other[i])
			if label != otherLabel {
				return false
			}
			work = append(work, [2]N{next, otherNext})
		}
	}
	return true
}

// rolesIn returns the roles in the text of a type, in ascending order. The
// letters of roles occur in it as nothing else.
func rolesIn(text string) string {
	var roles strings.Builder
	for _, role := range roleLetters {
		if strings.ContainsRune(text, role) {
			roles.WriteRune(role)
		}
	}
	return roles.String()
}

// writeGlobal appends the text of g, which is valid, to text.
func writeGlobal(text *strings.Builder, g Global) {
	switch n := globalNodeOf(g).(type) {
	case globalEndNode:
		text.WriteByte('.')
	case globalMessageNode:
		text.WriteString(n.from + n.to)
		separator := "{"
		for _, b := range n.branches {
			text.WriteString(separator + b.Label)
			writeGlobal(text, b.Next)
			separator = "|"
		}
		text.WriteByte('}')
	case globalRecNode:
		text.WriteByte('@')
		writeGlobal(text, n.body)
	case globalVarNode:
		text.WriteString("#" + strconv.Itoa(n.index))
	}
}

// globalCopier returns a new copy of a closed type for a node at the depth.
type globalCopier func(depth int) (Global, bool)

// copyGlobal returns a copy of g, which is valid, for a node at the depth, and
// adds its nodes to nodes. For each enclosing recursion, the outermost first,
// env has the type that replaces its variables, or nil to keep them. The
// replacements have no free variable, so no index changes. The limits are
// checked during the copy, because the replacements can multiply at each
// recursion; no other condition can make the copy of a valid type invalid.
func copyGlobal(g Global, env []globalCopier, depth int, nodes *int) (Global, bool) {
	if v, ok := globalNodeOf(g).(globalVarNode); ok {
		if replace := env[len(env)-1-v.index]; replace != nil {
			return replace(depth)
		}
	}
	*nodes++
	if *nodes > MaxGlobalNodes || depth > MaxGlobalDepth {
		return Global{}, false
	}
	if g.Kind == GlobalRec {
		env = append(slices.Clip(env), nil)
	}
	result := Global{Kind: g.Kind, From: g.From, To: g.To, Index: g.Index}
	for _, b := range g.Branches {
		next, ok := copyGlobal(b.Next, env, depth+1, nodes)
		if !ok {
			return Global{}, false
		}
		result.Branches = append(result.Branches, GlobalBranch{b.Label, next})
	}
	return result, true
}

// textReader reads a text from left to right.
type textReader struct{ rest string }

// take removes and returns the next byte, or returns 0 at the end of the text.
func (r *textReader) take() byte {
	if r.rest == "" {
		return 0
	}
	c := r.rest[0]
	r.rest = r.rest[1:]
	return c
}

// skip removes the next byte if it is c, and reports whether it was.
func (r *textReader) skip(c byte) bool {
	if r.rest == "" || r.rest[0] != c {
		return false
	}
	r.rest = r.rest[1:]
	return true
}

// takeLetter takes the next byte and returns it, or the empty string if it is none of letters.
func (r *textReader) takeLetter(letters string) string {
	// A piece of the constant, unlike one of the text, does not keep the text in memory.
	if i := strings.IndexByte(letters, r.take()); i >= 0 {
		return letters[i : i+1]
	}
	return ""
}

// takeIndex takes the single digit of an index and reports whether it is one.
func (r *textReader) takeIndex() (int, bool) {
	c := r.take()
	return int(c) - '0', '0' <= c && c <= '9'
}

type globalParser struct {
	textReader
	// The nodes whose text has begun, from the root down. The last branch of
	// each is the one that is being read.
	open []Global
}

// begin reads a node without branches, or the text of a node up to its first branch.
func (p *globalParser) begin() (Global, bool) {
	switch {
	case p.skip('.'):
		return Global{Kind: GlobalEnd}, true
	case p.skip('#'):
		index, ok := p.takeIndex()
		return Global{Kind: GlobalVar, Index: index}, ok
	case p.skip('@'):
		return Global{Kind: GlobalRec, Branches: []GlobalBranch{{}}}, true
	}
	g := Global{Kind: GlobalMessage, From: p.takeLetter(roleLetters), To: p.takeLetter(roleLetters)}
	brace := p.skip('{')
	g.Branches = []GlobalBranch{{Label: p.takeLetter(labelLetters)}}
	return g, brace
}

// complete puts g, whose text has ended, into the open nodes and closes those
// whose text ends with it. It reports first whether another branch begins, and
// otherwise returns the root and whether the text is well-formed so far.
func (p *globalParser) complete(g Global) (root Global, more bool, ok bool) {
	for len(p.open) > 0 {
		last := len(p.open) - 1
		parent := &p.open[last]
		parent.Branches[len(parent.Branches)-1].Next = g
		if parent.Kind == GlobalMessage {
			if p.skip('|') {
				parent.Branches = append(parent.Branches, GlobalBranch{Label: p.takeLetter(labelLetters)})
				return Global{}, true, true
			}
			if !p.skip('}') {
				return Global{}, false, false
			}
		}
		g = *parent
		p.open = p.open[:last]
	}
	return g, false, true
}
