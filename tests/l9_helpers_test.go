package tests

import (
	"math/rand"
	"slices"
	"strconv"
	"strings"
	"testing"

	"loop.example/sessiontypes/impl"
)

// linesOf writes line breaks for semicolons, which occur in no command.
func linesOf(text string) string { return strings.ReplaceAll(text, ";", "\n") }

// player executes the lines of a script by the definition in the document. The types in them are small.
type player struct {
	protocol impl.Global
	network  impl.Network
}

// scriptByRules executes a script by the definition in the document.
func scriptByRules(script string) string {
	if len(script) > 20000 {
		return "error: script too long\n"
	}
	var p player
	output := ""
	for i, line := range strings.Split(script, "\n") {
		fields := slices.DeleteFunc(strings.Split(line, " "), func(field string) bool { return field == "" })
		if len(fields) == 0 {
			continue
		}
		if i >= 60 || len(output) > 20000 {
			return output + "error: limit reached\n"
		}
		output += p.line(fields) + "\n"
	}
	return output
}

// line executes a line with fields, and returns its output without the last line break.
func (p *player) line(fields []string) string {
	switch fields[0] + strconv.Itoa(len(fields)-1) {
	case "protocol1":
		return p.begin(fields[1])
	case "project1":
		return p.project(fields[1])
	case "subtype2":
		return subtypeByRules(fields[1], fields[2])
	case "send3", "receive3":
		return p.act(impl.Action{Role: fields[1], Receive: fields[0] == "receive", Peer: fields[2], Label: fields[3]})
	case "state0":
		return p.state()
	case "enabled0":
		return p.enabled()
	case "finished0":
		return answer(p.running() && finishedByRules(p.network))
	case "stuck0":
		return answer(p.running() && reached{network: p.network}.stuck())
	case "check0":
		return p.check()
	case "roles0":
		return "roles " + p.roles()
	}
	return "error: unknown command"
}

func answer(yes bool) string {
	if yes {
		return "yes"
	}
	return "no"
}

// running reports whether there has been a protocol.
func (p *player) running() bool { return p.protocol.Kind != 0 }

func (p *player) begin(text string) string {
	g, rest, ok := readGlobal(text)
	if !ok || rest != "" || !validGlobal(g) {
		return "error: invalid protocol"
	}
	n := impl.Network{Queues: make([]string, 9)}
	for _, role := range roles {
		l, ok := projectByRules(g, role)
		if !ok {
			return "error: not projectable"
		}
		n.Locals = append(n.Locals, l)
	}
	if !validNetwork(n) {
		return "error: not projectable"
	}
	p.protocol, p.network = g, n
	return "ok"
}

func (p *player) project(role string) string {
	if !p.running() || !slices.Contains(roles, role) {
		return "error: no projection"
	}
	l, _ := projectByRules(p.protocol, role)
	return textOfLocal(l)
}

func subtypeByRules(a, b string) string {
	x, restX, okX := readLocal(a)
	y, restY, okY := readLocal(b)
	if !okX || !okY || restX != "" || restY != "" || !validLocal(x) || !validLocal(y) {
		return "error: invalid type"
	}
	return answer(related(x, y, true, map[string]bool{}))
}

func (p *player) act(a impl.Action) string {
	if !p.running() || !slices.Contains(enabledByRules(p.network), a) {
		return "error: not enabled"
	}
	next, ok := appliedByRules(p.network, a)
	if !ok {
		return "error: not enabled"
	}
	p.network = next
	return "ok"
}

func (p *player) state() string {
	text := ""
	for i, l := range p.network.Locals {
		text += roles[i] + " " + textOfLocal(l) + "\n"
	}
	for i, pair := range []string{"AA", "AB", "AC", "BA", "BB", "BC", "CA", "CB", "CC"} {
		if p.running() && p.network.Queues[i] != "" {
			text += pair + " " + p.network.Queues[i] + "\n"
		}
	}
	return text + "end"
}

func (p *player) enabled() string {
	text := ""
	if p.running() {
		for _, a := range enabledByRules(p.network) {
			text += actText(a) + " "
		}
	}
	return text + "end"
}

func (p *player) check() string {
	if !p.running() {
		return "states 0 incomplete\nsafe"
	}
	found, complete := exploreByRules(p.network, 80)
	text := "states " + strconv.Itoa(len(found))
	if !complete {
		text += " incomplete"
	}
	i := slices.IndexFunc(found, reached.wrong)
	if i < 0 {
		return text + "\nsafe"
	}
	text += "\nerror after "
	// A longer trace has no text.
	if len(found[i].trace) <= 24 {
		for _, a := range found[i].trace {
			text += actText(a) + " "
		}
	}
	return text
}

func (p *player) roles() string {
	found := ""
	for _, role := range roles {
		if p.running() && strings.Contains(textOf(p.protocol), role) {
			found += role
		}
	}
	return found
}

// checkScript compares RunScript with the document, and requires what promise
// 9 says. It returns the output.
func checkScript(t *testing.T, script string) string {
	t.Helper()
	output := impl.RunScript(script)
	if want := scriptByRules(script); output != want {
		t.Errorf("RunScript of %s = %s, want %s", brief(script), brief(output), brief(want))
	}
	// A script that is too long is not executed, so promise 9 cannot hold for it.
	if len(script) <= 20000 {
		checkEffects(t, script, checkPrefixes(t, script, output))
	}
	return output
}

// brief quotes a text, and only its beginning and its end if it is long.
func brief(text string) string {
	if len(text) <= 1500 {
		return strconv.Quote(text)
	}
	return strconv.Quote(text[:700]) + " .. " + strconv.Quote(text[len(text)-700:]) + " (" + strconv.Itoa(len(text)) + " bytes)"
}

// checkPrefixes requires that the output begins with that of every prefix that
// ends at a line break. It returns what each line adds to the output.
func checkPrefixes(t *testing.T, script, output string) []string {
	t.Helper()
	var added []string
	before := ""
	for i := range len(script) {
		if script[i] != '\n' {
			continue
		}
		prefix := impl.RunScript(script[:i+1])
		if !strings.HasPrefix(output, prefix) || !strings.HasPrefix(prefix, before) {
			t.Errorf("RunScript of %s = %s, and with more lines %s", brief(script[:i+1]), brief(prefix), brief(output))
			return nil
		}
		if unended := impl.RunScript(script[:i]); unended != prefix {
			t.Errorf("RunScript of %s = %s, and without the last line break %s", brief(script[:i+1]), brief(prefix), brief(unended))
		}
		added = append(added, prefix[len(before):])
		before = prefix
	}
	return append(added, output[len(before):])
}

// checkEffects empties each line that is executed and has an output other than
// ok, and requires that all the other lines have the same output as before.
func checkEffects(t *testing.T, script string, added []string) {
	t.Helper()
	lines := strings.Split(script, "\n")
	for i, output := range added {
		if output == "" || output == "ok\n" || output == limit {
			continue
		}
		others := slices.Clone(lines)
		others[i] = ""
		got, want := impl.RunScript(strings.Join(others, "\n")), strings.Join(without(added, i), "")
		// Without the output of a line, more lines than before can be executed.
		if len(want)+len(output) > 20000 {
			want = strings.TrimSuffix(want, limit)
			got = got[:min(len(got), len(want))]
		}
		if got != want {
			t.Errorf("RunScript of %s without line %d = %s, want %s", brief(script), i, brief(got), brief(want))
		}
	}
}

// deepLoop is the text of a global type with n messages in a loop, so that
// unfolding it makes it twice as deep.
func deepLoop(n int) string { return "@" + strings.Repeat("AB{a", n) + "#0" + strings.Repeat("}", n) }

// queries has a line for each of the queries.
func queries() []string {
	return []string{"project A", "project D", "subtype B!{a.} B!{a.|b.}", "subtype x .", "state", "enabled", "finished", "stuck", "check", "roles"}
}

// unprojectables has texts of global types that are valid but cannot become the protocol.
func unprojectables() []string {
	return []string{"AB{a.|bCA{a.}}", "@AB{aBC{c#0}|b.}", "AB{aCA{a.}|bCA{b.}}", deepLoop(20), deepLoop(38)}
}

// invalidProtocols has texts of no valid global type.
func invalidProtocols() []string {
	return []string{
		"x", "AB", "AB{a.", "AB{a.}.", "AB{}", "AB{a}", "AA{a.}", "AD{a.}", "ab{a.}", "AB{e.}", "AB{A.}", "AB{b.|a.}", "AB{a.|a.}", "AB{a.|b.|c.|d.}",
		"#0", "@#0", "@AB{a#1}", "AB{a#0}", "@@AB{a#2}", "@AB{a#00}", "@AB{a#-1}", "@@@@@@@@@@@AB{a#10}", "#", "@", "..", "B!{a.}", "AB!{a.}", "AB{a.|b.}\x00", "AB{a.}\r", "\tAB{a.}", "AB{a\xff}", "AB{a.}\u00a0",
		strings.Repeat("AB{a", 40) + "." + strings.Repeat("}", 40), strings.Repeat("@", 3000),
	}
}

// randomScript returns a script with n lines in which every kind of line
// occurs, and in which many actions are enabled.
func randomScript(r *rand.Rand, protocols []string, n int) string {
	var p player
	var lines []string
	for range n {
		fields := p.randomLine(r, protocols)
		if len(fields) > 0 && fields[0] != "check" {
			p.line(fields)
		}
		lines = append(lines, spaced(r, fields))
	}
	return strings.Join(lines, "\n") + []string{"", "\n"}[r.Intn(2)]
}

// spaced joins fields with some spaces between and around them.
func spaced(r *rand.Rand, fields []string) string {
	some := func() string { return strings.Repeat(" ", max(0, r.Intn(8)-5)) }
	line := some()
	for i, field := range fields {
		if i > 0 {
			line += " "
		}
		line += some() + field
	}
	return line + some()
}

// randomLine returns the fields of a line that may come next.
func (p *player) randomLine(r *rand.Rand, protocols []string) []string {
	choice := r.Intn(100)
	switch {
	case choice < 5:
		return nil
	case choice < 10:
		all := [][]string{unprojectables(), invalidProtocols()}[r.Intn(2)]
		return []string{"protocol", all[r.Intn(len(all))]}
	case choice < 14 || !p.running() && choice < 50:
		return []string{"protocol", protocols[r.Intn(len(protocols))]}
	case choice < 60 && p.running():
		if list := enabledByRules(p.network); len(list) > 0 {
			return actionFields(list[r.Intn(len(list))])
		}
		return []string{"finished"}
	case choice < 67:
		all := anyActions()
		return actionFields(all[r.Intn(len(all))])
	case choice < 75:
		return []string{"subtype", randomTypeText(r), randomTypeText(r)}
	case choice < 80:
		return mistakenLine(r)
	case choice < 82:
		return []string{"check"}
	case choice < 87:
		return []string{"project", []string{"A", "B", "C", "D"}[r.Intn(4)]}
	}
	return []string{[]string{"state", "enabled", "finished", "stuck", "roles"}[r.Intn(5)]}
}

// actionFields returns the fields of the line with the action. Those of a
// wrong action may be empty, or several.
func actionFields(a impl.Action) []string {
	name := "send"
	if a.Receive {
		name = "receive"
	}
	return strings.Fields(strings.Join([]string{name, a.Role, a.Peer, a.Label}, " "))
}

func randomTypeText(r *rand.Rand) string {
	if r.Intn(6) == 0 {
		return []string{"x", "#0", "@#0", "B!{a.", "B!{b.|a.}", ".\r", "AB{a.}"}[r.Intn(7)]
	}
	return textOfLocal(randomLocal(r, 1+r.Intn(3), 0, 0))
}

// mistakenLine returns fields that are nearly a command.
func mistakenLine(r *rand.Rand) []string {
	all := append(queries(), "protocol AB{a.}", "send A B a", "receive B A a")
	fields := strings.Fields(all[r.Intn(len(all))])
	switch r.Intn(5) {
	case 0:
		return append(fields, "a")
	case 1:
		return fields[:len(fields)-1]
	case 2:
		fields[0] = strings.ToUpper(fields[0])
	case 3:
		fields[0] = fields[0][:3]
	case 4:
		i := r.Intn(len(fields))
		fields[i] += []string{"\t", "\r", "\x00", "\xff", "\u00a0", "\v", "\u2028"}[r.Intn(7)]
	}
	return fields
}
