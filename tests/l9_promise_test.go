package tests

import (
	"math/rand"
	"strings"
	"testing"

	"loop.example/sessiontypes/impl"
)

// smallProtocols returns texts of global types that have a network, which is explored fast.
func smallProtocols(t *testing.T, n int) []string {
	var list []string
	for _, g := range randomProtocols(40 * n) {
		if _, ok := start(t, g); ok && size(g) > 3 && size(g) <= 24 && len(list) < n {
			list = append(list, textOf(g))
		}
	}
	return list
}

// TestRandomScripts compares scripts of all kinds of lines with the document,
// and requires that each kind of output occurs often.
func TestRandomScripts(t *testing.T) {
	r := rand.New(rand.NewSource(31))
	protocols := smallProtocols(t, 60)
	counts := map[string]int{}
	for range 220 {
		output := checkScript(t, randomScript(r, protocols, 4+r.Intn(20)))
		for line := range strings.Lines(output) {
			counts[strings.TrimSuffix(line, "\n")]++
		}
	}
	for _, line := range []string{"ok", "yes", "no", "safe", "end", "error: not enabled", "error: unknown command", "error: invalid protocol", "error: not projectable", "error: invalid type", "error: no projection"} {
		if counts[line] < 30 {
			t.Errorf("only %d lines %q", counts[line], line)
		}
	}
}

// TestLongScripts has scripts with more lines than are executed.
func TestLongScripts(t *testing.T) {
	r := rand.New(rand.NewSource(32))
	protocols := smallProtocols(t, 20)
	for n := 58; n <= 64; n++ {
		script := randomScript(r, protocols, n)
		if got := strings.HasSuffix(checkScript(t, script), limit); got != (n > 60) {
			t.Errorf("a script of %d lines reaches the limit: %v", n, got)
		}
	}
}

func oneByte(r *rand.Rand, bytes string) byte { return bytes[r.Intn(len(bytes))] }

// TestRandomBytes has scripts that are mostly no commands.
func TestRandomBytes(t *testing.T) {
	r := rand.New(rand.NewSource(33))
	for i := range 3000 {
		script := make([]byte, r.Intn(120))
		for j := range script {
			script[j] = byte(r.Intn(256))
			if i%2 == 0 {
				script[j] = oneByte(r, " \n\n  \r\t\x00.ABabx\xff")
			}
		}
		checkScript(t, string(script))
	}
}

// TestBrokenScripts changes single bytes of scripts.
func TestBrokenScripts(t *testing.T) {
	r := rand.New(rand.NewSource(34))
	original := "protocol AB{aBC{c.}|bBC{d.}}\nproject C\nsend A B a\nenabled\nreceive B A a\nsend B C c\nstate\nsubtype B!{a.} B!{a.|b.}\nstuck\nroles\n"
	for range 1500 {
		script := []byte(original)
		for range 1 + r.Intn(3) {
			i := r.Intn(len(script))
			switch r.Intn(3) {
			case 0:
				script[i] = oneByte(r, " \n.ABCabcd|{}@#01\t\xff")
			case 1:
				script = append(script[:i], script[i+1:]...)
			case 2:
				script = append(script[:i], append([]byte{oneByte(r, " \n.{}AaB")}, script[i:]...)...)
			}
		}
		checkScript(t, string(script))
	}
}

// TestQueriesHaveNoEffect puts all queries, known and unknown lines that fail,
// between the lines of scripts.
func TestQueriesHaveNoEffect(t *testing.T) {
	r := rand.New(rand.NewSource(35))
	protocols := smallProtocols(t, 40)
	failing := []string{"protocol AA{a.}", "protocol AB{a.|bCA{a.}}", "protocol " + deepLoop(20), "send A A a", "receive D A a", "help", "project", "send A B", "STATE", "\t"}
	between := append(queries(), failing...)
	for range 60 {
		lines := strings.Split(strings.TrimSuffix(randomScript(r, protocols, 10+r.Intn(20)), "\n"), "\n")
		added := checkPrefixes(t, strings.Join(lines, "\n"), impl.RunScript(strings.Join(lines, "\n")))
		for range 6 {
			i := r.Intn(len(lines) + 1)
			before := strings.Join(append(append([]string{}, lines[:i]...), between...), "\n") + "\n"
			after := strings.Join(lines[i:], "\n")
			want := impl.RunScript(before) + strings.Join(added[i:], "")
			if got := impl.RunScript(before + after); got != want {
				t.Errorf("RunScript of %s, queries and %s = %s, want %s", brief(strings.Join(lines[:i], "\n")), brief(after), brief(got), brief(want))
			}
		}
	}
}

// TestScriptsFollowTheFunctions executes protocols by scripts and by the
// functions of the other chapters, which have to agree about what is reached.
func TestScriptsFollowTheFunctions(t *testing.T) {
	r := rand.New(rand.NewSource(36))
	finished := 0
	for _, text := range smallProtocols(t, 120) {
		n := protocolNetwork(t, text)
		_, trace := impl.RunChoices(n, randomChoices(r, 24))
		script, want := "protocol "+text+"\n", "ok\n"
		for _, a := range trace {
			script += strings.Join(actionFields(a), " ") + "\n"
			want += "ok\n"
		}
		last, _ := impl.ReplayTrace(n, trace)
		script += "state\nenabled\nfinished\nstuck\ncheck\n"
		for i, l := range last.Locals {
			want += roles[i] + " " + impl.FormatLocal(l) + "\n"
		}
		for _, from := range roles {
			for _, to := range roles {
				if queue := impl.QueueContents(last, from, to); queue != "" {
					want += from + to + " " + queue + "\n"
				}
			}
		}
		want += "end\n" + impl.FormatTrace(impl.EnabledActions(last)) + "end\n" + answer(impl.NetworkFinished(last)) + "\n" + answer(impl.NetworkStuck(last)) + "\n"
		states, _, complete := impl.CountStates(last, 80)
		want += "states " + show(states)
		if !complete {
			want += " incomplete"
		}
		want += "\nsafe\n"
		if got := checkScript(t, script); got != want {
			t.Errorf("RunScript of %s = %s, want %s", brief(script), brief(got), brief(want))
		}
		if impl.NetworkFinished(last) {
			finished++
		}
	}
	if finished < 10 || finished > 110 {
		t.Errorf("%d executions are finished", finished)
	}
}

// TestScriptsKeepNoState executes scripts in another order and at the same time.
func TestScriptsKeepNoState(t *testing.T) {
	r := rand.New(rand.NewSource(37))
	protocols := smallProtocols(t, 30)
	list := []string{"", "state", "roles", "send A B a\nstate", "x", strings.Repeat("\n", 60) + "x", strings.Repeat("x", 20001)}
	for range 60 {
		list = append(list, randomScript(r, protocols, 12))
	}
	keepsNoState(t, len(list), func(i int) string { return impl.RunScript(list[i]) })
}

// TestLargeScripts has scripts that are far too long, or whose lines take as much time as they can.
func TestLargeScripts(t *testing.T) {
	for _, script := range []string{strings.Repeat("check\n", 1<<22), strings.Repeat("\n", 1<<24), strings.Repeat("\xff", 1<<24)} {
		returns(t, "RunScript", func() {
			if got := impl.RunScript(script); got != tooLong {
				t.Errorf("RunScript = %s", brief(got))
			}
		})
	}
	many := "@AB{aAC{a" + strings.Repeat("AB{aBC{a", 9) + "#0" + strings.Repeat("}", 20)
	for _, text := range []string{many, "@AB{aAC{aBC{a#0}}}", textOf(sized(400)), "@@CB{a#0|c#1|d#0}"} {
		for _, line := range []string{"check", "state", "project B", "protocol " + text[:min(len(text), 200)], "subtype " + textOfLocal(sizedLocal(34)) + " " + textOfLocal(sizedLocal(34))} {
			script := "protocol " + text + "\n" + strings.Repeat(line+"\n", 59)
			returns(t, "RunScript", func() {
				half := impl.RunScript(script[:len(script)-30*len(line+"\n")])
				if got := impl.RunScript(script); len(script) > 20000 || !strings.HasPrefix(got, half) || !strings.HasPrefix(half, "ok\n") {
					t.Errorf("RunScript of %s = %s, and of its beginning %s", brief(script), brief(got), brief(half))
				}
			})
		}
	}
	// Unfolding such types would not fit in any memory.
	for _, text := range []string{"@@@@@@@@@AB{a#0|b#1|c#2}", strings.Repeat("@", 10) + "AB{aAB{a#0|b#1|c#2}|bAB{a#3|b#4|c#5}|cAB{a#6|b#7|c#9}}", textOfGrowing(10)} {
		returns(t, "RunScript", func() { impl.RunScript("protocol " + text + "\nstate\ncheck\nenabled") })
	}
}

// textOfGrowing is the text of a type whose size multiplies at each of its n recursions.
func textOfGrowing(n int) string {
	text := "AB{a#0|b#1|c#2}"
	for i := 3; i < n; i += 2 {
		text = "AB{a" + text + "|b#" + show(i-1) + "|c#" + show(i) + "}"
	}
	return strings.Repeat("@", n) + text
}
