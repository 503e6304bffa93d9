package tests

import (
	"strings"
	"testing"

	"loop.example/sessiontypes/impl"
)

const (
	tooLong = "error: script too long\n"
	limit   = "error: limit reached\n"
	unknown = "error: unknown command\n"
)

// TestLengthOfScripts has scripts of 20000 bytes, and of one more.
func TestLengthOfScripts(t *testing.T) {
	// Each script has a part that is repeated as often as it fits.
	for _, c := range []struct{ before, part, after, want string }{
		{"", " ", "", ""}, {"", "\n", "", ""}, {"", " \n", "", ""}, {"", "x", "", unknown}, {"", "\x00", "", unknown}, {"", "\xff", "", unknown}, {"", "\r", "", unknown}, {"", "日", "", unknown},
		{"roles", " ", "", "roles \n"}, {"", " ", "roles", "roles \n"}, {"roles\n", " ", "", "roles \n"}, {"roles", "\n", "", "roles \n"}, {"roles\n", " ", "\nroles\n", "roles \nroles \n"}, {"subtype . ", " ", ".", "yes\n"},
		{"project ", "A", "", "error: no projection\n"}, {"protocol ", "@", "", "error: invalid protocol\n"}, {"protocol ", "AB{a", "", "error: invalid protocol\n"}, {"subtype . ", "@", "", "error: invalid type\n"}, {"subtype . ", "B!{a", ".", "error: invalid type\n"}, {"send A B ", "a", "", "error: not enabled\n"}, {"receive ", "A", " B a", "error: not enabled\n"},
		{"roles ", "a ", "", unknown}, {"protocol AB{a.}\n", " ", "\nproject A", "ok\nB!{a.}\n"}, {"roles\n", "x", "\nroles", "roles \n" + unknown + "roles \n"}, {"roles", "\n", "roles", "roles \n" + limit},
	} {
		free := 20000 - len(c.before) - len(c.after)
		fill := strings.Repeat(c.part, free/len(c.part)) + strings.Repeat(c.part[:1], free%len(c.part))
		script := c.before + fill + c.after
		if got := checkScript(t, script); len(script) != 20000 || got != c.want {
			t.Errorf("RunScript of %d bytes %s = %s", len(script), brief(script), brief(got))
		}
		for _, longer := range []string{c.before + c.part[:1] + fill + c.after, script + " ", script + "\n", "\n" + script, script + "x", script + script} {
			if got := checkScript(t, longer); got != tooLong {
				t.Errorf("RunScript of %d bytes %s = %s", len(longer), brief(longer), brief(got))
			}
		}
	}
	// The length is the number of bytes, not that of characters.
	for _, c := range [][2]string{{strings.Repeat("é", 10000), unknown}, {strings.Repeat("é", 10001), tooLong}, {strings.Repeat("\xff", 20000), unknown}} {
		if got := checkScript(t, c[0]); got != c[1] {
			t.Errorf("RunScript of %d bytes = %s", len(c[0]), brief(got))
		}
	}
}

// TestNumberOfLines has scripts of 60 lines, and of more, some of which have no fields.
func TestNumberOfLines(t *testing.T) {
	for _, c := range []struct{ script, want string }{
		{strings.Repeat("roles\n", 59), strings.Repeat("roles \n", 59)}, {strings.Repeat("roles\n", 60), strings.Repeat("roles \n", 60)}, {strings.Repeat("roles\n", 59) + "roles", strings.Repeat("roles \n", 60)},
		{strings.Repeat("roles\n", 61), strings.Repeat("roles \n", 60) + limit}, {strings.Repeat("roles\n", 60) + "roles", strings.Repeat("roles \n", 60) + limit}, {strings.Repeat("roles\n", 62), strings.Repeat("roles \n", 60) + limit}, {strings.Repeat("roles\n", 1000), strings.Repeat("roles \n", 60) + limit},
		// The lines behind the limit have no fields.
		{strings.Repeat("roles\n", 60) + "\n", strings.Repeat("roles \n", 60)}, {strings.Repeat("roles\n", 60) + " ", strings.Repeat("roles \n", 60)}, {strings.Repeat("roles\n", 60) + strings.Repeat("  \n", 100), strings.Repeat("roles \n", 60)},
		{strings.Repeat("roles\n", 60) + "\n\n\n\nroles", strings.Repeat("roles \n", 60) + limit}, {strings.Repeat("roles\n", 60) + " \n x \n\nroles", strings.Repeat("roles \n", 60) + limit},
		// Lines without fields count, wherever they stand.
		{strings.Repeat("\n", 59) + "roles", "roles \n"}, {strings.Repeat("\n", 60) + "roles", limit}, {strings.Repeat("  \n", 59) + "roles\n\n", "roles \n"}, {strings.Repeat(" \n", 60) + "roles\n", limit}, {strings.Repeat("\n", 61) + "roles", limit}, {strings.Repeat("\n", 5000) + "roles\nroles", limit}, {strings.Repeat("\n", 60), ""}, {strings.Repeat("\n", 100), ""},
		{strings.Repeat("roles\n\n", 30), strings.Repeat("roles \n", 30)}, {strings.Repeat("roles\n\n", 31), strings.Repeat("roles \n", 30) + limit}, {strings.Repeat("\nroles\n", 30), strings.Repeat("roles \n", 30)}, {strings.Repeat("\nroles\n", 31), strings.Repeat("roles \n", 30) + limit}, {"roles" + strings.Repeat("\n", 59) + "roles", "roles \nroles \n"}, {"roles" + strings.Repeat("\n", 60) + "roles", "roles \n" + limit},
		// Unknown commands and failures count as well, and behind the limit they are not looked at.
		{strings.Repeat("x\n", 60), strings.Repeat(unknown, 60)}, {strings.Repeat("x\n", 61), strings.Repeat(unknown, 60) + limit}, {strings.Repeat("\n", 60) + "x", limit}, {strings.Repeat("\n", 60) + "\t", limit}, {strings.Repeat("\n", 60) + "protocol AB{a.}\nstate", limit}, {strings.Repeat("project A\n", 61), strings.Repeat("error: no projection\n", 60) + limit},
		{"protocol @AB{a#0}\n" + strings.Repeat("send A B a\nreceive B A a\n", 29) + "send A B a\nstate", strings.Repeat("ok\n", 60) + limit}, {"protocol @AB{a#0}\n" + strings.Repeat("send A B a\nreceive B A a\n", 29) + "state", strings.Repeat("ok\n", 59) + "A @B!{a#0}\nB @A?{a#0}\nC .\nend\n"},
	} {
		if got := checkScript(t, c.script); got != c.want {
			t.Errorf("RunScript of %s = %s, want %s", brief(c.script), brief(got), brief(c.want))
		}
	}
}

// projectedOnto is the output of a projection onto B of a type whose messages are all from B to C.
func projectedOnto(protocol string) string {
	return strings.ReplaceAll(protocol, "BC{", "C!{") + "\n"
}

// longOutput returns a script with an output of n bytes, which are 2000 or
// more. Its last protocol is sized(390), and its last line projects that.
func longOutput(n int) string {
	projections := ""
	for _, nodes := range []int{390, 40} {
		n -= len("ok\n")
		protocol, lines := textOf(sized(nodes)), 0
		for ; n >= len(projectedOnto(protocol))+10; n -= len(projectedOnto(protocol)) {
			lines++
		}
		projections = "protocol " + protocol + "\n" + strings.Repeat("project B\n", lines) + projections
	}
	short := ""
	for ; n >= len(unknown)+6; n -= len(unknown) {
		short += "x\n"
	}
	for ; n%3 > 0; n -= len("yes\n") {
		short += "subtype . .\n"
	}
	return short + strings.Repeat("stuck\n", n/len("no\n")) + projections
}

// TestLengthOfOutput has lines with an output of 20000 bytes before them, of one more, and of others.
func TestLengthOfOutput(t *testing.T) {
	for n := 19999; n <= 20001; n++ {
		script := longOutput(n)
		before := impl.RunScript(script)
		if len(before) != n || strings.Count(script, "\n") > 50 || strings.Contains(before, limit) {
			t.Fatalf("the output of %s is %s, of %d bytes", brief(script), brief(before), len(before))
		}
		for _, c := range [][2]string{
			{"roles", "roles BC\n"}, {"\n\nroles\n", "roles BC\n"}, {"x", unknown}, {"send A B a", "error: not enabled\n"}, {"protocol AB{a.}", "ok\n"}, {"", ""}, {" \n  \n ", ""},
		} {
			want := c[1]
			if n > 20000 && want != "" {
				want = limit
			}
			if got := checkScript(t, script+c[0]); got != before+want {
				t.Errorf("RunScript adds %s to %d bytes, want %s", brief(strings.TrimPrefix(got, before)), n, brief(want))
			}
		}
	}
	// Nothing is executed behind the limit.
	for _, after := range []string{"\nroles", "\nx\nroles", "\n\n \nproject A\nproject A\n"} {
		for n, want := range map[int]string{20000: "no\n" + limit, 20001: limit} {
			if got := checkScript(t, longOutput(n)+"finished"+after); got != impl.RunScript(longOutput(n))+want {
				t.Errorf("RunScript adds %s to %d bytes, want %s", brief(got[n:]), n, brief(want))
			}
		}
	}
}

// TestFarBeyondTheLimit has a last line with a long output.
func TestFarBeyondTheLimit(t *testing.T) {
	script, projected := longOutput(20000)+"project B", projectedOnto(textOf(sized(390)))
	before := impl.RunScript(longOutput(20000))
	for _, c := range [][2]string{{"", ""}, {"\n \n", ""}, {"\nroles", limit}, {"\n\n\nx\nroles", limit}, {"\nproject B\nproject B\n", limit}} {
		if got := checkScript(t, script+c[0]); got != before+projected+c[1] {
			t.Errorf("RunScript adds %s to %d bytes", brief(strings.TrimPrefix(got, before)), len(before))
		}
	}
	// Every state is long, and a script can have many of them.
	script = "protocol " + textOf(sized(400)) + strings.Repeat("\nstate", 59)
	if got := checkScript(t, script); !strings.HasSuffix(got, "end\n"+limit) || len(got) < 20000 || len(got) > 25000 {
		t.Errorf("RunScript of %s = %s", brief(script), brief(got))
	}
}

// TestSeveralLimits has scripts in which one limit comes first, or several are reached at once.
func TestSeveralLimits(t *testing.T) {
	for _, c := range []struct {
		n, lines int
		want     string
	}{{20000, 59, "roles BC\n"}, {20000, 60, limit}, {20001, 59, limit}, {20001, 60, limit}, {19000, 59, "roles BC\n"}, {19000, 60, limit}, {20500, 58, limit}} {
		script := longOutput(c.n)
		script += strings.Repeat("\n", c.lines-strings.Count(script, "\n"))
		if got := checkScript(t, script+"roles"); got != impl.RunScript(script)+c.want {
			t.Errorf("RunScript adds %s to %d bytes and %d lines", brief(got[c.n:]), c.n, c.lines)
		}
	}
	// The length of the script comes before everything else.
	for _, script := range []string{strings.Repeat("state\n", 4000), strings.Repeat("\n", 20000) + "x", "protocol AB{a.}\nstate" + strings.Repeat(" ", 20000)} {
		if got := checkScript(t, script); got != tooLong {
			t.Errorf("RunScript = %s", brief(got))
		}
	}
}
