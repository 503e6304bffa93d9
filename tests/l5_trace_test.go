package tests

import (
	"math/rand"
	"regexp"
	"slices"
	"strings"
	"testing"

	"loop.example/sessiontypes/impl"
)

// wellFormedActions returns all of them.
func wellFormedActions() []impl.Action {
	var list []impl.Action
	for _, pair := range []string{"AB", "AC", "BA", "BC", "CA", "CB"} {
		for _, label := range []string{"a", "b", "c", "d"} {
			list = append(list, act(pair[:1]+"!"+pair[1:]+label), act(pair[:1]+"?"+pair[1:]+label))
		}
	}
	return list
}

// checkTraceText requires that text is the text of the trace.
func checkTraceText(t *testing.T, trace []impl.Action, text string) {
	t.Helper()
	if got := impl.FormatTrace(trace); got != text {
		t.Errorf("FormatTrace of %s = %q, want %q", actTexts(trace), got, text)
	}
	if got, ok := impl.ParseTrace(text); !ok || !slices.Equal(got, trace) {
		t.Errorf("ParseTrace of %q = %s, %v", text, actTexts(got), ok)
	}
}

func TestTraceTexts(t *testing.T) {
	checkTraceText(t, nil, "")
	checkTraceText(t, []impl.Action{}, "")
	checkTraceText(t, []impl.Action{{Role: "A", Peer: "B", Label: "a"}, {Role: "B", Receive: true, Peer: "A", Label: "a"}}, "A!Ba B?Aa ")
	checkTraceText(t, []impl.Action{{Role: "C", Receive: true, Peer: "B", Label: "d"}}, "C?Bd ")
	all := wellFormedActions()
	for _, a := range all {
		checkTraceText(t, []impl.Action{a}, actText(a)+" ")
		for _, b := range all {
			checkTraceText(t, []impl.Action{a, b}, actText(a)+" "+actText(b)+" ")
		}
	}
	r := rand.New(rand.NewSource(13))
	for i := range 1000 {
		var trace []impl.Action
		for range i % 25 {
			trace = append(trace, all[r.Intn(len(all))])
		}
		checkTraceText(t, trace, strings.Join(append(strings.Fields(actTexts(trace)), ""), " "))
	}
}

func TestLongTraces(t *testing.T) {
	for _, one := range []string{"A!Ba ", "C?Bd "} {
		for n := range 60 {
			trace, text := slices.Repeat(acts(one), n), strings.Repeat(one, n)
			if n <= 24 {
				checkTraceText(t, trace, text)
				continue
			}
			if got := impl.FormatTrace(trace); got != "" {
				t.Errorf("FormatTrace of %d actions = %q", n, got)
			}
			checkNoTrace(t, text)
		}
		for _, end := range []string{" ", "A", "A!", "A!B", "A!Ba", "A!Ba A"} {
			checkNoTrace(t, strings.Repeat(one, 24)+end)
			checkNoTrace(t, strings.Repeat(one, 23)+end)
		}
	}
	returns(t, "a function", func() {
		checkNoTrace(t, strings.Repeat("A!Ba ", 1<<22))
		checkNoTrace(t, strings.Repeat(" ", 1<<24))
		if got := impl.FormatTrace(make([]impl.Action, 1<<20)); got != "" {
			t.Errorf("FormatTrace of many actions = %q", show(got))
		}
	})
}

// checkNoTrace requires that text is the text of no trace.
func checkNoTrace(t *testing.T, text string) {
	t.Helper()
	if got, ok := impl.ParseTrace(text); ok || len(got) != 0 {
		t.Errorf("ParseTrace of %q = %s, %v", show(text), actTexts(got), ok)
	}
}

// TestNotWellFormed is about actions that have no text, also among others that have.
func TestNotWellFormed(t *testing.T) {
	all := wellFormedActions()
	others := append(anyActions(), impl.Action{Role: "A", Peer: "B", Label: strings.Repeat("a", 1<<20)},
		impl.Action{Role: "A", Peer: "B", Label: "a "}, impl.Action{Role: "A", Peer: "B", Label: "\xff"}, impl.Action{Role: "Ä", Peer: "B", Label: "a"},
		impl.Action{Role: "A", Peer: "B", Label: "`"}, impl.Action{Role: "@", Peer: "B", Label: "a"}, impl.Action{Role: "BC", Peer: "A", Label: "bc"},
		impl.Action{Role: "A!", Peer: "B", Label: "a"}, impl.Action{Role: "A", Peer: "Ba A!C", Label: "a"}, impl.Action{})
	tried := 0
	for _, a := range others {
		if slices.Contains(all, a) {
			continue
		}
		tried++
		for _, trace := range [][]impl.Action{{a}, {a, a}, {act("A!Ba"), a}, {a, act("B?Aa")}, {act("A!Ba"), a, act("B?Aa")}, append(slices.Repeat(acts("A!Ba"), 23), a)} {
			if got := impl.FormatTrace(trace); got != "" {
				t.Errorf("FormatTrace of %s = %q", show(trace), show(got))
			}
		}
	}
	if tried < 1000 {
		t.Errorf("only %d actions that are not well-formed", tried)
	}
}

// TestAlmostTraces is about texts that are almost the text of a trace.
func TestAlmostTraces(t *testing.T) {
	for _, text := range []string{
		" ", "  ", "A", "!", "A!", "A!B", "A!Ba", "A!Ba B?Aa", "A!Ba  ", "A!Ba   ", " A!Ba ", "A!Ba  B?Aa ", "A!BaB?Aa ",
		"A!Aa ", "B?Bb ", "C!Cc ", "A!Ba B?Ba ", "A!Be ", "A!BA ", "A!B` ", "A!B  ", "A!B ", "A!a ", "!Ba ", "D!Ba ", "A!Da ", "a!Ba ", "A!ba ",
		"A-Ba ", "A.Ba ", "A Ba ", "ABa ", "A!!Ba ", "A!?Ba ", "A?!Ba ", "AB!a ", "!ABa ", "AB?a ", "A!Bab ", "A!BCa ", "AB!Ca ",
		"A!Ba\n", "A!Ba\t", "A!Ba\x00", "A!Ba \x00", "\x00", "\x00A!Ba ", "A!Ba .", "A!Ba end", "A!Ba,", "A!Ba;B?Aa ", "A!Ba\r\n", "\ufeffA!Ba ",
		"A\xa1Ba ", "Ä!Ba ", "A!Bä ", "A!Ba\u00a0", "A\uff01Ba ", "A!Ba B?Aa x", "A!Ba B?", "A!Ba B?Aa C!", "A?Ba\xff",
	} {
		checkNoTrace(t, text)
	}
	// Every text near that of a trace: a byte less, another byte, a byte more.
	pattern := regexp.MustCompile(`^((A[!?][BC]|B[!?][AC]|C[!?][AB])[a-d] )*$`)
	for _, text := range []string{"", "A!Ba ", "C?Bd ", "B!Cb A?Cc C!Ad "} {
		for i := range len(text) + 1 {
			for c := range 256 {
				near := []string{text[:i] + string([]byte{byte(c)}) + text[i:]}
				if i < len(text) {
					near = append(near, text[:i]+text[i+1:], text[:i]+string([]byte{byte(c)})+text[i+1:])
				}
				for _, s := range near {
					checkPattern(t, pattern, s)
				}
			}
		}
	}
	for c := range 12 * 12 * 12 * 12 * 12 {
		s := make([]byte, 5)
		for i := range s {
			s[i] = "ABCD!?-abde "[c%12]
			c /= 12
		}
		checkPattern(t, pattern, string(s))
	}
}

// checkPattern requires that ParseTrace accepts exactly the texts that match.
func checkPattern(t *testing.T, pattern *regexp.Regexp, text string) {
	t.Helper()
	if pattern.MatchString(text) {
		checkTraceText(t, acts(text), text)
	} else {
		checkNoTrace(t, text)
	}
}

func TestRunChoices(t *testing.T) {
	const last = -1 << 63
	both := [3]string{"@B!{a#0|b.}", "@A?{a#0|b.}", "."}
	for _, c := range []struct {
		locals  [3]string
		queues  []string
		choices []int
		trace   string
		after   string
	}{
		// No choices, and no enabled action.
		{both, nil, nil, "", "@B!{a#0|b.} @A?{a#0|b.} . [,,,,,,,,]"},
		{both, []string{"ABa"}, []int{}, "", "@B!{a#0|b.} @A?{a#0|b.} . [,a,,,,,,,]"},
		{[3]string{".", "@.", "."}, nil, []int{0, 1, 2}, "", ". @. . [,,,,,,,,]"},
		{[3]string{"B?{a.}", "A?{a.}", "."}, []string{"CBa"}, []int{0, -1, last}, "", "B?{a.} A?{a.} . [,,,,,,,a,]"},
		// The first, the last and further ones, and more choices than actions.
		{both, nil, []int{0}, "A!Ba", "@B!{a#0|b.} @A?{a#0|b.} . [,a,,,,,,,]"},
		{both, nil, []int{1}, "A!Bb", ". @A?{a#0|b.} . [,b,,,,,,,]"},
		{both, nil, []int{2}, "A!Ba", "@B!{a#0|b.} @A?{a#0|b.} . [,a,,,,,,,]"},
		{both, nil, []int{1, 7, 0, 0}, "A!Bb B?Ab", ". . . [,,,,,,,,]"},
		{both, nil, []int{0, 2, 4, 8, 3, 1, 1}, "A!Ba B?Aa A!Ba B?Aa A!Bb B?Ab", ". . . [,,,,,,,,]"},
		{both, nil, []int{0, 0, 0, 0, 0}, "A!Ba A!Ba A!Ba B?Aa A!Ba", "@B!{a#0|b.} @A?{a#0|b.} . [,aaa,,,,,,,]"},
		// Negative choices: of two actions, of three, and of five.
		{both, nil, []int{-1}, "A!Bb", ". @A?{a#0|b.} . [,b,,,,,,,]"},
		{both, nil, []int{-2, -1, -3}, "A!Ba B?Aa A!Bb", ". @A?{a#0|b.} . [,b,,,,,,,]"},
		{both, nil, []int{last}, "A!Ba", "@B!{a#0|b.} @A?{a#0|b.} . [,a,,,,,,,]"},
		{both, nil, []int{last + 1}, "A!Bb", ". @A?{a#0|b.} . [,b,,,,,,,]"},
		{both, []string{"ABa"}, []int{last}, "A!Bb", ". @A?{a#0|b.} . [,ab,,,,,,,]"},
		{both, []string{"ABa"}, []int{-last - 1, last + 1}, "A!Bb B?Aa", ". @A?{a#0|b.} . [,b,,,,,,,]"},
		{[3]string{"B!{a.|b.}", "C!{a.|b.|c.}", "."}, nil, []int{last}, "B!Ca", "B!{a.|b.} . . [,,,,,a,,,]"},
		{[3]string{"B!{a.|b.}", "C!{a.|b.|c.}", "."}, nil, []int{-1, -4}, "B!Cc A!Ba", ". . . [,a,,,,c,,,]"},
		// It stops in the middle, and not at what could become possible later.
		{[3]string{"B!{a.}", "A?{aA?{b.}}", "."}, nil, []int{0, 0, 0, 0}, "A!Ba B?Aa", ". A?{b.} . [,,,,,,,,]"},
	} {
		n := networkOf(t, c.locals, c.queues...)
		if got := actTexts(checkRun(t, n, c.choices)); got != c.trace {
			t.Errorf("RunChoices of %s with %v: %s, want %s", networkText(n), c.choices, got, c.trace)
		}
		if got, _ := impl.RunChoices(n, c.choices); networkText(got) != c.after {
			t.Errorf("RunChoices of %s with %v leads to %s, want %s", networkText(n), c.choices, networkText(got), c.after)
		}
	}
	n := protocolNetwork(t, "AB{aBC{cCA{d.}}|bBC{d.}}")
	if got := actTexts(checkRun(t, n, make([]int, 7))); got != "A!Ba B?Aa B!Cc C?Bc C!Ad A?Cd" {
		t.Errorf("RunChoices of the example: %s", got)
	}
}

// TestNumberOfChoices is about the first 24 choices.
func TestNumberOfChoices(t *testing.T) {
	n := networkOf(t, [3]string{"@B!{a#0|b#0}", "@A?{aC!{c#0}|bC!{d#0}}", "@B?{c#0|d#0}"})
	r := rand.New(rand.NewSource(14))
	choices := randomChoices(r, 1000)
	for _, number := range []int{0, 1, 2, 22, 23, 24, 25, 26, 48, 1000} {
		trace := checkRun(t, n, choices[:number])
		if len(trace) != min(number, 24) {
			t.Errorf("RunChoices performs %d actions with %d choices", len(trace), number)
		}
	}
	returns(t, "RunChoices", func() { checkRun(t, n, make([]int, 1<<22)) })
	// The trace has 24 actions, and is finished with the last of them, or just not.
	for _, length := range []int{23, 24, 25} {
		text := strings.Repeat("B!{a", length) + "." + strings.Repeat("}", length)
		n := networkOf(t, [3]string{text, "@A?{a#0}", "."})
		last, trace := impl.RunChoices(n, slices.Repeat([]int{0}, 40))
		want, _ := runByRules(n, slices.Repeat([]int{0}, 40))
		if len(trace) != 24 || !sameNetwork(last, want) {
			t.Errorf("RunChoices of %s = %s, %s", networkText(n), networkText(last), actTexts(trace))
		}
	}
}

// TestRefusedChoice is about executions that stop because ApplyAction refuses an action.
func TestRefusedChoice(t *testing.T) {
	for _, within := range []bool{false, true} {
		for _, next := range foldedTypes("B", within) {
			// A may send a, after which its type can be too large, or b, and B may send c.
			n := networkOf(t, [3]string{".", "@C!{c#0}", "."})
			n = withLocal(n, 0, send("C", option("a", next), option("b", done())))
			for _, c := range []struct {
				choices []int
				trace   string
			}{
				{[]int{0}, ""}, {[]int{0, 1, 1}, ""}, {[]int{0, 2, 2, 2}, ""}, {[]int{-3, 1}, ""}, {[]int{3, 2}, ""},
				{[]int{1}, "A!Cb"}, {[]int{1, 0}, "A!Cb B!Cc"}, {[]int{2, 0, 1}, "B!Cc"}, {[]int{2, 2, 0, 2, 1}, "B!Cc B!Cc"}, {[]int{2, 1, 0}, "B!Cc A!Cb B!Cc"},
			} {
				trace := checkRun(t, n, c.choices)
				if got := actTexts(trace); !within && got != c.trace {
					t.Errorf("RunChoices of %s with %v: %s, want %s", networkText(n), c.choices, got, c.trace)
				}
			}
			replayed, ok := impl.ReplayTrace(n, acts("B!Cc A!Ca"))
			if ok != within || !ok && !isZeroNetwork(replayed) {
				t.Errorf("ReplayTrace in %s = %v", networkText(n), ok)
			}
			if replayed, ok := impl.ReplayTrace(n, acts("B!Cc A!Ca B!Cc")); ok != within || !ok && !isZeroNetwork(replayed) {
				t.Errorf("ReplayTrace in %s = %v", networkText(n), ok)
			}
		}
	}
}

func TestReplayTrace(t *testing.T) {
	n := networkOf(t, [3]string{"@B!{a#0|b.}", "@A?{a#0|b.}", "B?{d.}"}, "CAd")
	for _, c := range []struct {
		trace string
		after string
	}{
		{"", "@B!{a#0|b.} @A?{a#0|b.} B?{d.} [,,,,,,d,,]"},
		{"A!Ba", "@B!{a#0|b.} @A?{a#0|b.} B?{d.} [,a,,,,,d,,]"},
		{"A!Ba A!Bb B?Aa", ". @A?{a#0|b.} B?{d.} [,b,,,,,d,,]"},
		{"A!Ba A!Ba A!Ba B?Aa A!Bb B?Aa B?Aa B?Ab", ". . B?{d.} [,,,,,,d,,]"},
		// The first, a later or the last action is not possible.
		{"B?Aa", ""}, {"A!Bc", ""}, {"A!Ca", ""}, {"A?Ba", ""}, {"A?Cd", ""}, {"C?Bd", ""}, {"B!Aa", ""}, {"A!Ba B?Ab", ""}, {"A!Bb A!Bb", ""},
		{"A!Ba A!Ba A!Ba A!Ba", ""}, {"A!Ba B?Aa B?Aa", ""}, {"B?Aa A!Ba", ""}, {"A!Ba B?Ab B?Aa", ""}, {"A!Ba B?Aa A!Bb B?Ab B?Ab", ""},
		{"A!Aa", ""}, {"A!Be", ""}, {"D!Ba", ""}, {"A!Ba B?Da", ""},
	} {
		got, ok := impl.ReplayTrace(n, acts(c.trace))
		if ok != (c.after != "") || ok && networkText(got) != c.after || !ok && !isZeroNetwork(got) {
			t.Errorf("ReplayTrace of %s = %s, %v, want %s", c.trace, show(got), ok, c.after)
		}
	}
	if got, ok := impl.ReplayTrace(n, nil); !ok || !sameNetwork(got, n) {
		t.Errorf("ReplayTrace of the empty trace = %s, %v", show(got), ok)
	}
	for _, a := range anyActions() {
		want := slices.Contains(enabledByRules(n), a)
		if got, ok := impl.ReplayTrace(n, []impl.Action{a}); ok != want || !ok && !isZeroNetwork(got) {
			t.Errorf("ReplayTrace of %+v = %s, %v", a, show(got), ok)
		}
	}
}

// TestNumberOfReplayed is about traces of 24 actions and of more.
func TestNumberOfReplayed(t *testing.T) {
	n := networkOf(t, [3]string{"@B!{a#0}", "@A?{a#0}", "."})
	for number := range 40 {
		trace := slices.Repeat(acts("A!Ba B?Aa"), 20)[:number]
		got, ok := impl.ReplayTrace(n, trace)
		if ok != (number <= 24) || !ok && !isZeroNetwork(got) {
			t.Errorf("ReplayTrace of %d actions = %s, %v", number, show(got), ok)
		}
		if want := []string{"", "a"}[number%2]; ok && got.Queues[1] != want {
			t.Errorf("ReplayTrace of %d actions leads to %s", number, networkText(got))
		}
	}
	returns(t, "ReplayTrace", func() {
		if got, ok := impl.ReplayTrace(n, make([]impl.Action, 1<<20)); ok || !isZeroNetwork(got) {
			t.Errorf("ReplayTrace of many actions = %s, %v", show(got), ok)
		}
	})
}

// TestExecutionsCanBeReplayed is about promise 5.
func TestExecutionsCanBeReplayed(t *testing.T) {
	r := rand.New(rand.NewSource(15))
	actions, long := 0, 0
	for _, n := range mixedNetworks(t, 600, 400, 600) {
		trace := checkRun(t, n, randomChoices(r, r.Intn(40)))
		actions += len(trace)
		if len(trace) == 24 {
			long++
		}
	}
	if actions < 5000 || long < 50 {
		t.Errorf("only %d actions and %d long traces", actions, long)
	}
}
