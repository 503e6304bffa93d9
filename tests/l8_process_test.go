package tests

import (
	"math/rand"
	"slices"
	"strings"
	"testing"

	"loop.example/sessiontypes/impl"
)

func TestProcessConstants(t *testing.T) {
	kinds := []int{impl.ProcessEnd, impl.ProcessSend, impl.ProcessReceive, impl.ProcessChoose, impl.ProcessLoop, impl.ProcessContinue}
	if !slices.Equal(kinds, []int{1, 2, 3, 4, 5, 6}) || impl.MaxProcessNodes != 40 {
		t.Errorf("the kinds are %v, and MaxProcessNodes is %d", kinds, impl.MaxProcessNodes)
	}
}

func TestProcessTexts(t *testing.T) {
	for _, c := range []struct {
		text string
		p    impl.Process
	}{
		{".", finish()},
		{"@.", repeat(finish())},
		{"@@@.", repeats(3, finish())},
		{"A!a.", emit("A", "a", finish())},
		{"B!bC!cA!d.", emit("B", "b", emit("C", "c", emit("A", "d", finish())))},
		{"A?{d.}", accept("A", arm("d", finish()))},
		{"B?{a.|c.}", accept("B", arm("a", finish()), arm("c", finish()))},
		{"C?{b.|c.|d.}", accept("C", arm("b", finish()), arm("c", finish()), arm("d", finish()))},
		{"C?{aA!a.|bB?{c.}}", accept("C", arm("a", emit("A", "a", finish())), arm("b", accept("B", arm("c", finish()))))},
		{"(.+.)", either(finish(), finish())},
		{"((.+A!a.)+B?{a.})", either(either(finish(), emit("A", "a", finish())), accept("B", arm("a", finish())))},
		{"(.+(.+.))", either(finish(), either(finish(), finish()))},
		{"@B!a#0", repeat(emit("B", "a", jump(0)))},
		{"@@B?{a#1|b#0}", repeats(2, accept("B", arm("a", jump(1)), arm("b", jump(0))))},
		{"@C!a@#1", repeat(emit("C", "a", repeat(jump(1))))},
		{"@(B!a#0+B!b.)", repeat(either(emit("B", "a", jump(0)), emit("B", "b", finish())))},
		{"@A!a(#0+.)", repeat(emit("A", "a", either(jump(0), finish())))},
		{"@A!a@(#1+C?{c#0|d#1})", repeat(emit("A", "a", repeat(either(jump(1), accept("C", arm("c", jump(0)), arm("d", jump(1)))))))},
	} {
		checkProcess(t, c.p, true)
		checkParseProcess(t, c.text)
		if s := impl.FormatProcess(c.p); s != c.text {
			t.Errorf("FormatProcess = %q, want %q", s, c.text)
		}
		if p, ok := impl.ParseProcess(c.text); !ok || !sameProcess(p, c.p) {
			t.Errorf("ParseProcess(%q) = %s, %v", c.text, show(p), ok)
		}
	}
	for _, p := range randomProcesses(3000) {
		checkProcess(t, p, true)
		checkParseProcess(t, textOfProcess(p))
	}
}

func TestInvalidProcessTexts(t *testing.T) {
	for _, s := range []string{
		"", " ", "..", " .", ". ", ".\n", "\x00", "\xff", "é", "@", "#", "#0", "#-1", "@#0", "@@#0", "@@#1", "@#", "(", ")", "+", "|", "{", "}",
		// Sends.
		"B", "B!", "B!a", "B!.", "B!aa.", "B!a..", "B!e.", "B!A.", "B!0.", "B!{a.}", "B!{a.|b.}", "B!|a.", "D!a.", "b!a.", "!a.", "BC!a.", "BB!a.", "B!!a.", "Ba.", "B-a.", "B !a.", "B! a.", "B!a .",
		// Receives.
		"B?", "B?{", "B?}", "B?a.", "B?.", "B?{}", "B?{a", "B?{a.", "B?{a}", "B?{.}", "B?{|a.}", "B?{a.|}", "B?{a.|b}", "B?{a.|b.", "B?{a.}}", "B?{a.}.", "B?{a..}", "B?{a.b.}", "B?{a.,b.}", "B?{a.{b.}",
		"D?{a.}", "b?{a.}", "?{a.}", "BC?{a.}", "B??{a.}", "B?!{a.}", "B!?{a.}", "B?(a.)", "B?{e.}", "B?{A.}", "B?{ab.}", "B?{a.+b.}", "B{a.}",
		"B?{b.|a.}", "B?{a.|a.}", "B?{a.|c.|b.}", "B?{a.|b.|b.}", "B?{a.|b.|c.|d.}", "B?{a.|b.|c.|c.}", "B?{a.|b.|c.|e.}",
		// Choices.
		"()", "(.)", "(+)", "(.+)", "(+.)", "(.+.", "(.+.+.)", "(.+.+)", "(.++.)", "(..)", "(.|.)", "(.+.}", "{.+.}", "(.+.))", "((.+.)", "(.+.).", "((.+.))", "( .+.)", "(.+ .)", "(B!a.)", "(a.+b.)", ".+.", "[.+.]",
		// Continuations.
		"B!a#0", "@B!a#1", "@B!a@#0", "@@B!a#2", "@B!a@@#1", "@B!a#", "@B!a#-1", "@B!a#00", "@B!a#+0", "@B!a# 0", "@B!a #0", "@(#0+B!a#0)", "@(B!a#0+#0)", "@(.+(.+#0))", "@B!a(.+#1)", "@B!a@(.+#0)", "@(@#1+.)",
		"(@B!a.+B!a#0)", "@B?{a#0|b#1}", "B?{a@B!a#0|b#0}", "@B!a#0#0", "@ .", "B!a\x00.", "B\x00!a.", "\xff!a.", "B\x80!a.", "B!\x80.", "B?{\x80.}", "B?{a\x80}",
	} {
		checkParseProcess(t, s)
		if p, ok := impl.ParseProcess(s); ok || !isZeroProcess(p) {
			t.Errorf("ParseProcess(%q) = %s, %v", s, show(p), ok)
		}
	}
}

// TestAllShortProcessTexts reads every sequence of a few pieces, and with it every small process in those pieces.
func TestAllShortProcessTexts(t *testing.T) {
	accepted := 0
	var extend func(s string, n int, pieces []string)
	extend = func(s string, n int, pieces []string) {
		checkParseProcess(t, s)
		if _, ok := impl.ParseProcess(s); ok {
			accepted++
		}
		if n == 0 {
			return
		}
		for _, piece := range pieces {
			extend(s+piece, n-1, pieces)
		}
	}
	extend("", 7, []string{".", "#0", "@", "B!a", "(", "+", ")"})
	extend("", 6, []string{".", "#1", "@", "C?{b", "|c", "}"})
	extend("", 6, []string{".", "#", "0", "@", "A", "!", "?", "a", "{", "}"})
	if accepted < 150 {
		t.Errorf("only %d texts are accepted", accepted)
	}
}

func TestChangedProcessTexts(t *testing.T) {
	for _, s := range []string{"@(B!aC?{c#0}+B!b.)", "@@C?{b#1|c@#1|d(.+.)}", "A!a(B?{a.|b.|c.}+(A!b@.+#0))", "."} {
		for i := range s {
			checkParseProcess(t, s[:i])
			checkParseProcess(t, s[i+1:])
			checkParseProcess(t, s[:i]+s[i+1:])
			checkParseProcess(t, s+s[i:])
			for c := range 256 {
				checkParseProcess(t, s[:i]+string([]byte{byte(c)})+s[i+1:])
				checkParseProcess(t, s[:i]+string([]byte{byte(c)})+s[i:])
				checkParseProcess(t, s+string([]byte{byte(c)}))
			}
		}
	}
	r := rand.New(rand.NewSource(24))
	for range 20000 {
		s := make([]byte, r.Intn(12))
		for i := range s {
			s[i] = byte(r.Intn(256))
		}
		checkParseProcess(t, string(s))
	}
}

func TestIndexInProcessText(t *testing.T) {
	for count := 1; count <= 36; count++ {
		for index := -1; index <= count; index++ {
			p := repeats(count, accept("A", arm("a", jump(index)), arm("b", finish())))
			valid := 0 <= index && index < count
			checkProcess(t, p, valid)
			if got, ok := impl.ParseProcess(textOfProcess(p)); ok != (valid && index <= 9) || !ok && !isZeroProcess(got) || ok && !sameProcess(got, p) {
				t.Errorf("ParseProcess(%q) = %s, %v", textOfProcess(p), show(got), ok)
			}
		}
	}
	p := repeats(13, emit("C", "a", jump(12)))
	if s := impl.FormatProcess(p); s != "@@@@@@@@@@@@@C!a#12" {
		t.Errorf("FormatProcess = %q", s)
	}
	if p, ok := impl.ParseProcess("@@@@@@@@@@@@@C!a#9"); !ok || !sameProcess(p, repeats(13, emit("C", "a", jump(9)))) {
		t.Errorf("ParseProcess with the index 9 = %s, %v", show(p), ok)
	}
	for _, s := range []string{"#10", "#12", "#010", "#09", "#:", "#/", "#a", "#", "#99999999999999999999", "#-1"} {
		s = "@@@@@@@@@@@@@C!a" + s
		if p, ok := impl.ParseProcess(s); ok || !isZeroProcess(p) {
			t.Errorf("ParseProcess(%q) = %s, %v", s, show(p), ok)
		}
	}
}

// TestProcessNodeLimit has long, wide and mixed processes with as many nodes as there can be, and more.
func TestProcessNodeLimit(t *testing.T) {
	for n := 30; n <= 50; n++ {
		wide := finish()
		for size := 1; size+2 <= n; size += 2 {
			wide = either(finish(), wide)
		}
		if n%2 == 0 {
			wide = repeat(wide)
		}
		for _, p := range []impl.Process{
			sizedProcess(n), emits(n-1, finish()), repeats(n-1, finish()), repeats(n/2, emits(n-1-n/2, jump(0))), wide,
			accept("B", arm("a", emits(n-3, finish())), arm("b", finish())), accept("B", arm("a", finish()), arm("b", emits(n-3, finish()))),
			repeat(either(emits(n-4, jump(0)), finish())),
		} {
			size := sizeProcess(p)
			if size != n {
				t.Fatalf("the test has built %d nodes instead of %d", size, n)
			}
			checkProcess(t, p, n <= 40)
			checkParseProcess(t, textOfProcess(p))
		}
	}
	// The longest text of 40 nodes, and one of 41.
	text := strings.Repeat("B?{a", 39) + "." + strings.Repeat("}", 39)
	if p, ok := impl.ParseProcess(text); !ok || sizeProcess(p) != 40 || impl.FormatProcess(p) != text {
		t.Errorf("ParseProcess of %d bytes = %s, %v", len(text), show(p), ok)
	}
	if p, ok := impl.ParseProcess("B?{a" + text + "}"); ok || !isZeroProcess(p) {
		t.Errorf("ParseProcess of %d bytes = %s, %v", len(text)+5, show(p), ok)
	}
}

// unusedFields returns p with each of the fields that its kind does not use set to something.
func unusedFields(p impl.Process) []impl.Process {
	var list []impl.Process
	with := func(change func(q *impl.Process)) {
		q := p
		q.Branches = slices.Clone(p.Branches)
		change(&q)
		list = append(list, q)
	}
	for _, text := range []string{"A", "B", "a", "D", " ", "\x00", "AB"} {
		if p.Kind != impl.ProcessSend && p.Kind != impl.ProcessReceive {
			with(func(q *impl.Process) { q.Peer = text })
		}
	}
	for _, text := range []string{"a", "d", "A", "e", " ", "\x00", "ab"} {
		if p.Kind != impl.ProcessSend {
			with(func(q *impl.Process) { q.Label = text })
		}
		for i := range p.Branches {
			if p.Kind != impl.ProcessReceive {
				with(func(q *impl.Process) { q.Branches[i].Label = text })
			}
		}
	}
	for _, index := range []int{1, -1, 1 << 62, -1 << 63} {
		if p.Kind != impl.ProcessContinue {
			with(func(q *impl.Process) { q.Index = index })
		}
	}
	if p.Kind == impl.ProcessEnd || p.Kind == impl.ProcessContinue {
		with(func(q *impl.Process) { q.Branches = []impl.ProcessBranch{{}} })
		with(func(q *impl.Process) { q.Branches = []impl.ProcessBranch{{Next: finish()}} })
		with(func(q *impl.Process) { q.Branches = []impl.ProcessBranch{arm("a", finish())} })
	}
	return list
}

func TestUnusedProcessFields(t *testing.T) {
	around := []func(p impl.Process) impl.Process{
		func(p impl.Process) impl.Process { return p },
		func(p impl.Process) impl.Process { return repeat(emit("B", "a", p)) },
		func(p impl.Process) impl.Process { return repeat(accept("C", arm("a", finish()), arm("d", p))) },
		func(p impl.Process) impl.Process { return repeat(emit("B", "b", either(p, finish()))) },
		func(p impl.Process) impl.Process { return repeat(emit("B", "b", either(finish(), p))) },
		func(p impl.Process) impl.Process { return repeat(emit("B", "b", repeat(emit("B", "c", p)))) },
	}
	counts := map[int]int{}
	for _, p := range []impl.Process{
		finish(), emit("B", "a", finish()), accept("B", arm("a", finish())), accept("B", arm("a", finish()), arm("b", finish())),
		either(finish(), finish()), repeat(finish()), jump(0),
	} {
		for i, place := range around {
			checkProcess(t, place(p), i > 0 || p.Kind != impl.ProcessContinue)
			for _, changed := range unusedFields(p) {
				checkProcess(t, place(changed), false)
				counts[p.Kind]++
			}
		}
	}
	for kind := 1; kind <= 6; kind++ {
		if counts[kind] < 60 {
			t.Errorf("only %d nodes of the kind %d", counts[kind], kind)
		}
	}
}

// invalidNodes returns processes whose root is not valid in any place.
func invalidNodes() []impl.Process {
	list := []impl.Process{
		{}, {Kind: -1}, {Kind: 7}, {Kind: 8}, {Kind: 1 << 62}, {Kind: -1 << 63}, {Kind: 0, Branches: []impl.ProcessBranch{{Next: finish()}}},
		{Kind: 7, Branches: []impl.ProcessBranch{{Next: finish()}}}, {Peer: "B", Label: "a", Branches: []impl.ProcessBranch{{Next: finish()}}},
		jump(-1), jump(-1 << 63), jump(1<<63 - 1), jump(40),
		// No branch, and more than one.
		{Kind: impl.ProcessSend, Peer: "B", Label: "a"}, {Kind: impl.ProcessSend, Peer: "B", Label: "a", Branches: []impl.ProcessBranch{{Next: finish()}, {Next: finish()}}},
		{Kind: impl.ProcessLoop}, {Kind: impl.ProcessLoop, Branches: []impl.ProcessBranch{{Next: finish()}, {Next: finish()}}},
		either(), either(finish()), either(finish(), finish(), finish()), either(finish(), finish(), finish(), finish()),
		accept("B"), accept("B", arm("a", finish()), arm("b", finish()), arm("c", finish()), arm("d", finish())),
		// Nodes below that are not valid.
		emit("B", "a", impl.Process{}), repeat(impl.Process{}), either(impl.Process{}, finish()), either(finish(), impl.Process{}),
		accept("B", arm("a", impl.Process{})), accept("B", arm("a", finish()), arm("b", impl.Process{})), accept("B", arm("a", impl.Process{}), arm("b", finish())),
	}
	for _, peer := range []string{"", "D", "a", "b", "AB", "BC", "ABC", " ", "B ", " B", "\x00", "\xff", "Ä"} {
		list = append(list, emit(peer, "a", finish()), accept(peer, arm("a", finish())))
	}
	for _, label := range []string{"", "e", "A", "B", "ab", "abcd", "bc", " ", "a ", "\x00", "\xff", "`", "ä"} {
		list = append(list, emit("B", label, finish()), accept("B", arm(label, finish())))
		list = append(list, accept("B", arm("a", finish()), arm(label, finish())), accept("B", arm(label, finish()), arm("d", finish())))
	}
	for _, labels := range []string{"aa", "ba", "dd", "dc", "aab", "abb", "aba", "acb", "bac", "cba", "bca", "cab", "ddd", "aaa", "abca", "abcc"} {
		p := accept("C")
		for _, label := range strings.Split(labels, "") {
			p.Branches = append(p.Branches, arm(label, finish()))
		}
		list = append(list, p)
	}
	return list
}

func TestInvalidProcesses(t *testing.T) {
	for _, p := range invalidNodes() {
		for _, whole := range []impl.Process{
			p, repeat(p), emit("B", "a", p), accept("A", arm("a", p)), accept("A", arm("a", finish()), arm("b", p)), accept("A", arm("a", p), arm("b", finish())),
			either(p, finish()), either(finish(), p), either(p, p), repeat(emit("C", "d", either(jump(0), repeat(p)))),
		} {
			checkProcess(t, whole, false)
		}
	}
}

// TestReceiveLabels has each list of up to four labels, of which some are none.
func TestReceiveLabels(t *testing.T) {
	valid := 0
	var extend func(labels []string)
	extend = func(labels []string) {
		p, ascending := accept("B"), true
		for i, label := range labels {
			p.Branches = append(p.Branches, arm(label, finish()))
			ascending = ascending && label != "" && label != "e" && (i == 0 || labels[i-1] < label)
		}
		ok := ascending && 1 <= len(labels) && len(labels) <= 3
		checkProcess(t, p, ok)
		if ok {
			valid++
		}
		if len(labels) == 4 {
			return
		}
		for _, label := range []string{"", "a", "b", "c", "d", "e"} {
			extend(append(slices.Clip(labels), label))
		}
	}
	extend(nil)
	if valid != 4+6+4 {
		t.Errorf("%d lists of labels are valid", valid)
	}
}

func TestFreeAndUnguardedContinuations(t *testing.T) {
	for _, c := range []struct {
		p     impl.Process
		valid bool
	}{
		// Outside of the process.
		{jump(0), false}, {jump(5), false}, {emit("B", "a", jump(0)), false}, {either(jump(0), finish()), false}, {accept("B", arm("a", finish()), arm("b", jump(0))), false},
		{repeat(emit("B", "a", jump(0))), true}, {repeat(emit("B", "a", jump(1))), false}, {repeats(2, emit("B", "a", jump(1))), true}, {repeats(2, emit("B", "a", jump(2))), false},
		// The loop ends before what would continue with it.
		{emit("B", "a", either(repeat(emit("B", "a", jump(0))), jump(0))), false}, {either(repeat(finish()), emit("B", "a", jump(0))), false},
		{accept("B", arm("a", repeat(finish())), arm("b", jump(0))), false}, {repeat(emit("B", "a", either(repeat(finish()), jump(1)))), false},
		{repeat(emit("B", "a", either(repeat(finish()), jump(0)))), true},
		// No message in between.
		{repeat(jump(0)), false}, {repeats(2, jump(0)), false}, {repeats(2, jump(1)), false}, {repeats(3, jump(1)), false},
		{repeat(either(jump(0), finish())), false}, {repeat(either(finish(), jump(0))), false}, {repeat(either(either(finish(), jump(0)), finish())), false},
		{repeat(either(emit("B", "a", jump(0)), jump(0))), false}, {repeat(either(jump(0), emit("B", "a", jump(0)))), false}, {repeat(either(emit("B", "a", jump(0)), emit("B", "b", jump(0)))), true},
		{repeat(either(repeat(jump(1)), finish())), false}, {repeat(either(repeat(emit("B", "a", jump(1))), finish())), true}, {repeat(repeat(either(finish(), jump(1)))), false},
		// A message before the loop, or after the inner one, does not count.
		{emit("B", "a", repeat(jump(0))), false}, {repeat(emit("B", "a", repeat(jump(0)))), false}, {repeat(emit("B", "a", repeat(jump(1)))), true},
		{repeat(accept("B", arm("a", repeat(jump(0))))), false}, {repeat(accept("B", arm("a", repeat(jump(1))))), true},
		{repeat(emit("B", "a", repeats(2, jump(1)))), false}, {repeat(emit("B", "a", repeats(2, jump(2)))), true}, {repeats(2, emit("B", "a", repeat(either(jump(1), jump(2))))), true},
		{repeats(2, emit("B", "a", repeat(either(jump(1), jump(0))))), false}, {repeat(emit("B", "a", either(jump(0), repeat(either(jump(1), finish()))))), true},
		// A message in another branch does not count.
		{repeat(either(emit("B", "a", finish()), jump(0))), false}, {repeat(accept("B", arm("a", jump(0)), arm("b", repeat(jump(0))))), false}, {repeat(accept("B", arm("a", jump(0)), arm("b", repeat(jump(1))))), true},
	} {
		if validProcess(c.p) != c.valid {
			t.Fatalf("the test is wrong about %s", textOfProcess(c.p))
		}
		checkProcess(t, c.p, c.valid)
		checkParseProcess(t, textOfProcess(c.p))
	}
}

// TestAllSmallProcesses has each process of a few nodes, and with it other indices.
func TestAllSmallProcesses(t *testing.T) {
	seen := map[string]bool{}
	for n := 1; n <= 5; n++ {
		// Some of these continue with loops outside of them, or have no message before.
		for _, p := range allProcesses(n, 2, 0) {
			for _, whole := range []impl.Process{p, repeat(p), repeats(2, p), emit("B", "a", p), repeat(emit("B", "a", p)), repeat(emit("B", "a", repeat(p)))} {
				checkProcess(t, whole, validProcess(whole))
				checkParseProcess(t, textOfProcess(whole))
				seen[textOfProcess(whole)] = validProcess(whole)
			}
		}
	}
	valid := 0
	for _, ok := range seen {
		if ok {
			valid++
		}
	}
	if valid < 5000 || len(seen)-valid < 5000 {
		t.Errorf("only %d valid processes, and %d others", valid, len(seen)-valid)
	}
}

func TestProcessEqual(t *testing.T) {
	list := []impl.Process{
		{}, finish(), jump(0), jump(1), jump(-1), {Kind: 9}, {Kind: -1, Index: 3}, {Kind: impl.ProcessEnd, Peer: "B"}, {Kind: impl.ProcessEnd, Label: "a"}, {Kind: impl.ProcessEnd, Index: 1},
		{Kind: impl.ProcessEnd, Label: "B"}, {Peer: "B"}, {Label: "B"}, {Index: 1}, {Peer: "a", Label: "B"}, {Peer: "B", Label: "a"},
		repeat(finish()), repeats(2, finish()), repeat(jump(0)), repeat(impl.Process{}), either(finish()), either(finish(), finish()), either(finish(), finish(), finish()), either(), either(finish(), jump(0)), either(jump(0), finish()),
		emit("B", "a", finish()), emit("C", "a", finish()), emit("B", "b", finish()), emit("B", "", finish()), emit("", "a", finish()), emit("B", "a", jump(0)), emit("B", "a", emit("B", "a", finish())), {Kind: impl.ProcessSend, Peer: "B", Label: "a"},
		{Kind: impl.ProcessSend, Peer: "B", Label: "a", Branches: []impl.ProcessBranch{arm("a", finish())}}, {Kind: impl.ProcessSend, Peer: "B", Label: "a", Index: 1, Branches: []impl.ProcessBranch{{Next: finish()}}},
		accept("B"), accept("B", arm("a", finish())), accept("B", arm("b", finish())), accept("B", arm("", finish())), accept("C", arm("a", finish())), accept("B", arm("a", jump(0))), accept("B", arm("a", finish()), arm("b", finish())),
		accept("B", arm("b", finish()), arm("a", finish())), accept("B", arm("a", finish()), arm("a", finish())), accept("B", arm("a", finish()), arm("b", jump(2))), accept("B", arm("a", jump(2)), arm("b", finish())),
		{Kind: impl.ProcessReceive, Peer: "B", Label: "a", Branches: []impl.ProcessBranch{arm("a", finish())}}, accept("\xff", arm("long", jump(-5))), accept("\xff", arm("long", jump(-6))), accept("\xfe", arm("long", jump(-5))),
		emits(39, finish()), emits(40, finish()), emits(41, finish()), emits(40, jump(0)), sizedProcess(41), sizedProcess(200), sizedProcess(201),
	}
	for i, a := range list {
		for j, b := range list {
			if got := impl.ProcessEqual(a, spaciousProcess(b)); got != (i == j) {
				t.Errorf("ProcessEqual of %s and %s = %v", show(a), show(b), got)
			}
		}
	}
	for _, p := range invalidNodes() {
		if !impl.ProcessEqual(p, spaciousProcess(p)) || !impl.ProcessEqual(repeat(p), repeat(spaciousProcess(p))) || impl.ProcessEqual(p, repeat(p)) {
			t.Errorf("ProcessEqual of %s", show(p))
		}
	}
	r := rand.New(rand.NewSource(25))
	random, equal := randomProcesses(400), 0
	for range 20000 {
		a, b := random[r.Intn(len(random))], random[r.Intn(len(random))]
		if impl.ProcessEqual(a, b) != sameProcess(a, b) || impl.ProcessEqual(b, a) != sameProcess(a, b) {
			t.Fatalf("ProcessEqual of %s and %s = %v", show(a), show(b), impl.ProcessEqual(a, b))
		}
		if sameProcess(a, b) {
			equal++
		}
	}
	if equal < 50 {
		t.Errorf("only %d pairs are equal", equal)
	}
}

func TestProcessEqualOfEmptySlices(t *testing.T) {
	for _, c := range [][2]impl.Process{
		{{}, {Branches: []impl.ProcessBranch{}}},
		{finish(), {Kind: impl.ProcessEnd, Branches: []impl.ProcessBranch{}}},
		{jump(3), {Kind: impl.ProcessContinue, Index: 3, Branches: make([]impl.ProcessBranch, 0, 3)}},
		{repeat(finish()), repeat(impl.Process{Kind: impl.ProcessEnd, Branches: []impl.ProcessBranch{}})},
		{accept("B"), {Kind: impl.ProcessReceive, Peer: "B", Branches: []impl.ProcessBranch{}}},
	} {
		if !impl.ProcessEqual(c[0], c[1]) || !impl.ProcessEqual(c[1], c[0]) {
			t.Errorf("%s and %s are not equal", show(c[0]), show(c[1]))
		}
	}
	checkProcess(t, impl.Process{Kind: impl.ProcessEnd, Branches: []impl.ProcessBranch{}}, true)
	checkProcess(t, emit("B", "a", impl.Process{Kind: impl.ProcessEnd, Branches: make([]impl.ProcessBranch, 0, 3)}), true)
	checkProcess(t, impl.Process{Kind: impl.ProcessReceive, Peer: "B", Branches: []impl.ProcessBranch{}}, false)
}
