package tests

import (
	"math/rand"
	"strings"
	"testing"

	"loop.example/sessiontypes/impl"
)

func TestRolesAndLabels(t *testing.T) {
	for c := range 256 {
		s := string([]byte{byte(c)})
		if got, want := impl.IsRole(s), c >= 'A' && c <= 'C'; got != want {
			t.Errorf("IsRole(%q) = %v", s, got)
		}
		if got, want := impl.IsLabel(s), c >= 'a' && c <= 'd'; got != want {
			t.Errorf("IsLabel(%q) = %v", s, got)
		}
	}
	for _, s := range []string{"", "AB", "ABC", "BC", "AA", " A", "A ", "A\x00", "Ä", "ab", "abcd", "bc", "aa", "a ", "\x00a", "ä"} {
		if impl.IsRole(s) {
			t.Errorf("IsRole(%q)", s)
		}
		if impl.IsLabel(s) {
			t.Errorf("IsLabel(%q)", s)
		}
	}
}

// checkGlobal compares every function that reads a type with the helpers.
func checkGlobal(t *testing.T, g impl.Global, valid bool) {
	t.Helper()
	wantText, wantNodes, wantRoles := "", 0, ""
	if valid {
		wantText, wantNodes = textOf(g), size(g)
		for _, role := range []string{"A", "B", "C"} {
			if strings.Contains(wantText, role) {
				wantRoles += role
			}
		}
	}
	if impl.GlobalValid(g) != valid {
		t.Fatalf("GlobalValid(%s) = %v", show(g), !valid)
	}
	if n := impl.GlobalNodes(g); n != wantNodes {
		t.Fatalf("GlobalNodes(%s) = %d, want %d", show(g), n, wantNodes)
	}
	if s := impl.FormatGlobal(g); s != wantText {
		t.Fatalf("FormatGlobal(%s) = %.400q, want %.400q", show(g), s, wantText)
	}
	if s := impl.GlobalRoles(g); s != wantRoles {
		t.Fatalf("GlobalRoles(%s) = %q, want %q", show(g), s, wantRoles)
	}
	if valid {
		return
	}
	if u, ok := impl.UnfoldGlobal(g); ok || !isZero(u) {
		t.Fatalf("UnfoldGlobal(%s) = %s, %v", show(g), show(u), ok)
	}
	for _, label := range []string{"a", "b", "c", "d", "e", ""} {
		if s, ok := impl.StepGlobal(g, label); ok || !isZero(s) {
			t.Fatalf("StepGlobal(%s, %q) = %s, %v", show(g), label, show(s), ok)
		}
	}
}

// checkParse compares ParseGlobal with the definition of the texts.
func checkParse(t *testing.T, s string) {
	t.Helper()
	g, ok := impl.ParseGlobal(s)
	want, rest, read := readGlobal(s)
	if !read || rest != "" || !validGlobal(want) {
		want, read = impl.Global{}, false
	}
	if ok != read || !sameGlobal(g, want) {
		t.Fatalf("ParseGlobal(%.400q) = %s, %v, want %s, %v", s, show(g), ok, show(want), read)
	}
}

func TestGlobalTexts(t *testing.T) {
	for _, c := range []struct {
		text  string
		nodes int
		roles string
		g     impl.Global
	}{
		{".", 1, "", end()},
		{"@.", 2, "", rec(end())},
		{"@@@.", 4, "", recs(3, end())},
		{"AB{a.}", 2, "AB", message("AB", branch("a", end()))},
		{"BA{d.}", 2, "AB", message("BA", branch("d", end()))},
		{"CA{a.}", 2, "AC", message("CA", branch("a", end()))},
		{"CB{b.}", 2, "BC", message("CB", branch("b", end()))},
		{"AB{a.|b.|c.}", 4, "AB", message("AB", branch("a", end()), branch("b", end()), branch("c", end()))},
		{"BC{b.|c.|d.}", 4, "BC", message("BC", branch("b", end()), branch("c", end()), branch("d", end()))},
		{"AC{a.|d.}", 3, "AC", message("AC", branch("a", end()), branch("d", end()))},
		{"@AB{a#0}", 3, "AB", rec(message("AB", branch("a", variable(0))))},
		{"@@AB{a#1|b#0}", 5, "AB", recs(2, message("AB", branch("a", variable(1)), branch("b", variable(0))))},
		{"@AB{a@#1}", 4, "AB", rec(message("AB", branch("a", rec(variable(1)))))},
		{"@AB{a@BC{c#0|d#1}}", 6, "ABC", rec(message("AB", branch("a", rec(message("BC", branch("c", variable(0)), branch("d", variable(1)))))))},
		{"@AB{aBC{c#0}|b.}", 5, "ABC", rec(message("AB", branch("a", message("BC", branch("c", variable(0)))), branch("b", end())))},
		{"AB{a@.|bAB{aAC{a.}}}", 6, "ABC", message("AB", branch("a", rec(end())), branch("b", message("AB", branch("a", message("AC", branch("a", end()))))))},
	} {
		checkGlobal(t, c.g, true)
		checkParse(t, c.text)
		if s := impl.FormatGlobal(c.g); s != c.text {
			t.Errorf("FormatGlobal = %q, want %q", s, c.text)
		}
		if g, ok := impl.ParseGlobal(c.text); !ok || !sameGlobal(g, c.g) {
			t.Errorf("ParseGlobal(%q) = %s, %v", c.text, show(g), ok)
		}
		if n, roles := impl.GlobalNodes(c.g), impl.GlobalRoles(c.g); n != c.nodes || roles != c.roles {
			t.Errorf("%q has %d nodes and the roles %q", c.text, n, roles)
		}
	}
	for _, g := range randomGlobals(2000) {
		checkGlobal(t, g, true)
		checkParse(t, textOf(g))
	}
}

func TestInvalidTexts(t *testing.T) {
	for _, s := range []string{
		"", " ", ".. ", "..", " .", ". ", ".\n", "\x00", "\xff", "é", "@", "#", "#0", "#-1", "@#0", "@@#0", "@@#1", "A", "AB", "AB{", "AB{a",
		"AB{a.", "AB{}", "AB{.}", "AB{a}", "AB{|a.}", "AB{a.|}", "AB{a.|b}", "AB{a.|b.", "AB{a.}}", "AB{a.}.", "AB{a..}", "AB{a.b.}", "AB{a.,b.}",
		"AA{a.}", "BB{a.}", "CC{a.}", "AD{a.}", "DA{a.}", "aB{a.}", "Ab{a.}", "B{a.}", "ABC{a.}", "AB(a.)", "AB{e.}", "AB{A.}", "AB{ab.}", "AB{0.}",
		"AB{b.|a.}", "AB{a.|a.}", "AB{a.|c.|b.}", "AB{a.|b.|b.}", "AB{a.|b.|c.|d.}", "AB{a#0}", "@AB{a#1}", "@AB{a@#0}", "@@AB{a#2}",
		"@AB{a@@#1}", "@AB{a#}", "@AB{a#-1}", "@AB{a#00}", "@AB{a#+0}", "@AB{a# 0}", "@AB{a #0}", "@AB{a#0|b#}", "AB{a@AB{a#0}|b#0}", "@AB{a#0}#0",
		"AB {a.}", "AB{a. |b.}", "@ .", "BC{c#0}", "AB{a\x00}", "AB\x00a.}", "\xffB{a.}", "A\x80{a.}", "AB{\x80.}",
	} {
		checkParse(t, s)
		if g, ok := impl.ParseGlobal(s); ok || !isZero(g) {
			t.Errorf("ParseGlobal(%q) = %s, %v", s, show(g), ok)
		}
	}
}

// TestAllShortTexts reads every sequence of a few pieces, and with it every small type in those pieces.
func TestAllShortTexts(t *testing.T) {
	accepted := 0
	var extend func(s string, n int, pieces []string)
	extend = func(s string, n int, pieces []string) {
		checkParse(t, s)
		if _, ok := impl.ParseGlobal(s); ok {
			accepted++
		}
		if n == 0 {
			return
		}
		for _, piece := range pieces {
			extend(s+piece, n-1, pieces)
		}
	}
	extend("", 6, []string{".", "#0", "#1", "@", "AB{a", "CB{b", "|b", "}"})
	extend("", 6, []string{".", "#", "0", "@", "A", "B", "a", "{", "}"})
	if accepted < 70 {
		t.Errorf("only %d texts are accepted", accepted)
	}
}

func TestChangedTexts(t *testing.T) {
	for _, s := range []string{"@AB{aBC{c#0}|b.}", "@@CB{b#1|c@#1|d.}", "AB{aAC{a.}|bBA{a@.}}", "."} {
		for i := range s {
			checkParse(t, s[:i])
			checkParse(t, s[i+1:])
			checkParse(t, s[:i]+s[i+1:])
			checkParse(t, s+s[i:])
			for c := range 256 {
				checkParse(t, s[:i]+string([]byte{byte(c)})+s[i+1:])
				checkParse(t, s[:i]+string([]byte{byte(c)})+s[i:])
				checkParse(t, s+string([]byte{byte(c)}))
			}
		}
	}
	r := rand.New(rand.NewSource(2))
	for range 20000 {
		s := make([]byte, r.Intn(12))
		for i := range s {
			s[i] = byte(r.Intn(256))
		}
		checkParse(t, string(s))
	}
}

func TestIndexInText(t *testing.T) {
	for count := 1; count <= 36; count++ {
		for index := -1; index <= count; index++ {
			g := recs(count, message("AB", branch("a", variable(index)), branch("b", end())))
			valid := 0 <= index && index < count
			checkGlobal(t, g, valid)
			if got, ok := impl.ParseGlobal(textOf(g)); ok != (valid && index <= 9) || ok && !sameGlobal(got, g) {
				t.Errorf("ParseGlobal(%q) = %s, %v", textOf(g), show(got), ok)
			}
		}
	}
	g := recs(13, message("AB", branch("a", variable(12))))
	if s := impl.FormatGlobal(g); s != "@@@@@@@@@@@@@AB{a#12}" {
		t.Errorf("FormatGlobal = %q", s)
	}
	for _, s := range []string{"#10}", "#12}", "#010}", "#09}", "#:}", "#/}", "#a}", "#1", "#99999999999999999999}", "#-1}"} {
		s = "@@@@@@@@@@@@@AB{a" + s
		if g, ok := impl.ParseGlobal(s); ok || !isZero(g) {
			t.Errorf("ParseGlobal(%q) = %s, %v", s, show(g), ok)
		}
	}
}

func TestGlobalDepth(t *testing.T) {
	for n := 36; n <= 44; n++ {
		ok := n <= impl.MaxGlobalDepth
		for _, g := range []impl.Global{
			messages(n-1, end()),
			recs(n-1, end()),
			recs(n/2, messages(n-1-n/2, end())),
			messages(n/2, recs(n-1-n/2, end())),
			rec(messages(n-2, variable(0))),
			messages(5, message("AC", branch("a", end()), branch("b", messages(n-7, end())), branch("c", end()))),
		} {
			if depth(g) != n {
				t.Fatalf("the type has the depth %d", depth(g))
			}
			checkGlobal(t, g, ok)
			checkParse(t, textOf(g))
			if got, parsed := impl.ParseGlobal(textOf(g)); parsed != ok || ok && !sameGlobal(got, g) {
				t.Errorf("ParseGlobal accepts a depth of %d: %v", n, parsed)
			}
		}
	}
}

func TestGlobalNodeLimit(t *testing.T) {
	for n := 1; n <= 1300; n++ {
		g := sized(n)
		if size(g) != n || depth(g) > 10 {
			t.Fatalf("the type has %d nodes and the depth %d", size(g), depth(g))
		}
		if n > 20 && n < 380 {
			continue
		}
		checkGlobal(t, g, n <= impl.MaxGlobalNodes)
		checkGlobal(t, rec(g), n+1 <= impl.MaxGlobalNodes)
		if got, ok := impl.ParseGlobal(textOf(g)); ok != (n <= impl.MaxGlobalNodes) || ok && !sameGlobal(got, g) {
			t.Errorf("ParseGlobal accepts %d nodes: %v", n, ok)
		}
	}
	// The longest texts have long chains of messages, and variables at their ends.
	for chain := range 16 {
		g := messages(chain, variable(0))
		for range 3 {
			g = message("AB", branch("b", g), branch("c", g), branch("d", g))
		}
		g = rec(g)
		checkGlobal(t, g, size(g) <= impl.MaxGlobalNodes)
		checkParse(t, textOf(g))
	}
}

func TestBranches(t *testing.T) {
	labels := []string{"a", "b", "c", "d"}
	for set := range 1 << len(labels) {
		g := message("AB")
		for i, label := range labels {
			if set>>i&1 == 1 {
				g.Branches = append(g.Branches, branch(label, end()))
			}
		}
		n := len(g.Branches)
		checkGlobal(t, g, 1 <= n && n <= impl.MaxBranches)
		checkGlobal(t, message("BC", branch("c", g)), 1 <= n && n <= impl.MaxBranches)
		checkParse(t, textOf(g))
	}
	for _, first := range []string{"", "a", "b", "c", "d", "e", "ab", "A", "\x00"} {
		for _, second := range []string{"", "a", "b", "c", "d", "e", "cd", "D", "\xff"} {
			g := message("AB", branch(first, end()), branch(second, end()))
			checkGlobal(t, g, wellFormed(g, nil))
			checkGlobal(t, rec(message("AB", branch("a", g), branch("b", variable(0)))), wellFormed(g, nil))
		}
	}
	g := rec(end())
	g.Branches[0].Label = "a"
	checkGlobal(t, g, false)
	g.Branches = nil
	checkGlobal(t, g, false)
	g.Branches = []impl.GlobalBranch{branch("", end()), branch("", end())}
	checkGlobal(t, g, false)
}

func TestSenderAndReceiver(t *testing.T) {
	names := []string{"", "A", "B", "C", "D", "a", "AB", "@", " A", "\xff"}
	for _, from := range names {
		for _, to := range names {
			g := message("AB", branch("a", end()))
			g.From, g.To = from, to
			checkGlobal(t, g, wellFormed(g, nil))
			checkGlobal(t, message("CA", branch("b", rec(g))), wellFormed(g, nil))
		}
	}
}

// TestUnusedFields sets each field of a node of each kind that its kind does not use.
func TestUnusedFields(t *testing.T) {
	loop := func(g impl.Global) impl.Global { return rec(message("AB", branch("a", g))) }
	for _, g := range []impl.Global{end(), rec(end()), variable(0), message("BC", branch("c", end()))} {
		checkGlobal(t, loop(g), true)
		changes := []func(g *impl.Global){
			func(g *impl.Global) { g.Kind = 0 },
			func(g *impl.Global) { g.Kind = 5 },
			func(g *impl.Global) { g.Kind = -g.Kind },
		}
		if g.Kind != impl.GlobalMessage {
			changes = append(changes, func(g *impl.Global) { g.From = "A" }, func(g *impl.Global) { g.To = "B" },
				func(g *impl.Global) { g.From = "x" }, func(g *impl.Global) { g.From, g.To = "A", "B" })
		}
		if g.Kind != impl.GlobalVar {
			changes = append(changes, func(g *impl.Global) { g.Index = 1 }, func(g *impl.Global) { g.Index = -1 })
		}
		if len(g.Branches) == 0 {
			changes = append(changes, func(g *impl.Global) { g.Branches = make([]impl.GlobalBranch, 1) },
				func(g *impl.Global) { g.Branches = []impl.GlobalBranch{branch("a", end())} },
				func(g *impl.Global) { g.Branches = []impl.GlobalBranch{branch("", end())} })
		}
		for i, change := range changes {
			changed := g
			change(&changed)
			if impl.GlobalValid(loop(changed)) {
				t.Errorf("change %d of the kind %d is accepted", i, g.Kind)
			}
			checkGlobal(t, changed, false)
			checkGlobal(t, loop(changed), false)
			checkGlobal(t, message("AB", branch("a", end()), branch("b", changed)), false)
		}
	}
	checkGlobal(t, impl.Global{}, false)
	empty := end()
	empty.Branches = make([]impl.GlobalBranch, 0, 3)
	checkGlobal(t, empty, true)
	empty = variable(0)
	empty.Branches = []impl.GlobalBranch{}
	checkGlobal(t, loop(empty), true)
}

func TestFreeAndUnguardedVariables(t *testing.T) {
	for index := -2; index <= 6; index++ {
		for outer := range 4 {
			for inner := range 4 {
				g := recs(outer, message("AB", branch("a", recs(inner, variable(index)))))
				checkGlobal(t, g, inner <= index && index < inner+outer)
				// A message beside the variable does not guard it.
				g = message("AB", branch("a", recs(outer, message("BC", branch("a", end()), branch("b", recs(inner, variable(index)))))))
				checkGlobal(t, g, inner <= index && index < inner+outer)
				checkGlobal(t, recs(outer+inner, variable(index)), false)
			}
		}
	}
	checkGlobal(t, message("AB", branch("a", rec(message("AB", branch("a", variable(0))))), branch("b", variable(0))), false)
	for _, index := range []int{-1 << 63, -1 << 32, 1 << 32, 1<<63 - 1} {
		checkGlobal(t, rec(message("AB", branch("a", variable(index)))), false)
	}
}

func TestGlobalEqual(t *testing.T) {
	base := func() impl.Global {
		return rec(message("AB", branch("a", message("BC", branch("c", variable(0)))), branch("b", end())))
	}
	inside := func(g impl.Global) *impl.Global { return &g.Branches[0].Next.Branches[0].Next.Branches[0].Next }
	changes := []func(g *impl.Global){
		func(g *impl.Global) { g.Kind++ },
		func(g *impl.Global) { g.From += "A" },
		func(g *impl.Global) { g.To += "B" },
		func(g *impl.Global) { g.Index++ },
		func(g *impl.Global) {
			g.Branches = append(g.Branches[:len(g.Branches):len(g.Branches)], branch("", end()))
		},
		func(g *impl.Global) {
			g.Branches = append(g.Branches[:len(g.Branches):len(g.Branches)], branch("d", end()))
		},
	}
	for i, change := range changes {
		root, deep := base(), base()
		change(&root)
		change(inside(deep))
		for _, changed := range []impl.Global{root, deep} {
			if impl.GlobalEqual(base(), changed) || impl.GlobalEqual(changed, base()) {
				t.Errorf("GlobalEqual does not see change %d in %+v", i, changed)
			}
			if !impl.GlobalEqual(changed, changed) {
				t.Errorf("%+v is not equal to itself", changed)
			}
		}
		again := base()
		change(inside(again))
		if !impl.GlobalEqual(deep, again) {
			t.Errorf("equal invalid types are not equal: %+v", deep)
		}
	}
	relabeled, second := base(), base()
	relabeled.Branches[0].Label = "a"
	second.Branches[0].Next.Branches[1].Next = rec(end())
	for _, g := range []impl.Global{relabeled, second, {}, end(), *inside(base())} {
		if impl.GlobalEqual(base(), g) || impl.GlobalEqual(g, base()) {
			t.Errorf("GlobalEqual(%+v, %+v)", base(), g)
		}
	}
	list := randomGlobals(300)
	for i, a := range list {
		for _, b := range list[max(0, i-30) : i+1] {
			if want := textOf(a) == textOf(b); impl.GlobalEqual(a, spacious(b)) != want {
				t.Errorf("GlobalEqual(%q, %q) = %v", textOf(a), textOf(b), !want)
			}
		}
	}
}

// TestGlobalEqualOfParts compares types whose messages have more and fewer branches of the same memory.
func TestGlobalEqualOfParts(t *testing.T) {
	for _, counts := range [][2]int{{1, 2}, {2, 1}} {
		build := func(second impl.Global) impl.Global {
			branches := []impl.GlobalBranch{branch("a", end()), branch("b", second)}
			return message("AB", branch("a", message("BC", branches[:counts[0]]...)), branch("b", message("BC", branches[:counts[1]]...)))
		}
		if impl.GlobalEqual(build(end()), build(rec(end()))) || !impl.GlobalEqual(build(end()), build(end())) {
			t.Error("a part of some branches is confused with all of them")
		}
	}
}

func TestGlobalEqualOfEmptySlices(t *testing.T) {
	withNil, withEmpty := end(), end()
	withEmpty.Branches = make([]impl.GlobalBranch, 0, 2)
	if !impl.GlobalEqual(withNil, withEmpty) || !impl.GlobalEqual(message("AB", branch("a", withEmpty)), message("AB", branch("a", withNil))) {
		t.Error("a nil slice and an empty slice are not equal")
	}
	if !impl.GlobalEqual(impl.Global{}, impl.Global{Branches: []impl.GlobalBranch{}}) {
		t.Error("the zero values are not equal")
	}
	// Unfolding does not change equality: equal means equal in every field.
	if impl.GlobalEqual(parsed(t, "@AB{a#0}"), parsed(t, "AB{a@AB{a#0}}")) {
		t.Error("a type is equal to its unfolding")
	}
}
