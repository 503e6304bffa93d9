package tests

import (
	"math/rand"
	"strings"
	"testing"

	"loop.example/sessiontypes/impl"
)

// checkLocal compares every function that reads a type with the helpers.
func checkLocal(t *testing.T, l impl.Local, valid bool) {
	t.Helper()
	wantText, wantPeers := "", ""
	if valid {
		wantText = textOfLocal(l)
		for _, peer := range []string{"A", "B", "C"} {
			if strings.Contains(wantText, peer) {
				wantPeers += peer
			}
		}
	}
	if impl.LocalValid(l) != valid {
		t.Fatalf("LocalValid(%s) = %v", show(l), !valid)
	}
	if s := impl.FormatLocal(l); s != wantText {
		t.Fatalf("FormatLocal(%s) = %.400q, want %.400q", show(l), s, wantText)
	}
	if s := impl.LocalPeers(l); s != wantPeers {
		t.Fatalf("LocalPeers(%s) = %q, want %q", show(l), s, wantPeers)
	}
	if impl.LocalEquivalent(l, l) != valid || impl.IsSubtype(l, l) != valid {
		t.Fatalf("%s is related to itself: %v, %v", show(l), impl.LocalEquivalent(l, l), impl.IsSubtype(l, l))
	}
	if valid {
		return
	}
	for _, other := range []impl.Local{done(), {}, sends(1, done())} {
		if impl.LocalEquivalent(l, other) || impl.LocalEquivalent(other, l) || impl.IsSubtype(l, other) || impl.IsSubtype(other, l) {
			t.Fatalf("%s, which is not valid, is related to %s", show(l), show(other))
		}
	}
	if u, ok := impl.UnfoldLocal(l); ok || !isZeroLocal(u) {
		t.Fatalf("UnfoldLocal(%s) = %s, %v", show(l), show(u), ok)
	}
	for _, label := range []string{"a", "b", "c", "d", "e", ""} {
		if next, ok := impl.StepLocal(l, label); ok || !isZeroLocal(next) {
			t.Fatalf("StepLocal(%s, %q) = %s, %v", show(l), label, show(next), ok)
		}
	}
}

// checkParseLocal compares ParseLocal with the definition of the texts.
func checkParseLocal(t *testing.T, s string) {
	t.Helper()
	l, ok := impl.ParseLocal(s)
	want, rest, read := readLocal(s)
	if !read || rest != "" || !validLocal(want) {
		want, read = impl.Local{}, false
	}
	if ok != read || !sameLocal(l, want) {
		t.Fatalf("ParseLocal(%.400q) = %s, %v, want %s, %v", s, show(l), ok, show(want), read)
	}
}

func TestLocalTexts(t *testing.T) {
	for _, c := range []struct {
		text, peers string
		l           impl.Local
	}{
		{".", "", done()},
		{"@.", "", loop(done())},
		{"@@@.", "", loops(3, done())},
		{"A!{a.}", "A", send("A", option("a", done()))},
		{"B!{b.}", "B", send("B", option("b", done()))},
		{"C!{c.}", "C", send("C", option("c", done()))},
		{"A?{d.}", "A", receive("A", option("d", done()))},
		{"B?{a.}", "B", receive("B", option("a", done()))},
		{"C?{a.}", "C", receive("C", option("a", done()))},
		{"B!{a.|b.|c.|d.}", "B", send("B", option("a", done()), option("b", done()), option("c", done()), option("d", done()))},
		{"C?{a.|b.|c.|d.}", "C", receive("C", option("a", done()), option("b", done()), option("c", done()), option("d", done()))},
		{"A?{a.|d.}", "A", receive("A", option("a", done()), option("d", done()))},
		{"@B!{a#0}", "B", loop(send("B", option("a", again(0))))},
		{"@@B?{a#1|b#0}", "B", loops(2, receive("B", option("a", again(1)), option("b", again(0))))},
		{"@C!{a@#1}", "C", loop(send("C", option("a", loop(again(1)))))},
		{"@A!{a@C?{c#0|d#1}}", "AC", loop(send("A", option("a", loop(receive("C", option("c", again(0)), option("d", again(1)))))))},
		{"C!{aA?{d.}|b@B?{d#0}}", "ABC", send("C", option("a", receive("A", option("d", done()))), option("b", loop(receive("B", option("d", again(0))))))},
	} {
		checkLocal(t, c.l, true)
		checkParseLocal(t, c.text)
		if s := impl.FormatLocal(c.l); s != c.text {
			t.Errorf("FormatLocal = %q, want %q", s, c.text)
		}
		if l, ok := impl.ParseLocal(c.text); !ok || !sameLocal(l, c.l) {
			t.Errorf("ParseLocal(%q) = %s, %v", c.text, show(l), ok)
		}
		if s := impl.LocalPeers(c.l); s != c.peers {
			t.Errorf("%q has the peers %q", c.text, s)
		}
	}
	for _, l := range randomLocals(2000) {
		checkLocal(t, l, true)
		checkParseLocal(t, textOfLocal(l))
	}
}

func TestInvalidLocalTexts(t *testing.T) {
	for _, s := range []string{
		"", " ", "..", " .", ". ", ".\n", "\x00", "\xff", "é", "@", "#", "#0", "#-1", "@#0", "@@#0", "@@#1", "B", "B!", "B!{", "B!{a", "B!{a.", "B!}",
		"B!{}", "B!{.}", "B!{a}", "B!{|a.}", "B!{a.|}", "B!{a.|b}", "B!{a.|b.", "B!{a.}}", "B!{a.}.", "B!{a..}", "B!{a.b.}", "B!{a.,b.}", "B!{a.{b.}",
		"D!{a.}", "b!{a.}", "!{a.}", "?{a.}", "{a.}", "BC{a.}", "AB{a.}", "B-{a.}", "B!!{a.}", "B?!{a.}", "B!?{a.}", "BB!{a.}", "B{a.}", "B!(a.)", "B!a.", "B!|a.}",
		"B!{e.}", "B!{A.}", "B!{ab.}", "B!{0.}", "B!{b.|a.}", "B!{a.|a.}", "B?{a.|c.|b.}", "B?{a.|b.|b.}", "B?{a.|b.|c.|d.|e.}", "B?{a.|b.|c.|d.|d.}",
		"B!{a#0}", "@B!{a#1}", "@B!{a@#0}", "@@B!{a#2}", "@B!{a@@#1}", "@B!{a#}", "@B!{a#-1}", "@B!{a#00}", "@B!{a#+0}", "@B!{a# 0}", "@B!{a #0}", "@B!{a#0|b#}",
		"B!{a@B!{a#0}|b#0}", "@B!{a#0}#0", "B !{a.}", "B! {a.}", "B!{a. |b.}", "@ .", "C?{c#0}", "B!{a\x00}", "B!\x00a.}", "\xff!{a.}", "B\x80{a.}", "B!{\x80.}",
	} {
		checkParseLocal(t, s)
		if l, ok := impl.ParseLocal(s); ok || !isZeroLocal(l) {
			t.Errorf("ParseLocal(%q) = %s, %v", s, show(l), ok)
		}
	}
}

// TestAllShortLocalTexts reads every sequence of a few pieces, and with it every small type in those pieces.
func TestAllShortLocalTexts(t *testing.T) {
	accepted := 0
	var extend func(s string, n int, pieces []string)
	extend = func(s string, n int, pieces []string) {
		checkParseLocal(t, s)
		if _, ok := impl.ParseLocal(s); ok {
			accepted++
		}
		if n == 0 {
			return
		}
		for _, piece := range pieces {
			extend(s+piece, n-1, pieces)
		}
	}
	extend("", 6, []string{".", "#0", "#1", "@", "B!{a", "C?{b", "|b", "}"})
	extend("", 6, []string{".", "#", "0", "@", "A", "!", "?", "a", "{", "}"})
	if accepted < 70 {
		t.Errorf("only %d texts are accepted", accepted)
	}
}

func TestChangedLocalTexts(t *testing.T) {
	for _, s := range []string{"@B!{aC?{c#0}|b.}", "@@C?{b#1|c@#1|d.}", "A!{aB?{a.|b.|c.|d.}|bA!{a@.}}", "."} {
		for i := range s {
			checkParseLocal(t, s[:i])
			checkParseLocal(t, s[i+1:])
			checkParseLocal(t, s[:i]+s[i+1:])
			checkParseLocal(t, s+s[i:])
			for c := range 256 {
				checkParseLocal(t, s[:i]+string([]byte{byte(c)})+s[i+1:])
				checkParseLocal(t, s[:i]+string([]byte{byte(c)})+s[i:])
				checkParseLocal(t, s+string([]byte{byte(c)}))
			}
		}
	}
	r := rand.New(rand.NewSource(5))
	for range 20000 {
		s := make([]byte, r.Intn(12))
		for i := range s {
			s[i] = byte(r.Intn(256))
		}
		checkParseLocal(t, string(s))
	}
}

func TestIndexInLocalText(t *testing.T) {
	for count := 1; count <= 36; count++ {
		for index := -1; index <= count; index++ {
			l := loops(count, send("A", option("a", again(index)), option("b", done())))
			valid := 0 <= index && index < count
			checkLocal(t, l, valid)
			if got, ok := impl.ParseLocal(textOfLocal(l)); ok != (valid && index <= 9) || !ok && !isZeroLocal(got) || ok && !sameLocal(got, l) {
				t.Errorf("ParseLocal(%q) = %s, %v", textOfLocal(l), show(got), ok)
			}
		}
	}
	l := loops(13, send("C", option("a", again(12))))
	if s := impl.FormatLocal(l); s != "@@@@@@@@@@@@@C!{a#12}" {
		t.Errorf("FormatLocal = %q", s)
	}
	for _, s := range []string{"#10}", "#12}", "#010}", "#09}", "#:}", "#/}", "#a}", "#1", "#99999999999999999999}", "#-1}"} {
		s = "@@@@@@@@@@@@@C!{a" + s
		if l, ok := impl.ParseLocal(s); ok || !isZeroLocal(l) {
			t.Errorf("ParseLocal(%q) = %s, %v", s, show(l), ok)
		}
	}
}

func TestLocalDepth(t *testing.T) {
	for n := 36; n <= 44; n++ {
		ok := n <= impl.MaxGlobalDepth
		for _, l := range []impl.Local{
			sends(n-1, done()),
			loops(n-1, done()),
			loops(n/2, sends(n-1-n/2, done())),
			sends(n/2, loops(n-1-n/2, done())),
			loop(sends(n-2, again(0))),
			sends(5, receive("C", option("a", done()), option("b", sends(n-7, done())), option("c", done()))),
		} {
			if depthLocal(l) != n {
				t.Fatalf("the type has the depth %d", depthLocal(l))
			}
			checkLocal(t, l, ok)
			checkParseLocal(t, textOfLocal(l))
			if got, parsed := impl.ParseLocal(textOfLocal(l)); parsed != ok || ok && !sameLocal(got, l) {
				t.Errorf("ParseLocal accepts a depth of %d: %v", n, parsed)
			}
		}
	}
}

func TestLocalNodeLimit(t *testing.T) {
	for n := 1; n <= 1300; n++ {
		l := sizedLocal(n)
		if sizeLocal(l) != n || depthLocal(l) > 10 {
			t.Fatalf("the type has %d nodes and the depth %d", sizeLocal(l), depthLocal(l))
		}
		if n > 20 && n < 380 {
			continue
		}
		checkLocal(t, l, n <= impl.MaxGlobalNodes)
		checkLocal(t, loop(l), n+1 <= impl.MaxGlobalNodes)
		if got, ok := impl.ParseLocal(textOfLocal(l)); ok != (n <= impl.MaxGlobalNodes) || ok && !sameLocal(got, l) {
			t.Errorf("ParseLocal accepts %d nodes: %v", n, ok)
		}
	}
	// The longest texts have long chains of actions, and variables at their ends.
	for chain := range 16 {
		l := sends(chain, again(0))
		for range 2 {
			l = send("B", option("a", l), option("b", l), option("c", l), option("d", l))
		}
		l = loop(receive("B", option("b", l), option("c", l)))
		checkLocal(t, l, sizeLocal(l) <= impl.MaxGlobalNodes)
		checkParseLocal(t, textOfLocal(l))
	}
}

func TestLocalBranches(t *testing.T) {
	labels := []string{"a", "b", "c", "d"}
	for set := range 1 << len(labels) {
		for _, l := range []impl.Local{send("C"), receive("A")} {
			for i, label := range labels {
				if set>>i&1 == 1 {
					l.Branches = append(l.Branches, option(label, done()))
				}
			}
			// Unlike a message, an action may have all four labels.
			checkLocal(t, l, set > 0)
			checkLocal(t, send("B", option("c", l)), set > 0)
			checkParseLocal(t, textOfLocal(l))
			l.Branches = append(l.Branches, option("d", done()))
			checkLocal(t, l, set < 8)
			l.Branches = append(l.Branches, option("e", done()))
			checkLocal(t, l, false)
		}
	}
	for _, first := range []string{"", "a", "b", "c", "d", "e", "ab", "A", "\x00"} {
		for _, second := range []string{"", "a", "b", "c", "d", "e", "cd", "D", "\xff"} {
			for _, l := range []impl.Local{send("C"), receive("A")} {
				l.Branches = []impl.LocalBranch{option(first, done()), option(second, done())}
				checkLocal(t, l, wellFormedLocal(l, nil))
				checkLocal(t, loop(send("B", option("a", l), option("b", again(0)))), wellFormedLocal(l, nil))
			}
		}
	}
	l := loop(done())
	l.Branches[0].Label = "a"
	checkLocal(t, l, false)
	l.Branches = nil
	checkLocal(t, l, false)
	l.Branches = []impl.LocalBranch{option("", done()), option("", done())}
	checkLocal(t, l, false)
}

func TestPeers(t *testing.T) {
	for _, peer := range []string{"", "A", "B", "C", "D", "a", "AB", "@", " A", "A\x00", "\xff"} {
		valid := peer == "A" || peer == "B" || peer == "C"
		checkLocal(t, send(peer, option("a", done())), valid)
		checkLocal(t, receive(peer, option("a", done())), valid)
		checkLocal(t, send("B", option("a", done()), option("b", loop(receive(peer, option("c", done()))))), valid)
	}
}

// TestUnusedLocalFields sets each field of a node of each kind that its kind does not use.
func TestUnusedLocalFields(t *testing.T) {
	inLoop := func(l impl.Local) impl.Local { return loop(send("A", option("a", l))) }
	for _, l := range []impl.Local{done(), loop(done()), again(0), send("B", option("c", done())), receive("C", option("d", done()))} {
		checkLocal(t, inLoop(l), true)
		changes := []func(l *impl.Local){
			func(l *impl.Local) { l.Kind = 0 },
			func(l *impl.Local) { l.Kind = 6 },
			func(l *impl.Local) { l.Kind = -l.Kind },
		}
		if l.Peer == "" {
			changes = append(changes, func(l *impl.Local) { l.Peer = "A" }, func(l *impl.Local) { l.Peer = "x" })
		}
		if l.Kind != impl.LocalVar {
			changes = append(changes, func(l *impl.Local) { l.Index = 1 }, func(l *impl.Local) { l.Index = -1 })
		}
		if len(l.Branches) == 0 {
			changes = append(changes, func(l *impl.Local) { l.Branches = make([]impl.LocalBranch, 1) },
				func(l *impl.Local) { l.Branches = []impl.LocalBranch{option("a", done())} },
				func(l *impl.Local) { l.Branches = []impl.LocalBranch{option("", done())} })
		}
		for i, change := range changes {
			changed := l
			change(&changed)
			if impl.LocalValid(inLoop(changed)) {
				t.Errorf("change %d of the kind %d is accepted", i, l.Kind)
			}
			checkLocal(t, changed, false)
			checkLocal(t, inLoop(changed), false)
			checkLocal(t, receive("A", option("a", done()), option("b", changed)), false)
		}
	}
	checkLocal(t, impl.Local{}, false)
	empty := done()
	empty.Branches = make([]impl.LocalBranch, 0, 3)
	checkLocal(t, empty, true)
	empty = again(0)
	empty.Branches = []impl.LocalBranch{}
	checkLocal(t, inLoop(empty), true)
}

func TestFreeAndUnguardedLocalVariables(t *testing.T) {
	for index := -2; index <= 6; index++ {
		for outer := range 4 {
			for inner := range 4 {
				valid := inner <= index && index < inner+outer
				checkLocal(t, loops(outer, send("B", option("a", loops(inner, again(index))))), valid)
				checkLocal(t, loops(outer, receive("B", option("a", loops(inner, again(index))))), valid)
				// An action beside the variable does not guard it.
				checkLocal(t, send("B", option("a", loops(outer, receive("C", option("a", done()), option("b", loops(inner, again(index))))))), valid)
				checkLocal(t, loops(outer+inner, again(index)), false)
			}
		}
	}
	checkLocal(t, send("B", option("a", loop(send("B", option("a", again(0))))), option("b", again(0))), false)
	checkLocal(t, loop(send("B", option("a", loop(send("B", option("a", again(0))))), option("b", again(1)))), false)
	for _, index := range []int{-1 << 63, -1 << 32, 1 << 32, 1<<63 - 1} {
		checkLocal(t, loop(send("B", option("a", again(index)))), false)
	}
}

func TestLocalEqual(t *testing.T) {
	base := func() impl.Local {
		return loop(send("B", option("a", receive("C", option("c", again(0)))), option("b", done())))
	}
	inside := func(l impl.Local) *impl.Local { return &l.Branches[0].Next.Branches[0].Next.Branches[0].Next }
	changes := []func(l *impl.Local){
		func(l *impl.Local) { l.Kind++ },
		func(l *impl.Local) { l.Peer += "B" },
		func(l *impl.Local) { l.Index++ },
		func(l *impl.Local) {
			l.Branches = append(l.Branches[:len(l.Branches):len(l.Branches)], option("", done()))
		},
		func(l *impl.Local) {
			l.Branches = append(l.Branches[:len(l.Branches):len(l.Branches)], option("d", done()))
		},
	}
	for i, change := range changes {
		root, deep, twin := base(), base(), base()
		change(&root)
		change(inside(deep))
		change(inside(twin))
		for _, changed := range []impl.Local{root, deep} {
			if impl.LocalEqual(base(), changed) || impl.LocalEqual(changed, base()) {
				t.Errorf("LocalEqual does not see change %d in %+v", i, changed)
			}
			if !impl.LocalEqual(changed, changed) {
				t.Errorf("%+v is not equal to itself", changed)
			}
		}
		if !impl.LocalEqual(deep, twin) {
			t.Errorf("equal invalid types are not equal: %+v", deep)
		}
	}
	relabeled, second := base(), base()
	relabeled.Branches[0].Label = "a"
	second.Branches[0].Next.Branches[1].Next = loop(done())
	for _, l := range []impl.Local{relabeled, second, {}, done(), *inside(base())} {
		if impl.LocalEqual(base(), l) || impl.LocalEqual(l, base()) {
			t.Errorf("LocalEqual(%+v, %+v)", base(), l)
		}
	}
	list := randomLocals(300)
	for i, a := range list {
		for _, b := range list[max(0, i-30) : i+1] {
			if want := textOfLocal(a) == textOfLocal(b); impl.LocalEqual(a, spaciousLocal(b)) != want {
				t.Errorf("LocalEqual(%q, %q) = %v", textOfLocal(a), textOfLocal(b), !want)
			}
		}
	}
}

// TestLocalEqualOfParts compares types whose actions have more and fewer branches of the same memory.
func TestLocalEqualOfParts(t *testing.T) {
	for _, counts := range [][2]int{{1, 2}, {2, 1}} {
		build := func(second impl.Local) impl.Local {
			branches := []impl.LocalBranch{option("a", done()), option("b", second)}
			return send("B", option("a", send("C", branches[:counts[0]]...)), option("b", send("C", branches[:counts[1]]...)))
		}
		if impl.LocalEqual(build(done()), build(loop(done()))) || !impl.LocalEqual(build(done()), build(done())) {
			t.Error("a part of some branches is confused with all of them")
		}
	}
}

func TestLocalEqualOfEmptySlices(t *testing.T) {
	withNil, withEmpty := done(), done()
	withEmpty.Branches = make([]impl.LocalBranch, 0, 2)
	if !impl.LocalEqual(withNil, withEmpty) || !impl.LocalEqual(send("B", option("a", withEmpty)), send("B", option("a", withNil))) {
		t.Error("a nil slice and an empty slice are not equal")
	}
	if !impl.LocalEqual(impl.Local{}, impl.Local{Branches: []impl.LocalBranch{}}) {
		t.Error("the zero values are not equal")
	}
}
