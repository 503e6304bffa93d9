package tests

import (
	"slices"
	"testing"

	"loop.example/sessiontypes/impl"
)

// spaciousProcess copies p into slices with more capacity than length, and marks what lies behind the length.
func spaciousProcess(p impl.Process) impl.Process {
	branches := make([]impl.ProcessBranch, 0, len(p.Branches)+2)
	for _, b := range p.Branches {
		branches = append(branches, arm(b.Label, spaciousProcess(b.Next)))
	}
	beyond := branches[:cap(branches)]
	for i := len(branches); i < len(beyond); i++ {
		beyond[i].Label = "beyond"
	}
	p.Branches = branches
	return p
}

// processElements adds the elements of all slices of p, up to their capacity,
// and reports whether none of them was there before.
func processElements(p impl.Process, all map[*impl.ProcessBranch]bool) bool {
	separate := true
	whole := p.Branches[:cap(p.Branches)]
	for i := range whole {
		separate = separate && !all[&whole[i]]
		all[&whole[i]] = true
	}
	for _, b := range p.Branches {
		separate = processElements(b.Next, all) && separate
	}
	return separate
}

// markedProcess reports whether everything behind the lengths of the slices is still marked.
func markedProcess(p impl.Process) bool {
	beyond := p.Branches[:cap(p.Branches)][len(p.Branches):]
	for i := range beyond {
		if beyond[i].Label != "beyond" || !isZeroProcess(beyond[i].Next) {
			return false
		}
	}
	for _, b := range p.Branches {
		if !markedProcess(b.Next) {
			return false
		}
	}
	return true
}

func TestProcessMemory(t *testing.T) {
	types := randomLocals(100)
	for i, original := range append(randomProcesses(800), invalidNodes()...) {
		p, text := spaciousProcess(original), textOfProcess(original)
		l := spaciousLocal(types[i%len(types)])
		processes, all := map[*impl.ProcessBranch]bool{}, newMemory()
		if !processElements(p, processes) || !localElements(l, all.branches) {
			t.Fatal("the arguments share memory")
		}
		// What lies behind the length of the inputs would lead elsewhere.
		inputs := append(make([]int, 0, 40), 5, -3, 2, 0, 1, 7, -1, 3, 4)[:i%10]
		for j := len(inputs); j < cap(inputs); j++ {
			inputs[:cap(inputs)][j] = j
		}
		before := slices.Clone(inputs[:cap(inputs)])
		impl.ProcessEqual(p, original)
		impl.ProcessEqual(p, p)
		for range 2 {
			if read, _ := impl.ParseProcess(impl.FormatProcess(p)); !processElements(read, processes) {
				t.Errorf("ParseProcess(%q) shares memory", text)
			}
			own, _ := impl.InferType(p)
			if !localElements(own, all.branches) {
				t.Errorf("InferType of %s shares memory", text)
			}
			own = spaciousLocal(own)
			again := textOfLocal(own)
			if impl.HasType(p, own) != impl.LocalValid(own) || textOfLocal(own) != again || !markedLocal(own) {
				t.Errorf("HasType of %s modifies the type, or what lies behind it", text)
			}
			impl.HasType(p, l)
			trace, finished := impl.RunProcess(p, inputs)
			want, wantFinished := impl.RunProcess(original, slices.Clip(slices.Clone(inputs)))
			if !slices.Equal(trace, want) || finished != wantFinished || !all.addActions(trace) || !all.addActions(want) {
				t.Errorf("RunProcess of %s shares memory, or goes beyond the inputs", text)
			}
		}
		if !sameProcess(p, original) || !markedProcess(p) || !slices.Equal(inputs[:cap(inputs)], before) || !sameLocal(l, types[i%len(types)]) || !markedLocal(l) {
			t.Errorf("%s, the inputs, a type, or what lies behind them was modified", text)
		}
	}
}

// TestSharedProcessMemory passes processes with the same memory in several places, and types may not have it.
func TestSharedProcessMemory(t *testing.T) {
	p := emit("B", "a", finish())
	double := accept("C", arm("a", p), arm("b", p))
	decision := either(emit("B", "a", double), emit("B", "b", double))
	for _, shared := range []impl.Process{double, either(p, p), either(double, double), decision, either(decision, decision), either(decision, emit("B", "c", double)), repeat(either(decision, decision))} {
		l, ok := checkType(t, shared)
		if !ok || !localElements(l, newMemory().branches) {
			t.Errorf("InferType of %s shares memory, or has no result: %v", textOfProcess(shared), ok)
		}
		checkProcess(t, shared, true)
	}
}

// TestProcessesKeepNoState calls the functions in another order and at the same time.
func TestProcessesKeepNoState(t *testing.T) {
	list, types := randomProcesses(300), randomLocals(100)
	results := func(i int) string {
		p := list[i]
		l, ok := impl.InferType(p)
		read, readOk := impl.ParseProcess(impl.FormatProcess(p))
		trace, finished := impl.RunProcess(p, []int{i, -i, 3, 1, -1, 0, i, 2, 5})
		text := impl.FormatProcess(p) + textOfLocal(l) + textOfProcess(read) + actTexts(trace)
		return text + show([]bool{ok, readOk, finished, impl.ProcessValid(p), impl.HasType(p, types[i%100]), impl.ProcessEqual(p, list[(i+1)%300])})
	}
	keepsNoState(t, len(list), results)
}

// processCycle returns a process that contains itself after n nodes. The last node has the given peer.
func processCycle(n int, peer string) impl.Process {
	nodes := make([][]impl.ProcessBranch, n)
	for i := range nodes {
		nodes[i] = make([]impl.ProcessBranch, 1)
	}
	for i := range nodes {
		nodes[i][0].Next = impl.Process{Kind: impl.ProcessSend, Peer: "B", Label: "a", Branches: nodes[(i+1)%n]}
	}
	nodes[n-1][0].Next.Peer = peer
	return impl.Process{Kind: impl.ProcessSend, Peer: "B", Label: "a", Branches: nodes[0]}
}

// sharedProcess returns a process of n levels in which the branches of a choice share their memory.
func sharedProcess(n int, leaf impl.Process) impl.Process {
	for range n {
		leaf = either(leaf, leaf)
	}
	return leaf
}

// TestUnusualProcessMemory passes processes that contain themselves, or that are far larger than their memory.
func TestUnusualProcessMemory(t *testing.T) {
	loopsOnly := impl.Process{Kind: impl.ProcessLoop, Branches: make([]impl.ProcessBranch, 1)}
	loopsOnly.Branches[0].Next = loopsOnly
	choices := impl.Process{Kind: impl.ProcessChoose, Branches: make([]impl.ProcessBranch, 2)}
	choices.Branches[0].Next, choices.Branches[1].Next = choices, choices
	wide := accept("B")
	for range 100000 {
		wide.Branches = append(wide.Branches, arm("a", finish()))
	}
	for i := range wide.Branches {
		wide.Branches[i].Next = wide
	}
	for _, p := range []impl.Process{processCycle(1, "B"), processCycle(3, "B"), loopsOnly, choices, wide, sharedProcess(200, finish()), sharedProcess(6, repeat(finish())),
		emits(1000000, finish()), repeats(1000000, finish()), accept("B", arm("a", finish()), arm("b", processCycle(2, "B")))} {
		returns(t, "a function", func() {
			if impl.ProcessValid(p) || impl.FormatProcess(p) != "" || impl.HasType(p, done()) || impl.HasType(p, loop(sends(1, again(0)))) {
				t.Error("an invalid process is accepted")
			}
			if l, ok := impl.InferType(p); ok || !isZeroLocal(l) {
				t.Error("an invalid process has a type")
			}
			if trace, finished := impl.RunProcess(p, []int{0, 0, 0}); finished || len(trace) > 0 {
				t.Error("an invalid process is executed")
			}
			if !impl.ProcessEqual(p, p) || impl.ProcessEqual(p, finish()) || impl.ProcessEqual(p, impl.Process{}) {
				t.Error("a process is not equal only to itself")
			}
		})
	}
	returns(t, "ProcessEqual", func() {
		for _, c := range []struct {
			a, b impl.Process
			want bool
		}{
			{processCycle(1, "B"), processCycle(1, "B"), true},
			{processCycle(2, "B"), processCycle(3, "B"), true},
			{processCycle(4, "C"), processCycle(4, "C"), true},
			{processCycle(4, "C"), processCycle(6, "C"), false},
			{processCycle(4, "C"), processCycle(4, "B"), false},
			{sharedProcess(200, finish()), sharedProcess(200, finish()), true},
			{sharedProcess(200, finish()), sharedProcess(200, repeat(finish())), false},
			{sharedProcess(200, finish()), sharedProcess(201, finish()), false},
			{emits(1000000, finish()), emits(1000000, finish()), true},
			{emits(1000000, finish()), emits(1000000, jump(0)), false},
		} {
			if impl.ProcessEqual(c.a, c.b) != c.want {
				t.Errorf("ProcessEqual is not %v", c.want)
			}
		}
	})
	// Types that contain themselves, or that are far larger than their memory.
	for _, l := range []impl.Local{localCycle(1, "B"), localCycle(3, "B"), sharedLocal(200, done()), sends(1000000, done()), loops(1000000, done())} {
		returns(t, "HasType", func() {
			for _, p := range []impl.Process{finish(), emits(39, finish()), repeat(emits(1, jump(0))), {}} {
				if impl.HasType(p, l) {
					t.Errorf("%s has a type that is not valid", textOfProcess(p))
				}
			}
		})
	}
}

// TestManyInputs passes far more inputs than there can be actions.
func TestManyInputs(t *testing.T) {
	inputs := make([]int, 1<<22)
	returns(t, "RunProcess", func() {
		for _, p := range []impl.Process{finish(), repeat(accept("B", arm("a", jump(0)))), repeat(either(emit("B", "a", jump(0)), finish())), repeats(39, finish())} {
			trace, _ := impl.RunProcess(p, inputs)
			if want, _ := executeByRules(p, inputs); !slices.Equal(trace, want) {
				t.Errorf("RunProcess of %s = %s", textOfProcess(p), actTexts(trace))
			}
		}
	})
}

func TestLongProcessTexts(t *testing.T) {
	returns(t, "ParseProcess", func() {
		for _, piece := range []string{"@", "B!a", "B?{a", "(", "(.+", "+", ")", "#0", ".", "}", "|", "\x00", "B?{a.|", "a.|", "(B!a.+"} {
			long := make([]byte, 0, 8<<20)
			for len(long) < 4<<20 {
				long = append(long, piece...)
			}
			for _, before := range []string{"", "B?{", "(.+"} {
				if p, ok := impl.ParseProcess(before + string(long)); ok || !isZeroProcess(p) {
					t.Errorf("ParseProcess accepts a long text of %q", piece)
				}
			}
		}
	})
}
