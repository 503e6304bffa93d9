package tests

import (
	"math/rand"
	"slices"
	"strings"
	"testing"

	"loop.example/sessiontypes/impl"
)

// doings returns actions with an empty role from a text such as !Ba ?Cb.
func doings(text string) []impl.Action {
	var list []impl.Action
	for field := range strings.FieldsSeq(text) {
		list = append(list, impl.Action{Receive: field[0] == '?', Peer: field[1:2], Label: field[2:]})
	}
	return list
}

// TestProcessExample is the example of the document.
func TestProcessExample(t *testing.T) {
	p := process(t, "@(B!a#0+B!b.)")
	if l, ok := impl.InferType(p); !ok || impl.FormatLocal(l) != "@B!{a#0|b.}" {
		t.Errorf("InferType = %s, %v", show(l), ok)
	}
	trace, finished := impl.RunProcess(p, []int{0, 0, 1})
	want := []impl.Action{{Peer: "B", Label: "a"}, {Peer: "B", Label: "a"}, {Peer: "B", Label: "b"}}
	if !finished || !slices.Equal(trace, want) {
		t.Errorf("RunProcess = %s, %v", actTexts(trace), finished)
	}
}

func TestRunProcess(t *testing.T) {
	many := make([]int, 100)
	least, greatest := -1<<63, 1<<63-1
	for _, c := range []struct {
		text     string
		inputs   []int
		want     string
		finished bool
	}{
		{".", nil, "", true}, {".", []int{1, 2}, "", true}, {"@.", nil, "", true}, {"@@@.", []int{7}, "", true},
		{"B!a.", nil, "!Ba", true}, {"B!aC!bA!d.", nil, "!Ba !Cb !Ad", true}, {"B!a.", many, "!Ba", true}, {"@B!a@.", nil, "!Ba", true},
		// A receive needs an input, also if it has only one branch.
		{"B?{a.}", nil, "", false}, {"B?{a.}", []int{0}, "?Ba", true}, {"B?{a.}", []int{5}, "?Ba", true}, {"B?{a.}", []int{-5}, "?Ba", true}, {"B?{aC?{b.}}", []int{0}, "?Ba", false}, {"B?{aC?{b.}}", []int{0, 0}, "?Ba ?Cb", true},
		{"B?{aC!b.}", []int{0}, "?Ba !Cb", true}, {"C!bB?{a.}", nil, "!Cb", false}, {"C!bB?{a.}", []int{3}, "!Cb ?Ba", true},
		// The modulus is not negative.
		{"B?{a.|b.|d.}", []int{0}, "?Ba", true}, {"B?{a.|b.|d.}", []int{1}, "?Bb", true}, {"B?{a.|b.|d.}", []int{2}, "?Bd", true}, {"B?{a.|b.|d.}", []int{3}, "?Ba", true}, {"B?{a.|b.|d.}", []int{-1}, "?Bd", true}, {"B?{a.|b.|d.}", []int{-2}, "?Bb", true},
		{"B?{a.|b.|d.}", []int{-3}, "?Ba", true}, {"B?{a.|b.|d.}", []int{-4}, "?Bd", true}, {"B?{a.|b.|d.}", []int{least}, "?Bb", true}, {"B?{a.|b.|d.}", []int{greatest}, "?Bb", true}, {"B?{a.|b.|d.}", []int{greatest - 1}, "?Ba", true},
		{"(B!a.+B!b.)", []int{0}, "!Ba", true}, {"(B!a.+B!b.)", []int{1}, "!Bb", true}, {"(B!a.+B!b.)", []int{2}, "!Ba", true}, {"(B!a.+B!b.)", []int{-1}, "!Bb", true}, {"(B!a.+B!b.)", []int{-2}, "!Ba", true}, {"(B!a.+B!b.)", []int{-3}, "!Bb", true},
		{"(B!a.+B!b.)", []int{least}, "!Ba", true}, {"(B!a.+B!b.)", []int{least + 1}, "!Bb", true}, {"(B!a.+B!b.)", []int{greatest}, "!Bb", true},
		// A choice needs one as well, and does nothing that is seen.
		{"(B!a.+B!b.)", nil, "", false}, {"(.+.)", nil, "", false}, {"(.+.)", []int{1}, "", true}, {"(.+B!a.)", []int{0}, "", true}, {"(.+B!a.)", []int{1}, "!Ba", true}, {"((.+B!a.)+C!c.)", []int{0}, "", false}, {"((.+B!a.)+C!c.)", []int{0, 1}, "!Ba", true}, {"((.+B!a.)+C!c.)", []int{1, 0}, "!Cc", true},
		{"(B?{a.|b.}+.)", []int{0}, "", false}, {"(B?{a.|b.}+.)", []int{0, 1}, "?Bb", true}, {"(B?{a.|b.}+.)", []int{1, 1}, "", true}, {"B!a(.+.)", nil, "!Ba", false}, {"@(.+.)", nil, "", false}, {"@@(.+.)", []int{3}, "", true},
		// A process that has no type is executed as well.
		{"(B!a.+C?{c.})", []int{1, 0}, "?Cc", true}, {"@(A!a#0+B!a(#0+.))", []int{0, 1, 0, 1, 1}, "!Aa !Ba !Ba", true},
		// Loops: too few inputs, as many as are needed, and too many.
		{"@(B!a#0+B!b.)", []int{0, 0}, "!Ba !Ba", false}, {"@(B!a#0+B!b.)", []int{0, 0, 1}, "!Ba !Ba !Bb", true}, {"@(B!a#0+B!b.)", []int{0, 0, 1, 0, 0}, "!Ba !Ba !Bb", true}, {"@B?{aC!c#0|b.}", []int{0, -2, 1}, "?Ba !Cc ?Ba !Cc ?Bb", true}, {"@B?{aC!c#0|b.}", []int{0, -2}, "?Ba !Cc ?Ba !Cc", false},
		// A loop in a loop: the inner index is that of the inner loop.
		{"@B!a@(C!c#0+#1)", []int{0, 0, 1, 1, 0}, "!Ba !Cc !Cc !Ba !Ba !Cc", false}, {"@B!a@(C!c#0+A!d#1)", []int{0, 0, 1, 1, 0}, "!Ba !Cc !Cc !Ad !Ba !Ad !Ba !Cc", false}, {"@@B?{a#0|b#1|c.}", []int{0, 1, 0, 2}, "?Ba ?Bb ?Ba ?Bc", true},
		{"@A?{a@B?{a#0|b#1|c.}|b.}", []int{0, 0, 1, 0, 1, 1}, "?Aa ?Ba ?Bb ?Aa ?Bb ?Ab", true}, {"@A?{a@B?{a#0|b#1|c.}|b.}", []int{0, 0, 1, 0, 2, 1}, "?Aa ?Ba ?Bb ?Aa ?Bc", true},
		// The inner loop ends, and the outer one goes on in another branch of the same node.
		{"@A?{a@B!a(.+#0)|b#0|c.}", []int{1, 1, 0, 1, 1, 0}, "?Ab ?Ab ?Aa !Ba !Ba !Ba", true}, {"@@@A?{a#0|b#1|c#2}", []int{0, 1, 2, 0}, "?Aa ?Ab ?Ac ?Aa", false},
		// What was an outer loop is another one in the next round of the inner loop.
		{"@A!a@B!b@C?{a#0|b#1|c#2}", []int{0, 1, 2, 1, 0}, "!Aa !Bb ?Ca ?Cb !Bb ?Cc !Aa !Bb ?Cb !Bb ?Ca", false},
	} {
		trace, finished := checkExecution(t, process(t, c.text), c.inputs)
		if !slices.Equal(trace, doings(c.want)) || finished != c.finished {
			t.Errorf("RunProcess of %s with %v = %s, %v", c.text, c.inputs[:min(len(c.inputs), 9)], actTexts(trace), finished)
		}
	}
}

// TestLengthOfProcessTraces has traces of MaxTrace actions, with other remaining processes.
func TestLengthOfProcessTraces(t *testing.T) {
	zeros := make([]int, 200)
	for _, c := range []struct {
		p        impl.Process
		inputs   []int
		actions  int
		finished bool
	}{
		{emits(23, finish()), nil, 23, true}, {emits(24, finish()), nil, 24, true}, {emits(25, finish()), nil, 24, false}, {emits(39, finish()), nil, 24, false},
		// The remaining process is a loop, a choice or an action, even if it would do nothing, or need no input.
		{emits(24, repeat(finish())), nil, 24, false}, {emits(23, repeat(finish())), nil, 23, true}, {emits(24, either(finish(), finish())), zeros, 24, false}, {emits(23, either(finish(), finish())), zeros, 23, true}, {emits(23, either(finish(), finish())), nil, 23, false},
		{emits(24, accept("A", arm("a", finish()))), zeros, 24, false}, {emits(23, accept("A", arm("a", finish()))), zeros, 24, true}, {emits(23, accept("A", arm("a", finish()))), nil, 23, false}, {emits(23, repeat(emit("A", "b", finish()))), nil, 24, true},
		{repeat(emits(23, either(jump(0), emit("B", "d", finish())))), []int{1}, 24, true}, {repeat(emits(24, jump(0))), nil, 24, false}, {repeat(emits(24, either(jump(0), finish()))), []int{1}, 24, false}, {emits(24, repeats(2, emit("B", "a", jump(1)))), nil, 24, false},
		// Loops that end at the limit, and that never end.
		{repeat(emit("B", "a", jump(0))), nil, 24, false}, {repeat(emit("B", "a", jump(0))), zeros, 24, false}, {repeat(emits(5, jump(0))), nil, 24, false}, {repeat(accept("B", arm("a", jump(0)))), zeros, 24, false}, {repeat(accept("B", arm("a", jump(0)))), zeros[:24], 24, false},
		{repeat(accept("B", arm("a", jump(0)))), zeros[:23], 23, false}, {repeat(accept("B", arm("a", jump(0)), arm("b", finish()))), append(make([]int, 23), 1), 24, true}, {repeat(accept("B", arm("a", jump(0)), arm("b", finish()))), append(make([]int, 24), 1), 24, false},
		{repeat(either(emit("B", "a", jump(0)), emit("B", "b", finish()))), append(make([]int, 23), 1), 24, true}, {repeat(either(emit("B", "a", jump(0)), finish())), append(make([]int, 23), 1), 23, true}, {repeat(either(emit("B", "a", jump(0)), finish())), append(make([]int, 24), 1), 24, false},
	} {
		trace, finished := checkExecution(t, c.p, c.inputs)
		if len(trace) != c.actions || finished != c.finished {
			t.Errorf("RunProcess of %s with %d inputs does %d actions, %v", textOfProcess(c.p), len(c.inputs), len(trace), finished)
		}
	}
}

// TestEveryExecution executes each process of a few nodes with each list of a few inputs.
func TestEveryExecution(t *testing.T) {
	var list []impl.Process
	for n := 1; n <= 5; n++ {
		list = append(list, allProcesses(n, 0, 0)...)
	}
	var extend func(p impl.Process, inputs []int)
	extend = func(p impl.Process, inputs []int) {
		before, _ := checkExecution(t, p, inputs)
		if len(inputs) == 4 {
			return
		}
		for _, input := range []int{0, 1} {
			// More inputs can only add to the trace.
			longer := append(slices.Clip(inputs), input)
			if after, _ := impl.RunProcess(p, longer); len(after) < len(before) || !slices.Equal(after[:len(before)], before) {
				t.Errorf("%s does %s with %v, and %s with %v", textOfProcess(p), actTexts(before), inputs, actTexts(after), longer)
			}
			extend(p, longer)
		}
	}
	for _, p := range list {
		extend(p, nil)
	}
	if len(list) < 1000 {
		t.Errorf("only %d processes", len(list))
	}
}

// TestRandomExecutions has inputs that are negative, far away or next to the limits of integers.
func TestRandomExecutions(t *testing.T) {
	r := rand.New(rand.NewSource(29))
	counts := map[string]int{}
	for _, p := range randomProcesses(3000) {
		for range 6 {
			inputs := randomChoices(r, r.Intn(60))
			trace, finished := checkExecution(t, p, inputs)
			switch {
			case finished:
				counts["finished"]++
			case len(trace) == 24:
				counts["full"]++
			default:
				counts["waiting"]++
			}
			if _, typed := impl.InferType(p); typed && len(trace) > 2 {
				counts["typed"]++
			}
		}
	}
	for _, what := range []string{"finished", "full", "waiting", "typed"} {
		if counts[what] < 1000 {
			t.Errorf("only %d executions are %s", counts[what], what)
		}
	}
}
