package tests

import (
	"runtime"
	"slices"
	"strings"
	"testing"

	"loop.example/sessiontypes/impl"
)

// beyondSeq is the number that marks what lies behind the length of a slice.
const beyondSeq = 77

// spaciousLink copies l into slices with more capacity than length, and marks what lies behind the length.
func spaciousLink(l impl.Link) impl.Link {
	l.Packets = append(make([]impl.Packet, 0, len(l.Packets)+3), l.Packets...)
	l.Acks = append(make([]int, 0, len(l.Acks)+3), l.Acks...)
	for i := range 3 {
		l.Packets[:cap(l.Packets)][len(l.Packets)+i] = impl.Packet{Seq: beyondSeq, Label: "beyond"}
		l.Acks[:cap(l.Acks)][len(l.Acks)+i] = beyondSeq
	}
	return l
}

// markedLink reports whether everything behind the lengths of the slices is still marked.
func markedLink(l impl.Link) bool {
	for _, p := range l.Packets[:cap(l.Packets)][len(l.Packets):] {
		if p != (impl.Packet{Seq: beyondSeq, Label: "beyond"}) {
			return false
		}
	}
	for _, ack := range l.Acks[:cap(l.Acks)][len(l.Acks):] {
		if ack != beyondSeq {
			return false
		}
	}
	return true
}

// addLink adds the elements of the slices of l, and reports whether none of them was there before.
func (m memory) addLink(l impl.Link) bool {
	separate := true
	for i := range l.Packets[:cap(l.Packets)] {
		element := &l.Packets[:cap(l.Packets)][i]
		separate = separate && !m.others[element]
		m.others[element] = true
	}
	for i := range l.Acks[:cap(l.Acks)] {
		element := &l.Acks[:cap(l.Acks)][i]
		separate = separate && !m.others[element]
		m.others[element] = true
	}
	return separate
}

// emptiedLinks returns links without anything in flight, in slices with room for it.
func emptiedLinks() []impl.Link {
	empty := impl.Link{Packets: []impl.Packet{}, Acks: []int{}}
	window := empty
	window.Window = "abc"
	return []impl.Link{empty, window, {Window: "ab", Packets: packets("0a"), Acks: []int{}}, {Window: "ab", Packets: []impl.Packet{}, Acks: []int{0}}}
}

func TestLinkMemory(t *testing.T) {
	for _, original := range append(randomLinks(300), emptiedLinks()...) {
		l, other := spaciousLink(original), spaciousLink(original)
		all := newMemory()
		if !all.addLink(l) || !all.addLink(other) {
			t.Fatal("the argument shares memory with itself")
		}
		if !impl.LinkEqual(l, other) || impl.LinkSent(l) != sentByRules(original) {
			t.Errorf("%s is not as it was", linkText(original))
		}
		list := append(usualEvents(), impl.Event{})
		events := append(slices.Clone(list), eventsOf("t0 t0 d0 d0 k1 t0 d0 p0 q0 +b t0")...)
		given := slices.Clone(events)
		for range 2 {
			for _, e := range list {
				if next, _ := impl.ApplyEvent(l, e); !all.addLink(next) {
					t.Errorf("the link after %+v on %s shares memory", e, linkText(original))
				}
			}
			if !all.addLink(impl.ApplyEvents(l, nil)) || !all.addLink(impl.ApplyEvents(l, events[:1])) || !all.addLink(impl.ApplyEvents(l, events)) {
				t.Errorf("ApplyEvents of %s shares memory", linkText(original))
			}
			if !all.addLink(impl.Flush(l)) {
				t.Errorf("Flush of %s shares memory", linkText(original))
			}
		}
		if !sameLink(l, original) || !markedLink(l) || !markedLink(other) || !slices.Equal(events, given) {
			t.Errorf("%s or what lies behind it was modified", linkText(original))
		}
	}
}

// TestBeyondTheLink has what would not be valid, or not possible, behind the lengths.
func TestBeyondTheLink(t *testing.T) {
	l := impl.Link{Window: "ab", Packets: packets("0a 1b 7d 0b"), Acks: []int{0, 0, 5, -1}}
	l.Packets, l.Acks = l.Packets[:2], l.Acks[:2]
	checkLink(t, l)
	for _, e := range usualEvents() {
		checkEvent(t, l, e)
	}
	events := eventsOf("t0 d0 k0 +c +d")
	want := impl.Link{Window: "ab", Packets: packets("0a 1b 0a"), Acks: []int{0, 0}}
	if got := impl.ApplyEvents(l, events[:1]); !sameLink(got, want) {
		t.Errorf("ApplyEvents of one event = %s", linkText(got))
	}
	if !slices.Equal(l.Packets[:4], packets("0a 1b 7d 0b")) || !slices.Equal(l.Acks[:4], []int{0, 0, 5, -1}) {
		t.Error("the memory behind the lengths was modified")
	}
}

// TestUsedResults changes results, which may not change others.
func TestUsedResults(t *testing.T) {
	l := impl.Link{Window: "ab", Packets: packets("0a 1b"), Acks: []int{0, 0}}
	first, second := impl.ApplyEvents(l, nil), impl.ApplyEvents(l, eventsOf("t0"))
	third, _ := impl.ApplyEvent(first, impl.Event{Kind: impl.EventDropAck, Index: 1})
	first.Packets[0].Label, first.Acks[0] = "d", 9
	_ = append(third.Packets, impl.Packet{Label: "c"})
	_ = append(third.Acks, 8)
	if !sameLink(l, impl.Link{Window: "ab", Packets: packets("0a 1b"), Acks: []int{0, 0}}) ||
		!sameLink(second, impl.Link{Window: "ab", Packets: packets("0a 1b 0a"), Acks: []int{0, 0}}) ||
		!sameLink(third, impl.Link{Window: "ab", Packets: packets("0a 1b"), Acks: []int{0}}) {
		t.Errorf("the links are %s, %s and %s", linkText(l), linkText(second), linkText(third))
	}
}

// TestLinksKeepNoState calls the functions in another order and at the same time.
func TestLinksKeepNoState(t *testing.T) {
	list := append(randomLinks(300), emptiedLinks()...)
	for _, l := range invalidLinks() {
		if len(l.Window)+len(l.Delivered)+len(l.Packets)+len(l.Acks) < 300 {
			list = append(list, l)
		}
	}
	results := func(i int) string {
		l := list[i]
		text := linkText(l) + impl.LinkSent(l) + show(impl.LinkValid(l)) + linkText(impl.Flush(l)) + linkText(impl.ApplyEvents(l, usualEvents()))
		for _, e := range usualEvents() {
			next, ok := impl.ApplyEvent(l, e)
			text += linkText(next) + show([]bool{ok, impl.LinkEqual(l, next)})
		}
		return text
	}
	keepsNoState(t, len(list), results)
}

// TestSchedulingIsNotVisible flushes many times, because the sender and the
// receiver can proceed in any order, and the channels can lose anything.
func TestSchedulingIsNotVisible(t *testing.T) {
	before := runtime.NumGoroutine()
	crowded := impl.Link{Window: "abc", Packets: packets("2c 2c 2c 2c 2c 2c"), Acks: make([]int, 6)}
	returns(t, "Flush", func() {
		for _, l := range []impl.Link{
			{}, {Window: "d"}, {Window: "abc"}, crowded, {Window: "abc", Packets: packets("1b 2c 1b"), Acks: make([]int, 6)}, {Window: "ab", Packets: packets("1b 1b 1b 1b 1b 1b")},
			{Base: 1, Window: "bcd", Expected: 4, Delivered: "abcd", Packets: packets("0a 0a 0a 3d 3d 3d"), Acks: []int{0, 0, 0, 0, 0, 1}},
			{Base: 97, Window: "aaa", Expected: 98, Delivered: strings.Repeat("a", 98), Packets: slices.Repeat([]impl.Packet{{Seq: 99, Label: "a"}}, 6), Acks: []int{98, 0, 98, 97, 1, 2}},
		} {
			sent := impl.LinkSent(l)
			want := impl.Link{Base: len(sent), Expected: len(sent), Delivered: sent}
			for range 3000 {
				if got := impl.Flush(l); !sameLink(got, want) {
					t.Fatalf("Flush of %s = %s", linkText(l), linkText(got))
				}
			}
		}
	})
	if after := runtime.NumGoroutine(); after > before+100 {
		t.Errorf("%d goroutines before, and %d after", before, after)
	}
}
