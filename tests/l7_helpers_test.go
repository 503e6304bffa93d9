package tests

import (
	"fmt"
	"math/rand"
	"slices"
	"strconv"
	"strings"
	"testing"

	"loop.example/sessiontypes/impl"
)

// eventsOf returns the events of a text such as +a t0 d0 k0: + sends a label, t
// transmits, d delivers, p drops a packet, k acknowledges, q drops an acknowledgment.
func eventsOf(text string) []impl.Event {
	var list []impl.Event
	for field := range strings.FieldsSeq(text) {
		e := impl.Event{Kind: strings.Index("+tdpkq", field[:1]) + 1}
		if e.Kind == impl.EventSend {
			e.Label = field[1:]
		} else {
			e.Index, _ = strconv.Atoi(field[1:])
		}
		list = append(list, e)
	}
	return list
}

// linkText describes a link in a limited length, with quotes around its strings.
func linkText(l impl.Link) string {
	s := fmt.Sprintf("{%d %q %d %q %v %v}", l.Base, l.Window, l.Expected, l.Delivered, l.Packets, l.Acks)
	return s[:min(len(s), 400)]
}

// linkAfter returns the zero link after the events, which must all be possible.
func linkAfter(t *testing.T, text string) impl.Link {
	t.Helper()
	l, ok := impl.Link{}, true
	for _, e := range eventsOf(text) {
		if l, ok = impl.ApplyEvent(l, e); !ok {
			t.Fatalf("%+v of %q is not possible", e, text)
		}
	}
	return l
}

// acknowledgedLink returns a link on which n labels were sent, delivered and acknowledged.
func acknowledgedLink(n int) impl.Link {
	return impl.Link{Base: n, Expected: n, Delivered: strings.Repeat("abcd", n/4+1)[:n]}
}

func isZeroLink(l impl.Link) bool {
	return l.Base == 0 && l.Window == "" && l.Expected == 0 && l.Delivered == "" && len(l.Packets) == 0 && len(l.Acks) == 0
}

// sameLink compares two links field by field.
func sameLink(a, b impl.Link) bool {
	return a.Base == b.Base && a.Window == b.Window && a.Expected == b.Expected && a.Delivered == b.Delivered &&
		slices.Equal(a.Packets, b.Packets) && slices.Equal(a.Acks, b.Acks)
}

// onlyLabels reports whether each byte of s is a letter from a to d.
func onlyLabels(s string) bool {
	for i := range len(s) {
		if s[i] < 'a' || s[i] > 'd' {
			return false
		}
	}
	return true
}

// numbered returns the label with a number on a link, and whether there is one.
// It asks the window first, and Delivered only for the labels before it.
func numbered(l impl.Link, number int) (string, bool) {
	switch {
	case number < 0 || number >= l.Base+len(l.Window):
		return "", false
	case number >= l.Base:
		return string(l.Window[number-l.Base]), true
	}
	return string(l.Delivered[number]), true
}

// validLink decides by the definition in the document whether l is valid.
func validLink(l impl.Link) bool {
	if !onlyLabels(l.Window) || !onlyLabels(l.Delivered) || len(l.Window) > 3 || l.Expected != len(l.Delivered) {
		return false
	}
	if l.Base < 0 || l.Expected < l.Base || l.Expected > l.Base+len(l.Window) || l.Base+len(l.Window) > 100 {
		return false
	}
	for i := l.Base; i < l.Expected; i++ {
		if l.Delivered[i] != l.Window[i-l.Base] {
			return false
		}
	}
	for _, p := range l.Packets {
		if label, ok := numbered(l, p.Seq); !ok || p.Label != label {
			return false
		}
	}
	for _, ack := range l.Acks {
		if ack < 0 || ack > l.Expected {
			return false
		}
	}
	return len(l.Packets) <= 6 && len(l.Acks) <= 6
}

// sentByRules returns the labels sent on a valid link.
func sentByRules(l impl.Link) string {
	sent := ""
	for i := range l.Base + len(l.Window) {
		label, _ := numbered(l, i)
		sent += label
	}
	return sent
}

// without returns list without the element at the index, in new memory.
func without[T any](list []T, index int) []T {
	var rest []T
	for i, value := range list {
		if i != index {
			rest = append(rest, value)
		}
	}
	return rest
}

// eventByRules applies an event to a valid link by the definition in the document.
func eventByRules(l impl.Link, e impl.Event) (impl.Link, bool) {
	l.Packets, l.Acks = slices.Clone(l.Packets), slices.Clone(l.Acks)
	aPacket, anAck := 0 <= e.Index && e.Index < len(l.Packets), 0 <= e.Index && e.Index < len(l.Acks)
	switch {
	case e.Kind == 1:
		if e.Index != 0 || len(e.Label) != 1 || !onlyLabels(e.Label) || len(l.Window) == 3 || len(sentByRules(l)) == 100 {
			return impl.Link{}, false
		}
		l.Window += e.Label
	case e.Label != "":
		return impl.Link{}, false
	case e.Kind == 2 && 0 <= e.Index && e.Index < len(l.Window) && len(l.Packets) < 6:
		l.Packets = append(l.Packets, impl.Packet{Seq: l.Base + e.Index, Label: string(l.Window[e.Index])})
	case e.Kind == 3 && aPacket && len(l.Acks) < 6:
		p := l.Packets[e.Index]
		l.Packets = without(l.Packets, e.Index)
		if p.Seq == l.Expected {
			l.Delivered, l.Expected = l.Delivered+p.Label, l.Expected+1
		}
		l.Acks = append(l.Acks, l.Expected)
	case e.Kind == 4 && aPacket:
		l.Packets = without(l.Packets, e.Index)
	case e.Kind == 5 && anAck:
		ack := l.Acks[e.Index]
		l.Acks = without(l.Acks, e.Index)
		for l.Base < ack {
			l.Base, l.Window = l.Base+1, l.Window[1:]
		}
	case e.Kind == 6 && anAck:
		l.Acks = without(l.Acks, e.Index)
	default:
		return impl.Link{}, false
	}
	return l, true
}

// checkLink compares the functions of one valid link with the document.
func checkLink(t *testing.T, l impl.Link) {
	t.Helper()
	sent := sentByRules(l)
	if got := impl.LinkSent(l); !impl.LinkValid(l) || got != sent {
		t.Errorf("LinkValid of %s = %v, and LinkSent = %q", linkText(l), impl.LinkValid(l), got)
	}
	if got := impl.ApplyEvents(l, nil); !sameLink(got, l) || !impl.LinkEqual(l, got) {
		t.Errorf("ApplyEvents of %s without events = %s", linkText(l), linkText(got))
	}
	flushed := impl.Link{Base: len(sent), Expected: len(sent), Delivered: sent}
	if got := impl.Flush(l); !sameLink(got, flushed) {
		t.Errorf("Flush of %s = %s", linkText(l), linkText(got))
	}
}

// checkEvent compares ApplyEvent with the document for a valid link, and
// requires what promise 7 says before and after the event.
func checkEvent(t *testing.T, l impl.Link, e impl.Event) (impl.Link, bool) {
	t.Helper()
	next, ok := impl.ApplyEvent(l, e)
	want, wantOk := eventByRules(l, e)
	if ok != wantOk || !sameLink(next, want) {
		t.Errorf("ApplyEvent of %s to %s = %s, %v, want %s, %v", show(e), linkText(l), linkText(next), ok, linkText(want), wantOk)
	}
	if got := impl.ApplyEvents(l, []impl.Event{e}); ok && !sameLink(got, next) || !ok && !sameLink(got, l) {
		t.Errorf("ApplyEvents of only %s to %s = %s", show(e), linkText(l), linkText(got))
	}
	if !ok {
		return next, false
	}
	sent := impl.LinkSent(l)
	if e.Kind == impl.EventSend {
		sent += e.Label
	}
	if got := impl.LinkSent(next); got != sent || !strings.HasPrefix(sent, next.Delivered) || !strings.HasPrefix(next.Delivered, l.Delivered) {
		t.Errorf("after %s to %s, %q is sent and %q delivered", show(e), linkText(l), got, next.Delivered)
	}
	if grown := len(next.Delivered) - len(l.Delivered); grown > 1 || grown == 1 && e.Kind != impl.EventDeliver || next.Base < l.Base {
		t.Errorf("%s leads from %s to %s", show(e), linkText(l), linkText(next))
	}
	return next, true
}

// checkNoLink requires the results of all functions for a link that is not valid.
func checkNoLink(t *testing.T, what string, l impl.Link) {
	t.Helper()
	if got := impl.LinkSent(l); impl.LinkValid(l) || got != "" {
		t.Errorf("%s: LinkValid = %v, and LinkSent = %s", what, impl.LinkValid(l), show(got))
	}
	for _, e := range anyEvents() {
		if next, ok := impl.ApplyEvent(l, e); ok || !isZeroLink(next) {
			t.Errorf("%s: ApplyEvent of %+v = %s, %v", what, e, linkText(next), ok)
		}
	}
	for _, events := range [][]impl.Event{nil, {}, {{}}, eventsOf("+a"), eventsOf("p0 q0 +b t0 d0 k0")} {
		if next := impl.ApplyEvents(l, events); !isZeroLink(next) {
			t.Errorf("%s: ApplyEvents of %+v = %s", what, events, linkText(next))
		}
	}
	if next := impl.Flush(l); !isZeroLink(next) {
		t.Errorf("%s: Flush = %s", what, linkText(next))
	}
}

// usualEvents returns the events that are possible on some link, except that
// only a few labels are sent.
func usualEvents() []impl.Event {
	list := eventsOf("+a +b +d")
	for kind := impl.EventTransmit; kind <= impl.EventDropAck; kind++ {
		for index := range 6 {
			list = append(list, impl.Event{Kind: kind, Index: index})
		}
	}
	return list
}

// anyEvents returns events of which most are not possible on any link.
func anyEvents() []impl.Event {
	var list []impl.Event
	for _, kind := range []int{-1 << 63, -1, 0, 1, 2, 3, 4, 5, 6, 7, 8, 1<<63 - 1} {
		for _, index := range []int{-1 << 63, -7, -1, 0, 1, 2, 3, 5, 6, 7, 1<<63 - 1} {
			for _, label := range []string{"", "a", "b", "c", "d", "e", "A", "`", "ab", "a ", "\x00", "\xff", "ä"} {
				list = append(list, impl.Event{Kind: kind, Index: index, Label: label})
			}
		}
	}
	return list
}

// randomLinks returns valid links of many shapes, the same ones in each run. In
// most of them, the packets and the acknowledgments are any that are permitted.
func randomLinks(n int) []impl.Link {
	r := rand.New(rand.NewSource(19))
	var list []impl.Link
	for len(list) < n {
		size := []int{r.Intn(4), r.Intn(12), 90 + r.Intn(11)}[r.Intn(3)]
		sent := ""
		for range size {
			sent += string("abcd"[r.Intn(4)])
		}
		l := impl.Link{Base: size - min(size, r.Intn(4))}
		l.Window = sent[l.Base:]
		l.Expected = l.Base + r.Intn(size-l.Base+1)
		l.Delivered = sent[:l.Expected]
		for range min(r.Intn(8), 6) {
			if size > 0 {
				seq := max(0, size-1-r.Intn(6)*r.Intn(2))
				l.Packets = append(l.Packets, impl.Packet{Seq: seq, Label: sent[seq : seq+1]})
			}
		}
		for range min(r.Intn(8), 6) {
			l.Acks = append(l.Acks, max(0, l.Expected-r.Intn(5)))
		}
		list = append(list, l)
	}
	return list
}
