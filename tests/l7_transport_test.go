package tests

import (
	"math/rand"
	"slices"
	"strings"
	"testing"

	"loop.example/sessiontypes/impl"
)

func TestTransportLimits(t *testing.T) {
	if impl.WindowSize != 3 || impl.MaxInFlight != 6 || impl.MaxSequence != 100 {
		t.Errorf("the limits are %d, %d and %d", impl.WindowSize, impl.MaxInFlight, impl.MaxSequence)
	}
	kinds := []int{impl.EventSend, impl.EventTransmit, impl.EventDeliver, impl.EventDropPacket, impl.EventAck, impl.EventDropAck}
	if !slices.Equal(kinds, []int{1, 2, 3, 4, 5, 6}) {
		t.Errorf("the kinds of events are %v", kinds)
	}
}

// TestTransportExample is the example of the document.
func TestTransportExample(t *testing.T) {
	l := linkAfter(t, "+a +b t1 d0")
	want := impl.Link{Window: "ab", Acks: []int{0}}
	if !sameLink(l, want) {
		t.Errorf("the link is %s", linkText(l))
	}
	after, ok := impl.ApplyEvent(l, impl.Event{Kind: impl.EventAck})
	if want.Acks = nil; !ok || !sameLink(after, want) {
		t.Errorf("the link after the acknowledgment is %s, %v", linkText(after), ok)
	}
}

// packets returns packets from a text such as 0a 1b.
func packets(text string) []impl.Packet {
	var list []impl.Packet
	for field := range strings.FieldsSeq(text) {
		list = append(list, impl.Packet{Seq: int(field[0] - '0'), Label: field[1:]})
	}
	return list
}

func TestLinkValid(t *testing.T) {
	hundred := strings.Repeat("d", 100)
	full := impl.Link{Base: 97, Window: "ddd", Expected: 98, Delivered: hundred[:98]}
	for _, l := range []impl.Link{
		// The zero value, also with empty slices.
		{}, {Packets: []impl.Packet{}, Acks: []int{}},
		// Windows of each size, of which nothing, a part, or everything is delivered.
		{Window: "a"}, {Window: "ab"}, {Window: "dcb"}, {Window: "aaa", Expected: 1, Delivered: "a"}, {Window: "abc", Expected: 2, Delivered: "ab"}, {Window: "abc", Expected: 3, Delivered: "abc"},
		{Base: 1, Expected: 1, Delivered: "a"}, {Base: 2, Window: "cd", Expected: 3, Delivered: "abc"}, {Base: 1, Window: "abc", Expected: 1, Delivered: "d"},
		// What was delivered before Base may be anything.
		{Base: 2, Window: "a", Expected: 2, Delivered: "cd"}, {Base: 2, Window: "a", Expected: 3, Delivered: "dda"},
		// The last sequence numbers.
		acknowledgedLink(100), acknowledgedLink(99), full, {Base: 97, Window: "ddd", Expected: 97, Delivered: hundred[:97]}, {Base: 97, Window: "ddd", Expected: 100, Delivered: hundred},
		{Base: 99, Window: "a", Expected: 99, Delivered: hundred[:99], Packets: []impl.Packet{{Seq: 99, Label: "a"}, {Seq: 98, Label: "d"}}, Acks: []int{99, 0}},
		// Packets with old, expected and later numbers, and several times the same one.
		{Window: "ab", Packets: packets("1b 0a 0a 1b 1b 1b")}, {Base: 1, Window: "bc", Expected: 2, Delivered: "ab", Packets: packets("0a 1b 2c 0a 2c")},
		// The least and the greatest acknowledgment.
		{Acks: []int{0, 0, 0, 0, 0, 0}}, {Base: 1, Window: "bc", Expected: 3, Delivered: "abc", Acks: []int{3, 0, 1, 2, 3, 3}},
	} {
		if !validLink(l) {
			t.Fatalf("the test is wrong about %s", linkText(l))
		}
		checkLink(t, l)
		for _, e := range usualEvents() {
			checkEvent(t, l, e)
		}
	}
	for _, l := range randomLinks(2000) {
		if !validLink(l) {
			t.Fatalf("the test is wrong about %s", linkText(l))
		}
		checkLink(t, l)
	}
}

// invalidLinks returns links that are not valid, each by one condition, with its name.
func invalidLinks() map[string]impl.Link {
	hundred := strings.Repeat("d", 100)
	list := map[string]impl.Link{
		"a window that is too long":                      {Window: "abcd"},
		"a long window of which a part is delivered":     {Window: "abcd", Expected: 4, Delivered: "abcd"},
		"a very long window":                             {Window: strings.Repeat("a", 1<<20)},
		"Expected above the length":                      {Window: "ab", Expected: 1},
		"Base and Expected above the length":             {Base: 1, Window: "b", Expected: 1},
		"Expected below the length":                      {Window: "ab", Delivered: "a"},
		"an Expected that is negative":                   {Window: "ab", Expected: -1},
		"an Expected that is negative, and more":         {Base: -1, Window: "ab", Expected: -1},
		"a huge Expected":                                {Window: "ab", Expected: 1<<63 - 1, Delivered: "a"},
		"a negative Base":                                {Base: -1, Window: "a"},
		"a negative Base before what is delivered":       {Base: -1, Window: "ab", Expected: 1, Delivered: "b"},
		"the least Base":                                 {Base: -1 << 63, Window: "a"},
		"Base above Expected":                            {Base: 1},
		"Base above Expected, with a window":             {Base: 2, Window: "b", Expected: 1, Delivered: "a"},
		"the greatest Base":                              {Base: 1<<63 - 1, Window: "abc"},
		"Expected above what is sent":                    {Expected: 1, Delivered: "a"},
		"Expected above what is sent, with a window":     {Base: 1, Window: "b", Expected: 3, Delivered: "abc"},
		"too many labels sent":                           {Base: 98, Window: "ddd", Expected: 98, Delivered: hundred[:98]},
		"too many labels delivered":                      {Base: 98, Window: "ddd", Expected: 101, Delivered: hundred + "d"},
		"too many labels acknowledged":                   {Base: 101, Expected: 101, Delivered: hundred + "d"},
		"a great many labels acknowledged":               {Base: 1 << 20, Expected: 1 << 20, Delivered: strings.Repeat("a", 1<<20)},
		"another label delivered":                        {Window: "a", Expected: 1, Delivered: "b"},
		"another last label delivered":                   {Base: 1, Window: "abc", Expected: 4, Delivered: "dabd"},
		"another first label delivered":                  {Base: 1, Window: "abc", Expected: 4, Delivered: "ddbc"},
		"the labels delivered in another order":          {Window: "ab", Expected: 2, Delivered: "ba"},
		"a label delivered twice":                        {Window: "abc", Expected: 3, Delivered: "aab"},
		"a label not delivered":                          {Window: "abc", Expected: 2, Delivered: "ac"},
		"a packet with a negative number":                {Window: "ab", Packets: []impl.Packet{{Seq: -1, Label: "a"}}},
		"a packet with the least number":                 {Window: "ab", Packets: []impl.Packet{{Seq: -1 << 63, Label: "a"}}},
		"a packet with a number that is not sent":        {Window: "ab", Packets: packets("0a 2b")},
		"a packet with the greatest number":              {Window: "ab", Packets: []impl.Packet{{Seq: 1<<63 - 1, Label: "b"}}},
		"a packet, and nothing sent":                     {Packets: packets("0a")},
		"a packet with another label":                    {Window: "ab", Packets: packets("1b 1a")},
		"a packet without a label":                       {Window: "ab", Packets: packets("0")},
		"a packet with two labels":                       {Window: "ab", Packets: packets("0ab")},
		"a packet with a label that is none":             {Window: "ab", Packets: packets("0e")},
		"an old packet with another label":               {Base: 2, Window: "c", Expected: 2, Delivered: "ab", Packets: packets("0b")},
		"an old packet with the label of the window":     {Base: 1, Window: "b", Expected: 1, Delivered: "a", Packets: packets("0b")},
		"an acknowledgment that is negative":             {Window: "ab", Expected: 1, Delivered: "a", Acks: []int{-1}},
		"the least acknowledgment":                       {Window: "ab", Expected: 1, Delivered: "a", Acks: []int{0, -1 << 63}},
		"an acknowledgment above Expected":               {Window: "ab", Expected: 1, Delivered: "a", Acks: []int{1, 2}},
		"an acknowledgment above Expected, nothing sent": {Acks: []int{1}},
		"the greatest acknowledgment":                    {Window: "ab", Expected: 1, Delivered: "a", Acks: []int{1<<63 - 1}},
		"too many packets":                               {Window: "ab", Packets: packets("0a 1b 0a 1b 0a 1b 0a")},
		"too many acknowledgments":                       {Window: "ab", Acks: make([]int, 7)},
		"a great many packets":                           {Window: "ab", Packets: slices.Repeat(packets("0a"), 1<<16)},
		"a great many acknowledgments":                   {Window: "ab", Acks: make([]int, 1<<20)},
	}
	for _, s := range []string{"e", "A", "`", "\x00", " ", "\n", "\xff", "ä", "ae", "ea", "aea", "a\x00", "\xffb", "á", ".", "0"} {
		list["a window with "+s] = impl.Link{Window: s}
		list["a delivered part of the window with "+s] = impl.Link{Window: s, Expected: len(s), Delivered: s}
		list["an acknowledged part with "+s] = impl.Link{Base: len(s), Window: "ab", Expected: len(s), Delivered: s}
		list["packets and a window with "+s] = impl.Link{Window: s, Packets: []impl.Packet{{Label: s[:1]}}}
	}
	return list
}

func TestLinkInvalid(t *testing.T) {
	for what, l := range invalidLinks() {
		if len(l.Window)+len(l.Delivered) < 1000 && validLink(l) {
			t.Errorf("the test is wrong about %s", what)
		}
		checkNoLink(t, what, l)
	}
}

// TestLinkChanges changes one field of valid links.
func TestLinkChanges(t *testing.T) {
	r := rand.New(rand.NewSource(20))
	counts := map[bool]int{}
	for range 10 {
		for _, l := range randomLinks(1000) {
			i := r.Intn(8)
			labels := []string{"", "a", "b", "c", "d", "e", "aa"}
			switch i {
			case 0:
				l.Base += []int{-1, 1}[r.Intn(2)]
			case 1:
				l.Window += labels[r.Intn(7)]
			case 2:
				l.Expected += []int{-1, 1}[r.Intn(2)]
			case 3:
				l.Delivered += labels[r.Intn(7)]
			case 4:
				l.Delivered += labels[1+r.Intn(4)]
				l.Expected++
			case 5:
				l.Packets = append(slices.Clone(l.Packets), impl.Packet{Seq: l.Base + r.Intn(6) - 2, Label: labels[r.Intn(6)]})
			case 6:
				l.Acks = append(slices.Clone(l.Acks), l.Expected+r.Intn(5)-2)
			case 7:
				l.Base++
				l.Window = l.Window[min(1, len(l.Window)):]
			}
			want := validLink(l)
			counts[want]++
			if got := impl.LinkValid(l); got != want {
				t.Errorf("LinkValid of %s = %v", linkText(l), got)
			}
		}
	}
	if counts[true] < 1000 || counts[false] < 1000 {
		t.Errorf("only %v links", counts)
	}
}

func TestLinkSent(t *testing.T) {
	for _, c := range []struct {
		l    impl.Link
		want string
	}{
		{impl.Link{}, ""}, {impl.Link{Window: "abc"}, "abc"}, {impl.Link{Window: "abc", Expected: 2, Delivered: "ab"}, "abc"}, {impl.Link{Window: "abc", Expected: 3, Delivered: "abc"}, "abc"},
		{impl.Link{Base: 2, Window: "dd", Expected: 3, Delivered: "bcd"}, "bcdd"}, {impl.Link{Base: 2, Expected: 2, Delivered: "aa"}, "aa"}, {acknowledgedLink(100), strings.Repeat("abcd", 25)},
		{impl.Link{Window: "abcd"}, ""}, {impl.Link{Base: 1, Window: "a"}, ""}, {impl.Link{Expected: 1, Delivered: "a"}, ""},
	} {
		if got := impl.LinkSent(c.l); got != c.want {
			t.Errorf("LinkSent of %s = %q, want %q", linkText(c.l), got, c.want)
		}
	}
}

// TestEvents applies events that are possible, one after the other.
func TestEvents(t *testing.T) {
	for _, c := range []struct {
		events string
		want   impl.Link
	}{
		{"", impl.Link{}}, {"+c", impl.Link{Window: "c"}}, {"+a +b +a", impl.Link{Window: "aba"}},
		// Transmission, also several times and in any order.
		{"+a t0", impl.Link{Window: "a", Packets: packets("0a")}}, {"+a +b t1 t0 t1", impl.Link{Window: "ab", Packets: packets("1b 0a 1b")}}, {"+a t0 t0 t0 t0 t0 t0", impl.Link{Window: "a", Packets: packets("0a 0a 0a 0a 0a 0a")}},
		// The expected packet.
		{"+a t0 d0", impl.Link{Window: "a", Expected: 1, Delivered: "a", Acks: []int{1}}}, {"+a +b t0 t1 d0 d0", impl.Link{Window: "ab", Expected: 2, Delivered: "ab", Acks: []int{1, 2}}},
		// A packet ahead: it is not kept, and must be transmitted again.
		{"+a +b t1 d0", impl.Link{Window: "ab", Acks: []int{0}}}, {"+a +b t0 t1 d1 d0", impl.Link{Window: "ab", Expected: 1, Delivered: "a", Acks: []int{0, 1}}}, {"+a +b +c t2 t1 t0 d0 d0 d0", impl.Link{Window: "abc", Expected: 1, Delivered: "a", Acks: []int{0, 0, 1}}},
		{"+a +b t1 t0 d0 d0 t1 d0", impl.Link{Window: "ab", Expected: 2, Delivered: "ab", Acks: []int{0, 1, 2}}},
		// A packet with the expected label but another number, and labels that repeat.
		{"+a +a t1 d0", impl.Link{Window: "aa", Acks: []int{0}}}, {"+a +a t0 t0 d0 d0", impl.Link{Window: "aa", Expected: 1, Delivered: "a", Acks: []int{1, 1}}}, {"+a +a t0 t1 d0 d0", impl.Link{Window: "aa", Expected: 2, Delivered: "aa", Acks: []int{1, 2}}},
		// A duplicate packet, and an old one whose label is not in the window any more.
		{"+a t0 t0 d0 d0", impl.Link{Window: "a", Expected: 1, Delivered: "a", Acks: []int{1, 1}}}, {"+a t0 t0 d0 k0 d0", impl.Link{Base: 1, Expected: 1, Delivered: "a", Acks: []int{1}}}, {"+a t0 t0 d0 k0 +b +c +d d0", impl.Link{Base: 1, Window: "bcd", Expected: 1, Delivered: "a", Acks: []int{1}}},
		// Lost packets and acknowledgments: the first, one in the middle, the last.
		{"+a +b +c t0 t1 t2 p0", impl.Link{Window: "abc", Packets: packets("1b 2c")}}, {"+a +b +c t0 t1 t2 p1", impl.Link{Window: "abc", Packets: packets("0a 2c")}}, {"+a +b +c t0 t1 t2 p2", impl.Link{Window: "abc", Packets: packets("0a 1b")}},
		{"+a +b +c t0 t1 t2 d0 d0 d0 q0", impl.Link{Window: "abc", Expected: 3, Delivered: "abc", Acks: []int{2, 3}}}, {"+a +b +c t0 t1 t2 d0 d0 d0 q1", impl.Link{Window: "abc", Expected: 3, Delivered: "abc", Acks: []int{1, 3}}}, {"+a +b +c t0 t1 t2 d0 d0 d0 q2", impl.Link{Window: "abc", Expected: 3, Delivered: "abc", Acks: []int{1, 2}}},
		// An acknowledgment above Base: of the first label, of several, and of the whole window.
		{"+a +b +c t0 t1 t2 d0 d0 d0 k0", impl.Link{Base: 1, Window: "bc", Expected: 3, Delivered: "abc", Acks: []int{2, 3}}}, {"+a +b +c t0 t1 t2 d0 d0 d0 k1", impl.Link{Base: 2, Window: "c", Expected: 3, Delivered: "abc", Acks: []int{1, 3}}}, {"+a +b +c t0 t1 t2 d0 d0 d0 k2", impl.Link{Base: 3, Expected: 3, Delivered: "abc", Acks: []int{1, 2}}},
		// One that is below or equal to Base changes nothing.
		{"+a +b +c t0 t1 t2 d0 d0 d0 k1 k0", impl.Link{Base: 2, Window: "c", Expected: 3, Delivered: "abc", Acks: []int{3}}}, {"+a t0 t0 d0 d0 k1 k0", impl.Link{Base: 1, Expected: 1, Delivered: "a"}}, {"+a +b t1 d0 k0", impl.Link{Window: "ab"}},
		// The window moves on, and the ring begins anew.
		{"+a +b +c t0 d0 k0 +d", impl.Link{Base: 1, Window: "bcd", Expected: 1, Delivered: "a"}}, {"+a +b +c t0 t1 d0 d0 k1 +d +a t0 t1 t2 p0", impl.Link{Base: 2, Window: "cda", Expected: 2, Delivered: "ab", Acks: []int{1}, Packets: packets("3d 4a")}},
	} {
		l := impl.Link{}
		for _, e := range eventsOf(c.events) {
			next, ok := checkEvent(t, l, e)
			if !ok {
				t.Fatalf("%+v of %q is not possible", e, c.events)
			}
			l = next
		}
		if !sameLink(l, c.want) {
			t.Errorf("%s leads to %s, want %s", c.events, linkText(l), linkText(c.want))
		}
		if got := impl.ApplyEvents(impl.Link{}, eventsOf(c.events)); !sameLink(got, c.want) {
			t.Errorf("ApplyEvents of %s = %s", c.events, linkText(got))
		}
		checkLink(t, l)
	}
}

// TestImpossibleEvents has pairs of events of which only the first is possible.
func TestImpossibleEvents(t *testing.T) {
	hundred := acknowledgedLink(100)
	almost := hundred
	almost.Base, almost.Window = 98, hundred.Delivered[98:]
	last := acknowledgedLink(99)
	crowded := impl.Link{Base: 1, Window: "abc", Expected: 2, Delivered: "aa", Packets: packets("0a 1a 2b 3c 2b 2b"), Acks: []int{0, 1, 2, 2, 2, 2}}
	fewer := crowded
	fewer.Packets, fewer.Acks = crowded.Packets[:5], crowded.Acks[:5]
	for _, c := range []struct {
		l               impl.Link
		possible, other string
	}{
		// Room in the window, among the sequence numbers and among what is in flight.
		{impl.Link{Window: "ab"}, "+a", ""}, {impl.Link{Window: "abc"}, "", "+a"}, {last, "+d", ""}, {hundred, "", "+a"}, {almost, "", "+a"},
		{fewer, "t0 t2 d0 d4", "+a"}, {crowded, "p0 p5 k0 k5 q0 q5", "t0 t1 t2 d0 d1 d5 +a"},
		{impl.Link{Window: "ab", Packets: packets("0a"), Acks: make([]int, 5)}, "d0", ""}, {impl.Link{Window: "ab", Packets: packets("0a"), Acks: make([]int, 6)}, "t0 p0", "d0"},
		// Labels.
		{impl.Link{}, "+a +b +c +d", "+ +e +A +ab +aa +` +\x00 +\xff +ä +á +."},
		// Indices.
		{impl.Link{Window: "ab", Packets: packets("0a"), Acks: make([]int, 2)}, "t0 t1 d0 p0 k0 k1 q0 q1", "t2 t3 t-1 d1 d-1 d2 p1 p-1 k2 k-1 q2 q-1 q-2"},
		{impl.Link{}, "", "t0 d0 p0 k0 q0 t-1 d-1 p-1 k-1 q-1"},
		{crowded, "", "t3 t-9223372036854775808 p6 p-1 k6 k-9223372036854775808 k9223372036854775807 q6 d6 d-1"},
		{impl.Link{Base: 3, Window: "ab", Expected: 3, Delivered: "abc"}, "t0 t1", "t2 t3 t4 t9223372036854775807 t9223372036854775806 t-3"},
	} {
		for _, e := range eventsOf(c.possible) {
			if _, ok := checkEvent(t, c.l, e); !ok {
				t.Errorf("%+v is not possible on %s", e, linkText(c.l))
			}
		}
		for _, e := range eventsOf(c.other) {
			if _, ok := checkEvent(t, c.l, e); ok {
				t.Errorf("%+v is possible on %s", e, linkText(c.l))
			}
		}
	}
}

// TestUnusedEventFields has events that would be possible but for their kind, or for a field that it does not use.
func TestUnusedEventFields(t *testing.T) {
	l := impl.Link{Base: 1, Window: "bc", Expected: 2, Delivered: "ab", Packets: packets("0a 1b 2c"), Acks: []int{0, 1, 2}}
	for _, kind := range []int{0, -1, 7, 8, 1<<63 - 1, -1 << 63, 256 + 1} {
		for _, e := range []impl.Event{{Kind: kind}, {Kind: kind, Label: "a"}, {Kind: kind, Index: 1}, {Kind: kind, Index: 1, Label: "a"}} {
			if _, ok := checkEvent(t, l, e); ok {
				t.Errorf("%+v is possible", e)
			}
		}
	}
	for _, index := range []int{1, -1, 2, 1<<63 - 1, -1 << 63} {
		if _, ok := checkEvent(t, l, impl.Event{Kind: impl.EventSend, Index: index, Label: "a"}); ok {
			t.Errorf("a send with the index %d is possible", index)
		}
	}
	for kind := impl.EventTransmit; kind <= impl.EventDropAck; kind++ {
		for index := range 2 {
			if _, ok := checkEvent(t, l, impl.Event{Kind: kind, Index: index}); !ok {
				t.Errorf("the kind %d is not possible", kind)
			}
			for _, label := range []string{"a", "b", "c", "e", "ab", " ", "\x00", strings.Repeat("a", 1<<16)} {
				if _, ok := checkEvent(t, l, impl.Event{Kind: kind, Index: index, Label: label}); ok {
					t.Errorf("the kind %d is possible with a label", kind)
				}
			}
		}
	}
}

// TestReachedLinks tries all events on all links that the first events lead to, and on random ones.
func TestReachedLinks(t *testing.T) {
	list := []impl.Link{{}}
	seen := map[string]bool{linkText(list[0]): true}
	for i := 0; i < len(list) && i < 4000; i++ {
		checkLink(t, list[i])
		for _, e := range usualEvents() {
			if next, ok := checkEvent(t, list[i], e); ok && !seen[linkText(next)] {
				seen[linkText(next)] = true
				list = append(list, next)
			}
		}
	}
	if len(list) < 4000 {
		t.Errorf("only %d links", len(list))
	}
	possible := 0
	for _, l := range append(randomLinks(100), list[:20]...) {
		for _, e := range anyEvents() {
			if _, ok := checkEvent(t, l, e); ok {
				possible++
			}
		}
	}
	for _, l := range randomLinks(3000) {
		for _, e := range usualEvents() {
			if _, ok := checkEvent(t, l, e); ok {
				possible++
			}
		}
	}
	if possible < 10000 {
		t.Errorf("only %d events are possible", possible)
	}
}

// usedEvent returns an event of the kind that is rather often possible.
func usedEvent(r *rand.Rand, kind int) impl.Event {
	e := impl.Event{Kind: kind, Index: r.Intn(7) - 1}
	if r.Intn(2) == 0 {
		e.Index = r.Intn(2)
	}
	if kind == impl.EventSend {
		e.Index, e.Label = 0, "abcd"[r.Intn(4):][:1]
	}
	return e
}

// TestDeliveredIsAPrefix is about promise 7: packets and acknowledgments are
// lost, repeated and overtaken, and what is delivered is what was sent, in order
// and once. The test itself keeps what was sent.
func TestDeliveredIsAPrefix(t *testing.T) {
	r := rand.New(rand.NewSource(21))
	counts := map[string]int{}
	for round := range 60 {
		l, sent := impl.Link{}, ""
		for range 3000 {
			// Some rounds lose more than others.
			kind := []int{1, 1, 2, 2, 3, 3, 5, 5, 4, 6, 4, 6, 4, 6}[r.Intn(8+round%7)]
			e := usedEvent(r, kind)
			next, ok := checkEvent(t, l, e)
			if !ok {
				continue
			}
			switch kind {
			case impl.EventSend:
				sent += e.Label
			case impl.EventDeliver:
				counts["packet "+compared(l.Packets[e.Index].Seq, l.Expected)]++
			case impl.EventAck:
				counts["ack "+compared(l.Acks[e.Index], l.Base)]++
				if next.Window == "" && len(l.Window) == 3 {
					counts["whole window"]++
				}
			}
			if l = next; !strings.HasPrefix(sent, l.Delivered) || !impl.LinkValid(l) || impl.LinkSent(l) != sent {
				t.Fatalf("%q was sent on %s", sent, linkText(l))
			}
		}
		if len(sent) == 100 {
			counts["complete"]++
		}
		checkLink(t, l)
		if got := impl.Flush(l).Delivered; got != sent {
			t.Errorf("%q was sent, and %q delivered", sent, got)
		}
	}
	for _, what := range []string{"packet below", "packet equal", "packet above", "ack below", "ack equal", "ack above", "whole window", "complete"} {
		if counts[what] < 20 {
			t.Errorf("%s: only %d times", what, counts[what])
		}
	}
}

func compared(a, b int) string {
	switch {
	case a < b:
		return "below"
	case a > b:
		return "above"
	}
	return "equal"
}

func TestApplyEvents(t *testing.T) {
	for _, c := range []struct {
		events string
		want   impl.Link
	}{
		{"", impl.Link{}},
		// Events that cannot happen: at the beginning, in the middle and at the end, and alone.
		{"t0 d0 p0 k0 q0", impl.Link{}}, {"t0 +a", impl.Link{Window: "a"}}, {"+a t1 t0 d1 d0 k1 k0 d0", impl.Link{Base: 1, Expected: 1, Delivered: "a"}}, {"+a +e t0 p1 d0 q3", impl.Link{Window: "a", Expected: 1, Delivered: "a", Acks: []int{1}}},
		{"+a +b +c +d t3 t2", impl.Link{Window: "abc", Packets: packets("2c")}}, {"+a t0 d0 k0 k0 +b t1 t0", impl.Link{Base: 1, Window: "b", Expected: 1, Delivered: "a", Packets: packets("1b")}},
		{"+a t0 t0 t0 t0 t0 t0 t0 p0 t0", impl.Link{Window: "a", Packets: packets("0a 0a 0a 0a 0a 0a")}},
	} {
		if got := impl.ApplyEvents(impl.Link{}, eventsOf(c.events)); !sameLink(got, c.want) {
			t.Errorf("ApplyEvents of %s = %s, want %s", c.events, linkText(got), linkText(c.want))
		}
	}
	r := rand.New(rand.NewSource(22))
	others := anyEvents()
	for _, l := range randomLinks(500) {
		want, ignored := l, 0
		var events []impl.Event
		for range r.Intn(60) {
			e := usedEvent(r, 1+r.Intn(6))
			if r.Intn(5) == 0 {
				e = others[r.Intn(len(others))]
			}
			events = append(events, e)
			if next, ok := eventByRules(want, e); ok {
				want = next
			} else {
				ignored++
			}
		}
		if got := impl.ApplyEvents(l, events); !sameLink(got, want) {
			t.Errorf("ApplyEvents of %d events to %s = %s, want %s", len(events), linkText(l), linkText(got), linkText(want))
		}
		if len(events) > 30 && ignored == 0 {
			t.Errorf("all of %d events are possible", len(events))
		}
	}
	// Far more labels than can be sent, and lists without an effect.
	many := slices.Repeat(eventsOf("+a +b t0 t1 d0 d0 k1 k0"), 2000)
	want := impl.Link{Base: 100, Expected: 100, Delivered: strings.Repeat("ab", 50)}
	returns(t, "ApplyEvents", func() {
		if got := impl.ApplyEvents(impl.Link{}, many); !sameLink(got, want) {
			t.Errorf("ApplyEvents of many events = %s", linkText(got))
		}
		if got := impl.ApplyEvents(want, make([]impl.Event, 1<<20)); !sameLink(got, want) {
			t.Errorf("ApplyEvents of many events that are none = %s", linkText(got))
		}
	})
}

func TestFlush(t *testing.T) {
	hundred := acknowledgedLink(100)
	for _, c := range []struct {
		what string
		l    impl.Link
		want string
	}{
		{"nothing sent", impl.Link{}, ""}, {"only acknowledgments", impl.Link{Acks: make([]int, 6)}, ""},
		{"nothing transmitted", impl.Link{Window: "abc"}, "abc"}, {"one label", impl.Link{Window: "d"}, "d"},
		{"all in flight", linkAfter(t, "+a +b +c t0 t1 t2"), "abc"}, {"all in flight twice, backwards", linkAfter(t, "+a +b +c t2 t1 t0 t2 t1 t0"), "abc"},
		{"only the last in flight", linkAfter(t, "+a +b +c t2 t2 t2 t2 t2 t2"), "abc"}, {"only the first in flight", linkAfter(t, "+a +b +c t0 t0 t0 t0 t0 t0"), "abc"},
		{"nothing acknowledged", linkAfter(t, "+a +b +c t0 t1 t2 d0 d0 d0 q0 q0 q0"), "abc"}, {"all acknowledged on the way", linkAfter(t, "+a +b +c t0 t1 t2 d0 d0 d0"), "abc"}, {"all acknowledged", linkAfter(t, "+a +b t0 t1 d0 d0 k1"), "ab"},
		{"only old in flight", impl.Link{Base: 3, Window: "dda", Expected: 3, Delivered: "abc", Packets: packets("0a 1b 2c 0a 1b 2c"), Acks: []int{0, 1, 2, 3, 0, 1}}, "abcdda"},
		{"all in flight but the first, with old acknowledgments", impl.Link{Window: "aab", Packets: packets("1a 2b 1a 2b 1a 2b"), Acks: make([]int, 6)}, "aab"},
		{"a full link", impl.Link{Base: 1, Window: "abc", Expected: 3, Delivered: "dab", Packets: packets("0d 3c 2b 1a 3c 0d"), Acks: []int{3, 2, 1, 0, 3, 3}}, "dabc"},
		{"at the limit", hundred, hundred.Delivered}, {"at the limit, in flight", impl.Link{Base: 100, Expected: 100, Delivered: hundred.Delivered, Packets: packets("0a 5b 9b"), Acks: []int{100, 0, 50}}, hundred.Delivered},
		{"at the limit, with a window", impl.Link{Base: 97, Window: "bcd", Expected: 97, Delivered: hundred.Delivered[:97]}, hundred.Delivered},
		{"at the limit, with a delivered window", impl.Link{Base: 97, Window: "bcd", Expected: 100, Delivered: hundred.Delivered, Acks: []int{97, 97, 97, 97, 97, 97}}, hundred.Delivered},
	} {
		got := impl.Flush(c.l)
		if want := (impl.Link{Base: len(c.want), Expected: len(c.want), Delivered: c.want}); !sameLink(got, want) {
			t.Errorf("%s: Flush = %s", c.what, linkText(got))
		}
		if again := impl.Flush(got); !sameLink(again, got) || !impl.LinkValid(got) {
			t.Errorf("%s: Flush of what is flushed = %s", c.what, linkText(again))
		}
		// The link can be used as before.
		if next, ok := checkEvent(t, got, impl.Event{Kind: impl.EventSend, Label: "c"}); ok != (len(c.want) < 100) || ok && next.Window != "c" {
			t.Errorf("%s: a send after Flush leads to %s, %v", c.what, linkText(next), ok)
		}
	}
}

func TestLinkEqual(t *testing.T) {
	base := impl.Link{Base: 1, Window: "bc", Expected: 2, Delivered: "ab", Packets: packets("0a 1b"), Acks: []int{0, 1}}
	list := []impl.Link{base, {}}
	// Links that differ from the first in one field, most of them not valid.
	for _, change := range []func(l *impl.Link){
		func(l *impl.Link) { l.Base = 2 }, func(l *impl.Link) { l.Base = -1 },
		func(l *impl.Link) { l.Window = "bd" }, func(l *impl.Link) { l.Window = "b" }, func(l *impl.Link) { l.Window = "" }, func(l *impl.Link) { l.Window = "bc\x00" }, func(l *impl.Link) { l.Window = "cb" },
		func(l *impl.Link) { l.Expected = 1 }, func(l *impl.Link) { l.Expected = 1<<63 - 1 },
		func(l *impl.Link) { l.Delivered = "aa" }, func(l *impl.Link) { l.Delivered = "" }, func(l *impl.Link) { l.Delivered = "ab\xff" },
		func(l *impl.Link) { l.Packets = nil }, func(l *impl.Link) { l.Packets = packets("0a") }, func(l *impl.Link) { l.Packets = packets("0a 1b 1b") }, func(l *impl.Link) { l.Packets = packets("1b 0a") },
		func(l *impl.Link) { l.Packets = packets("0a 2b") }, func(l *impl.Link) { l.Packets = packets("0a 1a") }, func(l *impl.Link) { l.Packets = packets("0c 1b") },
		func(l *impl.Link) { l.Acks = nil }, func(l *impl.Link) { l.Acks = []int{0} }, func(l *impl.Link) { l.Acks = []int{0, 1, 1} }, func(l *impl.Link) { l.Acks = []int{1, 0} }, func(l *impl.Link) { l.Acks = []int{0, -1} },
	} {
		l := base
		change(&l)
		list = append(list, l)
	}
	for i, a := range list {
		for j, b := range list {
			b.Packets, b.Acks = slices.Clone(b.Packets), slices.Clone(b.Acks)
			if got := impl.LinkEqual(a, b); got != (i == j) {
				t.Errorf("LinkEqual of %s and %s = %v", linkText(a), linkText(b), got)
			}
		}
	}
	invalid := invalidLinks()
	for what, a := range invalid {
		b := impl.Link{Base: a.Base, Window: strings.Clone(a.Window), Expected: a.Expected, Delivered: strings.Clone(a.Delivered), Packets: slices.Clone(a.Packets), Acks: slices.Clone(a.Acks)}
		if !impl.LinkEqual(a, b) || !impl.LinkEqual(b, a) {
			t.Errorf("%s: the link is not equal to itself", what)
		}
		if b.Acks = append(b.Acks, 0); impl.LinkEqual(a, b) || impl.LinkEqual(b, a) || impl.LinkEqual(a, base) {
			t.Errorf("%s: the link is equal to another one", what)
		}
	}
	if !impl.LinkEqual(impl.Link{}, impl.Link{Packets: []impl.Packet{}, Acks: []int{}}) {
		t.Error("a nil slice and an empty slice are not equal")
	}
}
