package node_test

import (
	"fmt"
	"math"
	"math/rand"
	"reflect"
	"slices"
	"testing"

	"withy/api"
	"withy/core"
	"withy/frame"
	"withy/link"
	"withy/node"
	"withy/word"
)

const top = api.MaxCount

var wide = api.Limits{Epoch: top, Session: top, Seq: top}

func made(t *testing.T, id int, l api.Limits) *node.Node {
	t.Helper()
	n, e := node.New(id, l)
	if e != api.OK {
		t.Fatalf("New(%d, %v): error %d", id, l, e)
	}
	return n
}

// port gives a node a port, and holds what goes against lines.
func port(t *testing.T, n *node.Node, peer, w int, want ...string) {
	t.Helper()
	f, e := n.Port(peer, w)
	if e != api.OK {
		t.Fatalf("Port(%d, %d): error %d", peer, w, e)
	}
	goes(t, f, want...)
}

// hear lets a node hear a frame, and holds what goes against lines.
func hear(t *testing.T, n *node.Node, from int, f api.Frame, want ...string) {
	t.Helper()
	b, e := frame.Encode(f)
	if e != api.OK {
		t.Fatalf("%v: error %d", f, e)
	}
	goes(t, n.Hear(from, b), want...)
}

func goes(t *testing.T, flights []api.Flight, want ...string) {
	t.Helper()
	var got []string
	for _, f := range flights {
		x, e := frame.Decode(f.B)
		if e != api.OK || f.Bent {
			t.Errorf("%v: error %d", f, e)
		}
		s := fmt.Sprint(f.From, ">", f.To, " ", []string{"", "hello", "welcome", "data", "ack", "pulse"}[x.Kind], " ", x.Session)
		if x.Kind == api.FrameData {
			w, e := word.Decode(x.Payload)
			if e != api.OK {
				t.Errorf("%x: error %d", x.Payload, e)
			}
			s += fmt.Sprint(" #", x.Seq, " w", w.Kind)
		}
		if x.Ack > 0 {
			s += fmt.Sprint(" ack ", x.Ack)
		}
		got = append(got, s)
	}
	if !slices.Equal(got, want) {
		t.Errorf("goes: %q, not %q", got, want)
	}
}

// heard holds a node's events against lines, and its core against these events.
func heard(t *testing.T, n *node.Node, l api.Limits, want ...string) {
	t.Helper()
	c, _ := core.New(n.Core().Id, l.Epoch)
	var got []string
	for _, v := range n.Events() {
		got = append(got, fmt.Sprint([]string{"", "up", "down", "word", "over"}[v.Kind], " ", v.Peer, " ", v.W, " ", v.Session, " ", v.Word.Kind))
		c, _, _ = core.Step(c, v)
	}
	if !slices.Equal(got, want) {
		t.Errorf("heard: %q, not %q", got, want)
	}
	if !core.Same(c, n.Core()) {
		t.Errorf("its core is %v, not %v", n.Core(), c)
	}
}

func hello(p int) api.Frame   { return api.Frame{Kind: api.FrameHello, Session: p} }
func welcome(p int) api.Frame { return api.Frame{Kind: api.FrameWelcome, Session: p} }

func data(session, seq int, kind int) api.Frame {
	b, _ := word.Encode(api.Word{Kind: kind})
	return api.Frame{Kind: api.FrameData, Session: session, Seq: seq, Payload: b}
}

// No1: which nodes there are.
func TestNew(t *testing.T) {
	for _, c := range []struct {
		id int
		l  api.Limits
		e  api.Errno
	}{
		{1, wide, api.OK}, {64, api.Limits{Epoch: 1, Session: 1, Seq: 1}, api.OK},
		{0, wide, api.ErrArg}, {65, wide, api.ErrArg}, {-1, wide, api.ErrArg},
		{1, api.Limits{Epoch: 0, Session: 1, Seq: 1}, api.ErrArg}, {1, api.Limits{Epoch: 1, Session: 0, Seq: 1}, api.ErrArg}, {1, api.Limits{Epoch: 1, Session: 1}, api.ErrArg},
		{1, api.Limits{Epoch: top + 1, Session: 1, Seq: 1}, api.ErrArg}, {1, api.Limits{Epoch: 1, Session: top + 1, Seq: 1}, api.ErrArg}, {1, api.Limits{Epoch: 1, Session: 1, Seq: math.MinInt}, api.ErrArg},
	} {
		n, e := node.New(c.id, c.l)
		if e != c.e || (n == nil) != (e != api.OK) {
			t.Errorf("New(%d, %v): error %d", c.id, c.l, e)
		}
		if want, _ := core.New(c.id, c.l.Epoch); e == api.OK && !core.Same(n.Core(), want) {
			t.Errorf("New(%d, %v): %v", c.id, c.l, n.Core())
		}
	}
}

// Of a Node that New did not give: zeros.
func TestNoNode(t *testing.T) {
	for _, n := range []*node.Node{nil, {}} {
		if f, e := n.Port(1, 2); len(f) != 0 || e != api.ErrArg {
			t.Errorf("Port: error %d", e)
		}
		l, is := n.Link(1)
		if len(n.Hear(1, nil)) != 0 || len(n.Tick()) != 0 || !core.Same(n.Core(), api.Core{}) || is || !link.Same(l, api.Link{}) || len(n.Events()) != 0 {
			t.Error("zeros")
		}
	}
}

// No1, No2: ports.
func TestPort(t *testing.T) {
	n := made(t, 3, wide)
	for _, x := range [][2]int{{0, 5}, {65, 5}, {3, 5}, {-1, 5}, {1, -1}, {1, top + 1}, {math.MaxInt, 0}} {
		if f, e := n.Port(x[0], x[1]); e != api.ErrArg || len(f) != 0 {
			t.Errorf("Port%v: error %d", x, e)
		}
	}
	port(t, n, 9, 5)
	port(t, n, 1, 0)
	port(t, n, 64, top)
	if f, e := n.Port(9, -1); e != api.ErrArg || len(f) != 0 {
		t.Errorf("a weight that may not be: error %d", e)
	}
	for peer, w := range map[int]int{9: 5, 1: 0, 64: top} {
		l, is := n.Link(peer)
		if want, _ := link.New(peer, w, top); !is || !link.Same(l, want) {
			t.Errorf("Link(%d): %v", peer, l)
		}
	}
	for _, peer := range []int{0, 2, 3, 65, -1} {
		if l, is := n.Link(peer); is || !link.Same(l, api.Link{}) {
			t.Errorf("Link(%d): %v", peer, l)
		}
	}
	goes(t, n.Tick(), "3>1 hello 1", "3>9 hello 1", "3>64 hello 1")
	heard(t, n, wide)
	port(t, n, 9, 6)
	if l, _ := n.Link(9); l.W != 6 || l.Line.Hand.Prop != 1 {
		t.Errorf("%v", l)
	}
	heard(t, n, wide)
}

// opened is node 3 with links to 1 and 9 open, of which it granted the lighter one.
func opened(t *testing.T, l api.Limits) *node.Node {
	n := made(t, 3, l)
	port(t, n, 9, 5)
	port(t, n, 1, 7)
	hear(t, n, 9, hello(4), "3>9 welcome 4")
	hear(t, n, 9, welcome(4), "3>9 data 4 #0 w4")
	hear(t, n, 1, welcome(1), "3>9 data 4 #1 w5")
	return n
}

// No2: sessions, and words.
func TestHear(t *testing.T) {
	n := opened(t, wide)
	want := []string{"up 9 5 4 0", "up 1 7 1 0"}
	heard(t, n, wide, want...)
	if l, _ := n.Link(9); l.Line.Hand.Cur != 4 || l.Line.Sender.Sent != 2 {
		t.Errorf("%v", l)
	}
	// What is no frame, of another session or of no port does nothing.
	goes(t, n.Hear(9, []byte("no frame")))
	goes(t, n.Hear(9, nil))
	hear(t, n, 9, data(3, 0, api.WordFree))
	hear(t, n, 9, data(4, 1, api.WordFree), "3>9 ack 4")
	hear(t, n, 8, data(4, 0, api.WordFree))
	hear(t, n, 3, hello(7))
	hear(t, n, 0, hello(7))
	heard(t, n, wide, want...)
	// A word frees it, and it grants again; a payload that is no word is no event.
	hear(t, n, 9, data(4, 0, api.WordFree), "3>9 data 4 #2 w4 ack 1", "3>9 ack 4 ack 1")
	want = append(want, "word 9 0 0 6")
	heard(t, n, wide, want...)
	hear(t, n, 9, api.Frame{Kind: api.FrameData, Session: 4, Seq: 1, Payload: []byte("?")}, "3>9 ack 4 ack 2")
	hear(t, n, 9, api.Frame{Kind: api.FrameData, Session: 4, Seq: 2}, "3>9 ack 4 ack 3")
	hear(t, n, 9, data(4, 2, api.WordVow), "3>9 ack 4 ack 3")
	heard(t, n, wide, want...)
	hear(t, n, 9, data(4, 3, api.WordVow), "3>9 data 4 #3 w1 ack 4", "3>9 ack 4 ack 4")
	heard(t, n, wide, append(want, "word 9 0 0 4")...)
}

// No2: the other end proposes another session: this one is down.
func TestDown(t *testing.T) {
	n := opened(t, wide)
	hear(t, n, 9, hello(6), "3>9 welcome 6", "3>1 data 1 #0 w4")
	heard(t, n, wide, "up 9 5 4 0", "up 1 7 1 0", "down 9 0 0 0")
	port(t, n, 1, 7)
	heard(t, n, wide, "up 9 5 4 0", "up 1 7 1 0", "down 9 0 0 0")
	port(t, n, 1, 8)
	heard(t, n, wide, "up 9 5 4 0", "up 1 7 1 0", "down 9 0 0 0", "down 1 0 0 0")
	goes(t, n.Tick(), "3>1 hello 2", "3>9 hello 6")
	hear(t, n, 1, welcome(2), "3>1 data 2 #0 w4")
	heard(t, n, wide, "up 9 5 4 0", "up 1 7 1 0", "down 9 0 0 0", "down 1 0 0 0", "up 1 8 2 0")
}

// No2: ticks: what is sent again, signs, and silence; port by port.
func TestTick(t *testing.T) {
	n := opened(t, wide)
	goes(t, n.Tick())
	goes(t, n.Tick(), "3>1 pulse 1", "3>9 pulse 4")
	goes(t, n.Tick())
	goes(t, n.Tick(), "3>1 pulse 1", "3>9 data 4 #0 w4", "3>9 data 4 #1 w5", "3>9 pulse 4")
	hear(t, n, 9, api.Frame{Kind: api.FramePulse, Session: 4})
	goes(t, n.Tick())
	goes(t, n.Tick(), "3>9 pulse 4")
	heard(t, n, wide, "up 9 5 4 0", "up 1 7 1 0", "down 1 0 0 0")
	goes(t, n.Tick(), "3>1 hello 2")
}

// No2: both links fall silent in one tick: each is heard ahead of the next port's tick.
func TestTickOrder(t *testing.T) {
	n := made(t, 3, wide)
	port(t, n, 9, 5)
	port(t, n, 1, 7)
	hear(t, n, 1, welcome(1), "3>1 data 1 #0 w4")
	hear(t, n, 9, welcome(1), "3>1 data 1 #1 w5")
	hear(t, n, 1, data(1, 0, api.WordVow), "3>1 data 1 #2 w1 ack 1", "3>1 ack 1 ack 1")
	hear(t, n, 1, api.Frame{Kind: api.FrameAck, Session: 1, Ack: 3})
	for range 5 {
		n.Tick()
	}
	hear(t, n, 1, api.Frame{Kind: api.FramePulse, Session: 1})
	// 9 falls silent: what the core tells 1 by that goes behind 1's tick, but in the end of the act.
	goes(t, n.Tick(), "3>1 pulse 1 ack 1", "3>1 data 1 #3 w1 ack 1")
	for range 3 {
		n.Tick()
	}
	// 1 falls silent, too, at its sixth tick from then on.
	goes(t, n.Tick(), "3>1 data 1 #3 w1 ack 1", "3>1 pulse 1 ack 1", "3>9 hello 2")
	goes(t, n.Tick(), "3>9 hello 2")
	goes(t, n.Tick(), "3>1 hello 2", "3>9 hello 2")
}

// No2: no number is left for a payload: the link is closed.
func TestSeq(t *testing.T) {
	narrow := api.Limits{Epoch: top, Session: top, Seq: 2}
	n := opened(t, narrow)
	// The third word to 9 has no number.
	hear(t, n, 9, data(4, 0, api.WordFree), "3>1 data 1 #0 w4")
	heard(t, n, narrow, "up 9 5 4 0", "up 1 7 1 0", "word 9 0 0 6", "down 9 0 0 0")
	if l, _ := n.Link(9); l.Line.Hand != (api.Hand{Last: 4, Prop: 5}) {
		t.Errorf("%v", l)
	}
}

// No2: no room is left: the link is closed.
func TestFull(t *testing.T) {
	n := made(t, 3, wide)
	port(t, n, 9, 5)
	hear(t, n, 9, welcome(1), "3>9 data 1 #0 w4")
	// Each recant is answered, and nothing is acked.
	for seq := range 256 {
		b, _ := frame.Encode(data(1, seq, api.WordRecant))
		n.Hear(9, b)
		l, _ := n.Link(9)
		if want := seq + 2; seq < 255 && len(l.Line.Sender.Queue) != want {
			t.Fatalf("%d wait, not %d", len(l.Line.Sender.Queue), want)
		}
		if seq == 255 && l.Line.Hand != (api.Hand{Last: 1, Prop: 2}) {
			t.Fatalf("%v", l.Line.Hand)
		}
	}
	v := n.Events()
	if len(v) != 258 || v[257].Kind != api.EventDown || n.Core().Phase != api.PhaseDone || len(n.Core().Ties) != 0 {
		t.Errorf("%d events: %v", len(v), n.Core())
	}
}

// No2: a link's sessions come to their end: the core is over; and it is told so once.
func TestOver(t *testing.T) {
	narrow := api.Limits{Epoch: top, Session: 4, Seq: top}
	n := opened(t, narrow)
	hear(t, n, 9, data(4, 0, api.WordVow), "3>9 data 4 #2 w1 ack 1", "3>9 ack 4 ack 1")
	port(t, n, 1, 8, "3>9 data 4 #3 w1 ack 1")
	heard(t, n, narrow, "up 9 5 4 0", "up 1 7 1 0", "word 9 0 0 4", "down 1 0 0 0")
	port(t, n, 9, 6)
	want := []string{"up 9 5 4 0", "up 1 7 1 0", "word 9 0 0 4", "down 1 0 0 0", "down 9 0 0 0", "over 0 0 0 0"}
	heard(t, n, narrow, want...)
	if l, _ := n.Link(9); !l.Line.Hand.Over || !n.Core().Over {
		t.Errorf("%v", l)
	}
	goes(t, n.Tick(), "3>1 hello 2")
	heard(t, n, narrow, want...)
	hear(t, n, 1, welcome(2))
	heard(t, n, narrow, append(want, "up 1 8 2 0")...)
}

// No2: what the core tells as it is over goes yet.
func TestOverTells(t *testing.T) {
	narrow := api.Limits{Epoch: top, Session: 4, Seq: top}
	n := opened(t, narrow)
	hear(t, n, 9, data(4, 0, api.WordFree), "3>9 data 4 #2 w4 ack 1", "3>9 ack 4 ack 1")
	port(t, n, 64, 1)
	hear(t, n, 64, hello(4), "3>64 welcome 4")
	hear(t, n, 64, welcome(4), "3>9 data 4 #3 w5 ack 1")
	port(t, n, 64, 2)
	v := n.Events()
	if v[len(v)-1].Kind != api.EventOver || !n.Core().Over {
		t.Errorf("%v", v)
	}
	tied := made(t, 3, narrow)
	port(t, tied, 9, 5)
	port(t, tied, 1, 7)
	hear(t, tied, 9, welcome(1), "3>9 data 1 #0 w4")
	hear(t, tied, 9, data(1, 0, api.WordVow), "3>9 data 1 #1 w1 ack 1", "3>9 ack 1 ack 1")
	hear(t, tied, 1, hello(4), "3>1 welcome 4")
	hear(t, tied, 1, welcome(4), "3>9 data 1 #2 w1 ack 1")
	port(t, tied, 1, 8, "3>9 data 1 #3 w1 ack 1", "3>9 data 1 #4 w7 ack 1")
}

// No3: whatever it hears, its core is as its events make it.
func TestWhatever(t *testing.T) {
	r := rand.New(rand.NewSource(34))
	for range 40 {
		l := api.Limits{Epoch: 1 + r.Intn(60), Session: 1 + r.Intn(20), Seq: 1 + r.Intn(20)}
		n := made(t, 1, l)
		var flights []api.Flight
		for range 400 {
			peer := 2 + r.Intn(3)
			switch r.Intn(8) {
			case 0:
				f, _ := n.Port(peer, r.Intn(3))
				flights = append(flights, f...)
			case 1, 2:
				flights = append(flights, n.Tick()...)
			default:
				b, _ := frame.Encode(some(r, n, peer))
				if r.Intn(20) == 0 {
					b = b[:r.Intn(len(b))]
				}
				flights = append(flights, n.Hear(peer, b)...)
			}
			for peer := 2; peer < 5; peer++ {
				if x, is := n.Link(peer); is && link.Check(x) != api.OK {
					t.Fatalf("%v may not be", x)
				}
			}
		}
		for _, f := range flights {
			if _, e := frame.Decode(f.B); e != api.OK || f.From != 1 || f.To < 2 || f.To > 4 {
				t.Fatalf("%v goes", f)
			}
		}
		c, _ := core.New(1, l.Epoch)
		for _, v := range n.Events() {
			next, _, e := core.Step(c, v)
			if e != api.OK {
				t.Fatalf("%v: error %d", v, e)
			}
			c = next
		}
		if !core.Same(c, n.Core()) {
			t.Fatalf("%v, not %v", n.Core(), c)
		}
	}
}

// some is a frame that fits a port, more or less.
func some(r *rand.Rand, n *node.Node, peer int) api.Frame {
	l, _ := n.Link(peer)
	h := l.Line.Hand
	f := api.Frame{Kind: 1 + r.Intn(5), Session: max(h.Cur, h.Prop) + r.Intn(2)*(r.Intn(3)-1), Ack: l.Line.Sender.Base + r.Intn(3)}
	f.Session = max(0, f.Session)
	if f.Kind == api.FrameData {
		f.Seq = l.Line.Taker.Next
		w := api.Word{Kind: 4 + r.Intn(4)}
		if r.Intn(3) == 0 {
			w = api.Word{Kind: api.WordWave, Eid: api.Eid{Epoch: 1 + r.Intn(80), Root: peer}}
		}
		f.Payload, _ = word.Encode(w)
	}
	return f
}

// R3: what is told is new memory.
func TestMemory(t *testing.T) {
	n := opened(t, wide)
	c, v := n.Core(), n.Events()
	l, _ := n.Link(9)
	c.Ties[0].W, v[0].W, l.Line.Sender.Queue[0][0] = 77, 77, 77
	again, _ := n.Link(9)
	if n.Core().Ties[0].W == 77 || n.Events()[0].W == 77 || again.Line.Sender.Queue[0][0] == 77 {
		t.Error("memory is shared")
	}
	echo, _ := word.Encode(api.Word{Kind: api.WordEcho, Eid: api.Eid{Epoch: 1, Root: 1}, View: api.View{Nodes: []int{1}}})
	b, _ := frame.Encode(api.Frame{Kind: api.FrameData, Session: 4, Payload: echo})
	n.Hear(9, b)
	last := n.Events()[2]
	last.Word.View.Nodes[0] = 77
	if reflect.DeepEqual(n.Events()[2], last) {
		t.Error("events share memory")
	}
}
