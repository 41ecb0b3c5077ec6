package line_test

import (
	"fmt"
	"math"
	"math/rand"
	"slices"
	"testing"

	"withy/api"
	"withy/frame"
	"withy/line"
	"withy/send"
)

const top = api.MaxCount

// opened is a line whose session has a number, with these payloads waiting.
func opened(n int, payloads ...string) api.Line {
	l := api.Line{Hand: api.Hand{Last: n, Cur: n}}
	for _, p := range payloads {
		l.Sender.Queue = append(l.Sender.Queue, []byte(p))
	}
	return l
}

func opening(n, p int) api.Line { return api.Line{Hand: api.Hand{Last: n, Prop: p}} }
func over(n int) api.Line       { return api.Line{Hand: api.Hand{Last: n, Over: true}} }

func sameNews(a, b api.News) bool {
	return slices.EqualFunc(a.Frames, b.Frames, frame.Same) && slices.EqualFunc(a.Came, b.Came, slices.Equal[[]byte]) && a.Down == b.Down && a.Session == b.Session
}

// zero tells whether an answer is one of an error, with zeros.
func zero(l api.Line, n api.News) bool { return line.Same(l, api.Line{}) && sameNews(n, api.News{}) }

// Check, and what all tell of lines that may not be.
func TestCheck(t *testing.T) {
	sent := opened(3, "a", "b")
	sent.Sender.Sent, sent.Sender.Clock = 1, 4
	for i, c := range []struct {
		l    func() api.Line
		want api.Errno
	}{
		{func() api.Line { return opened(3) }, api.OK},
		{func() api.Line { return sent }, api.OK},
		{func() api.Line { return opening(0, 1) }, api.OK},
		{func() api.Line { return over(3) }, api.OK},
		{func() api.Line { l := opened(3); l.Taker = api.Taker{Next: top, Owes: true}; return l }, api.OK},
		{func() api.Line { l := opening(3, 4); l.Sender.Queue = [][]byte{}; return l }, api.OK},
		{func() api.Line { return api.Line{} }, api.ErrArg},
		{func() api.Line { l := opened(3); l.Hand.Prop = 9; return l }, api.ErrArg},
		{func() api.Line { l := opened(3); l.Sender.Sent = 1; return l }, api.ErrArg},
		{func() api.Line { l := opened(3); l.Taker.Next = -1; return l }, api.ErrArg},
		{func() api.Line { l := opening(3, 4); l.Taker.Next = 1; return l }, api.ErrArg},
		{func() api.Line { l := opening(3, 4); l.Taker.Owes = true; return l }, api.ErrArg},
		{func() api.Line { l := opening(3, 4); l.Sender.Base = 1; return l }, api.ErrArg},
		{func() api.Line { l := opening(3, 4); l.Sender.Queue = [][]byte{nil}; return l }, api.ErrArg},
		{func() api.Line { l := over(3); l.Taker.Next = 1; return l }, api.ErrArg},
		{func() api.Line { l := over(3); l.Sender.Base = 1; return l }, api.ErrArg},
	} {
		if e := line.Check(c.l()); e != c.want {
			t.Errorf("%d: error %d", i, e)
		}
		if c.want != api.OK {
			refused(t, c.l(), api.Frame{Kind: api.FrameAck}, 9)
			if l, n, e := line.Flush(c.l()); e != api.ErrArg || !zero(l, n) {
				t.Errorf("%d: Flush: error %d", i, e)
			}
		}
	}
}

func refused(t *testing.T, l api.Line, f api.Frame, limit int) {
	t.Helper()
	if got, n, e := line.Hear(l, f, limit); e != api.ErrArg || !zero(got, n) {
		t.Errorf("%v: Hear: error %d", l, e)
	}
	if frame.Check(f) != api.OK {
		return
	}
	if got, e := line.Push(l, make([]byte, api.MaxPayload+1), limit); e != api.ErrArg || !zero(got, api.News{}) {
		t.Errorf("%v: Push: error %d", l, e)
	}
	if got, n, e := line.Tick(l, limit); e != api.ErrArg || !zero(got, n) {
		t.Errorf("%v: Tick: error %d", l, e)
	}
	if got, n, e := line.Close(l, limit); e != api.ErrArg || !zero(got, n) {
		t.Errorf("%v: Close: error %d", l, e)
	}
}

// Limits and frames that may not be.
func TestRefused(t *testing.T) {
	for _, limit := range []int{0, -1, top + 1, math.MaxInt, math.MinInt} {
		if l, e := line.New(limit); e != api.ErrArg || !line.Same(l, api.Line{}) {
			t.Errorf("New(%d): error %d", limit, e)
		}
		for _, l := range []api.Line{opened(3), opening(0, 1), over(3)} {
			refused(t, l, api.Frame{Kind: api.FrameAck}, limit)
		}
	}
	for _, f := range []api.Frame{{}, {Kind: api.FrameKinds}, {Kind: api.FrameAck, Session: -1}, {Kind: api.FrameAck, Payload: []byte{1}}, {Kind: api.FrameData, Payload: make([]byte, api.MaxPayload+1)}} {
		refused(t, opened(3), f, 9)
	}
}

// Li1: New, Push, Close.
func TestPushClose(t *testing.T) {
	if l, e := line.New(9); e != api.OK || !line.Same(l, opening(0, 1)) {
		t.Errorf("New: %v, error %d", l, e)
	}
	for _, c := range []struct {
		l     api.Line
		p     []byte
		limit int
		want  api.Line
		e     api.Errno
	}{
		{opened(3), []byte("a"), 1, opened(3, "a"), api.OK},
		{opened(3, "a"), []byte("b"), 2, opened(3, "a", "b"), api.OK},
		{opened(3, "a"), []byte("b"), 1, api.Line{}, api.ErrOver},
		{opened(3), make([]byte, api.MaxPayload+1), 1, api.Line{}, api.ErrLong},
		{opened(3, make([]string, 256)...), nil, 1, api.Line{}, api.ErrFull},
		{opening(0, 1), make([]byte, api.MaxPayload+1), 1, api.Line{}, api.ErrNone},
		{over(3), nil, 9, api.Line{}, api.ErrNone},
	} {
		if l, e := line.Push(c.l, c.p, c.limit); e != c.e || !line.Same(l, c.want) {
			t.Errorf("Push: %v, error %d", l, e)
		}
	}
	full := opened(8, "a")
	full.Taker = api.Taker{Next: 4, Owes: true}
	for _, c := range []struct {
		l, want api.Line
		down    bool
	}{
		{full, opening(8, 9), true}, {opened(9), over(9), true}, {opening(2, 7), opening(2, 7), false}, {over(9), over(9), false},
	} {
		if l, n, e := line.Close(c.l, 9); e != api.OK || !line.Same(l, c.want) || !sameNews(n, api.News{Down: c.down}) {
			t.Errorf("Close(%v) = %v, %v, error %d", c.l, l, n, e)
		}
	}
}

// Li2: proposals and welcomes.
func TestHearSigns(t *testing.T) {
	busy := opened(3, "a", "b")
	busy.Sender.Sent, busy.Sender.Clock, busy.Sender.Base = 1, 2, 5
	busy.Taker = api.Taker{Next: 4, Owes: true}
	hello := func(p int) api.Frame { return api.Frame{Kind: api.FrameHello, Session: p, Seq: 7, Ack: 6} }
	welcome := func(p int) api.Frame { return api.Frame{Kind: api.FrameWelcome, Session: p, Seq: 7, Ack: 6} }
	back := func(p int) []api.Frame { return []api.Frame{{Kind: api.FrameWelcome, Session: p}} }
	for i, c := range []struct {
		l    api.Line
		f    api.Frame
		want api.Line
		news api.News
	}{
		{opening(0, 1), hello(3), opening(0, 3), api.News{Frames: back(3)}},
		{opening(0, 3), hello(3), opening(0, 3), api.News{Frames: back(3)}},
		{opening(0, 3), hello(2), opening(0, 3), api.News{}},
		{busy, hello(3), busy, api.News{Frames: back(3)}},
		{busy, hello(2), busy, api.News{}},
		{busy, hello(10), busy, api.News{}},
		{busy, hello(9), opening(3, 9), api.News{Frames: back(9), Down: true}},
		{over(3), hello(4), over(3), api.News{}},
		{opening(0, 3), welcome(3), opened(3), api.News{Session: 3}},
		{opening(0, 3), welcome(2), opening(0, 3), api.News{}},
		{busy, welcome(3), busy, api.News{}},
		{over(3), welcome(3), over(3), api.News{}},
	} {
		if l, n, e := line.Hear(c.l, c.f, 9); e != api.OK || !line.Same(l, c.want) || !sameNews(n, c.news) {
			t.Errorf("%d: %v, %v, error %d", i, l, n, e)
		}
	}
}

// Li2: data, acks and pulses, of the session and of others.
func TestHearData(t *testing.T) {
	busy := opened(3, "a", "b")
	busy.Sender.Sent, busy.Sender.Clock, busy.Sender.Base = 2, 2, 5
	busy.Taker = api.Taker{Next: 4}
	then := func(next int, owes bool, ack int) api.Line {
		l := busy
		l.Taker = api.Taker{Next: next, Owes: owes}
		l.Sender, _ = send.Ack(busy.Sender, ack)
		return l
	}
	data := func(session, seq, ack int) api.Frame {
		return api.Frame{Kind: api.FrameData, Session: session, Seq: seq, Ack: ack, Payload: []byte("x")}
	}
	for i, c := range []struct {
		l    api.Line
		f    api.Frame
		want api.Line
		came string
	}{
		{busy, data(3, 4, 0), then(5, true, 0), "x"},
		{busy, data(3, 4, 6), then(5, true, 6), "x"},
		{busy, data(3, 3, 7), then(4, true, 7), ""},
		{busy, data(3, 5, 8), then(4, true, 8), ""},
		{busy, data(2, 4, 6), busy, ""},
		{busy, data(4, 4, 6), busy, ""},
		{opening(0, 3), data(3, 0, 0), opening(0, 3), ""},
		{opening(0, 3), data(0, 0, 0), opening(0, 3), ""},
		{over(3), data(3, 0, 0), over(3), ""},
		{over(3), data(0, 0, 0), over(3), ""},
		{busy, api.Frame{Kind: api.FrameAck, Session: 3, Seq: 4, Ack: 6}, then(4, false, 6), ""},
		{busy, api.Frame{Kind: api.FramePulse, Session: 3, Seq: 4, Ack: 7}, then(4, false, 7), ""},
		{busy, api.Frame{Kind: api.FrameAck, Session: 4, Ack: 6}, busy, ""},
		{busy, api.Frame{Kind: api.FramePulse, Session: 2, Ack: 7}, busy, ""},
		{opening(0, 3), api.Frame{Kind: api.FrameAck, Session: 0}, opening(0, 3), ""},
	} {
		var news api.News
		if c.came != "" {
			news.Came = [][]byte{[]byte(c.came)}
		}
		if l, n, e := line.Hear(c.l, c.f, 9); e != api.OK || !line.Same(l, c.want) || !sameNews(n, news) {
			t.Errorf("%d: %v, %v, error %d", i, l, n, e)
		}
	}
	empty := data(3, 4, 0)
	empty.Payload = nil
	if _, n, _ := line.Hear(busy, empty, 9); len(n.Came) != 1 || len(n.Came[0]) != 0 {
		t.Error("an empty payload comes, too")
	}
}

// Li3: what is sent.
func TestTickFlush(t *testing.T) {
	for _, l := range []api.Line{opening(2, 5), over(9)} {
		var want []api.Frame
		if !l.Hand.Over {
			want = []api.Frame{{Kind: api.FrameHello, Session: 5}}
		}
		if got, n, e := line.Tick(l, 9); e != api.OK || !line.Same(got, l) || !sameNews(n, api.News{Frames: want}) {
			t.Errorf("Tick(%v) = %v, %v, error %d", l, got, n, e)
		}
		if got, n, e := line.Flush(l); e != api.OK || !line.Same(got, l) || !sameNews(n, api.News{}) {
			t.Errorf("Flush(%v) = %v, %v, error %d", l, got, n, e)
		}
	}
	l := opened(3, "a", "b")
	l.Taker = api.Taker{Next: 4, Owes: true}
	data := []api.Frame{
		{Kind: api.FrameData, Session: 3, Seq: 0, Ack: 4, Payload: []byte("a")},
		{Kind: api.FrameData, Session: 3, Seq: 1, Ack: 4, Payload: []byte("b")},
	}
	l, n, e := line.Flush(l)
	want := opened(3, "a", "b")
	want.Taker.Next, want.Sender.Sent, want.Sender.Clock = 4, 2, 4
	if e != api.OK || !line.Same(l, want) || !sameNews(n, api.News{Frames: append(slices.Clone(data), api.Frame{Kind: api.FrameAck, Session: 3, Ack: 4})}) {
		t.Errorf("Flush: %v, %v, error %d", l, n, e)
	}
	if again, n, e := line.Flush(l); e != api.OK || !line.Same(again, l) || !sameNews(n, api.News{}) {
		t.Errorf("Flush again: %v, error %d", n, e)
	}
	for i := 1; i <= 4; i++ {
		l, n, e = line.Tick(l, 9)
		var frames []api.Frame
		if i == 4 {
			frames = data
		}
		if e != api.OK || !sameNews(n, api.News{Frames: frames}) {
			t.Errorf("tick %d: %v, error %d", i, n, e)
		}
	}
	// That nothing was sent: nothing is told, and the ack waits for Flush.
	idle := opened(3)
	idle.Taker = api.Taker{Next: 4, Owes: true}
	if got, n, e := line.Tick(idle, 9); e != api.OK || !line.Same(got, idle) || !sameNews(n, api.News{}) {
		t.Errorf("idle: %v, %v, error %d", got, n, e)
	}
}

// Li1: which lines are alike.
func TestSame(t *testing.T) {
	a := opened(3, "a")
	owing, other := a, a
	owing.Taker.Owes = true
	other.Sender.Base = 1
	for i, b := range []api.Line{opened(4, "a"), opened(3, "b"), opened(3), owing, other} {
		if line.Same(a, b) || line.Same(b, a) {
			t.Errorf("%d is the same", i)
		}
	}
	if !line.Same(a, opened(3, "a")) {
		t.Error("alike, but not the same")
	}
}

// Li4: two lines in any weather: in each session what came is a beginning of what was pushed.
func TestInOrder(t *testing.T) {
	r := rand.New(rand.NewSource(23))
	for range 60 {
		p := pair{t: t, r: r, pushed: [2]map[int][]string{{}, {}}, came: [2]map[int][]string{{}, {}}}
		for i := range p.lines {
			p.lines[i], _ = line.New(top)
		}
		for range 400 {
			p.act()
		}
		for i := range p.came {
			for session, came := range p.came[i] {
				pushed := p.pushed[1-i][session]
				if len(came) > len(pushed) || !slices.Equal(came, pushed[:len(came)]) {
					t.Fatalf("session %d: %q came of %q", session, came, pushed)
				}
			}
		}
	}
}

type pair struct {
	t            *testing.T
	r            *rand.Rand
	lines        [2]api.Line
	air          [2][]api.Frame // that each sends
	pushed, came [2]map[int][]string
	count        int
}

func (p *pair) news(i int, n api.News) {
	for _, b := range n.Came {
		s := p.lines[i].Hand.Cur
		p.came[i][s] = append(p.came[i][s], string(b))
	}
	p.air[i] = append(p.air[i], n.Frames...)
	if n.Session != 0 && (p.lines[i].Hand.Cur != n.Session || !line.Same(p.lines[i], opened(n.Session))) {
		p.t.Fatalf("a session begins as %v", p.lines[i])
	}
	if line.Check(p.lines[i]) != api.OK {
		p.t.Fatalf("%v may not be", p.lines[i])
	}
}

func (p *pair) act() {
	i := p.r.Intn(2)
	before := p.lines[i]
	var n api.News
	switch k := p.r.Intn(12); {
	case k < 3:
		p.lines[i], n, _ = line.Tick(before, top)
	case k < 5:
		p.lines[i], n, _ = line.Flush(before)
	case k == 5 && p.r.Intn(6) == 0:
		p.lines[i], n, _ = line.Close(before, top)
	case k < 8:
		p.count++
		if l, e := line.Push(before, []byte(fmt.Sprint(p.count)), top); e == api.OK {
			p.lines[i] = l
			p.pushed[i][l.Hand.Cur] = append(p.pushed[i][l.Hand.Cur], fmt.Sprint(p.count))
		}
	case len(p.air[1-i]) > 0:
		air := p.air[1-i]
		at := p.r.Intn(len(air))
		f := air[at]
		if p.r.Intn(4) > 0 {
			p.air[1-i] = slices.Delete(air, at, at+1)
		}
		var e api.Errno
		p.lines[i], n, e = line.Hear(before, f, top)
		if e != api.OK {
			p.t.Fatalf("%v: error %d", f, e)
		}
		signs := f.Kind == api.FrameHello || f.Kind == api.FrameWelcome
		if !signs && f.Session != before.Hand.Cur && (!line.Same(before, p.lines[i]) || !sameNews(n, api.News{})) {
			p.t.Fatalf("%v turned %v", f, before)
		}
	}
	p.news(i, n)
}

// R3: answers share nothing with what was handed in, nor with each other.
func TestMemory(t *testing.T) {
	room := make([][]byte, 0, 4)
	closed := opening(3, 4)
	closed.Sender.Queue = room
	acts := []func(api.Line) (api.Line, api.News){
		func(l api.Line) (api.Line, api.News) { l, _ = line.Push(l, nil, top); return l, api.News{} },
		func(l api.Line) (api.Line, api.News) { l, n, _ := line.Tick(l, top); return l, n },
		func(l api.Line) (api.Line, api.News) { l, n, _ := line.Flush(l); return l, n },
		func(l api.Line) (api.Line, api.News) { l, n, _ := line.Close(l, top); return l, n },
	}
	for kind := api.FrameHello; kind < api.FrameKinds; kind++ {
		for _, session := range []int{2, 3} {
			acts = append(acts, func(l api.Line) (api.Line, api.News) {
				l, n, _ := line.Hear(l, api.Frame{Kind: kind, Session: session}, top)
				return l, n
			})
		}
	}
	for i, act := range acts {
		l := opened(3, "a", "b")
		l.Sender.Sent, l.Sender.Clock = 1, 1
		got, n := act(l)
		before := fmt.Sprint(got)
		for _, f := range n.Frames {
			for k := range f.Payload {
				f.Payload[k] = 'X'
			}
		}
		if fmt.Sprint(got) != before {
			t.Errorf("%d: the news share memory with the line", i)
		}
		for _, p := range got.Sender.Queue {
			for k := range p {
				p[k] = 'X'
			}
		}
		if !line.Same(api.Line{Hand: l.Hand, Sender: api.Sender{Sent: 1, Clock: 1, Queue: [][]byte{[]byte("a"), []byte("b")}}}, l) {
			t.Errorf("%d: the line shares memory with the one ahead", i)
		}
		got, _ = act(closed)
		_ = append(got.Sender.Queue, []byte("x"))
		if room[:1][0] != nil {
			t.Errorf("%d: spare room is shared", i)
		}
	}
	in := []byte("ab")
	_, n, _ := line.Hear(opened(3), api.Frame{Kind: api.FrameData, Session: 3, Payload: in}, top)
	n.Came[0][0] = 'X'
	if string(in) != "ab" {
		t.Error("what came shares memory")
	}
}
