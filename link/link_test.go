package link_test

import (
	"fmt"
	"math"
	"math/rand"
	"slices"
	"testing"

	"withy/api"
	"withy/crc"
	"withy/frame"
	"withy/line"
	"withy/link"
)

const top = api.MaxCount

// opened is an end whose session has a number, with these payloads waiting.
func opened(n, quiet, since int, payloads ...string) api.Link {
	l := api.Link{Peer: 2, W: 5, Beat: api.Beat{Quiet: quiet, Since: since}}
	l.Line.Hand = api.Hand{Last: n, Cur: n}
	for _, p := range payloads {
		l.Line.Sender.Queue = append(l.Line.Sender.Queue, []byte(p))
	}
	return l
}

func opening(n, p int) api.Link {
	return api.Link{Peer: 2, W: 5, Line: api.Line{Hand: api.Hand{Last: n, Prop: p}}}
}

func over(n int) api.Link {
	return api.Link{Peer: 2, W: 5, Line: api.Line{Hand: api.Hand{Last: n, Over: true}}}
}

func sameNews(a, b api.News) bool {
	return slices.EqualFunc(a.Frames, b.Frames, frame.Same) && slices.EqualFunc(a.Came, b.Came, slices.Equal[[]byte]) && a.Down == b.Down && a.Session == b.Session
}

func zero(l api.Link, n api.News) bool { return link.Same(l, api.Link{}) && sameNews(n, api.News{}) }

func bytesOf(f api.Frame) []byte {
	b, e := frame.Encode(f)
	if e != api.OK {
		panic(e)
	}
	return b
}

func with(l api.Link, turn func(l *api.Link)) api.Link {
	turn(&l)
	return l
}

// Check, and what all tell of ends that may not be.
func TestCheck(t *testing.T) {
	for i, c := range []struct {
		l    api.Link
		want api.Errno
	}{
		{opened(3, 5, 1), api.OK},
		{opening(0, 1), api.OK},
		{over(3), api.OK},
		{with(opened(3, 0, 0), func(l *api.Link) { l.Peer, l.W = 64, top }), api.OK},
		{with(opened(3, 0, 0), func(l *api.Link) { l.W = 0 }), api.OK},
		{api.Link{}, api.ErrArg},
		{with(opened(3, 0, 0), func(l *api.Link) { l.Peer = 0 }), api.ErrArg},
		{with(opened(3, 0, 0), func(l *api.Link) { l.Peer = 65 }), api.ErrArg},
		{with(opened(3, 0, 0), func(l *api.Link) { l.W = -1 }), api.ErrArg},
		{with(opened(3, 0, 0), func(l *api.Link) { l.W = top + 1 }), api.ErrArg},
		{with(opened(3, 0, 0), func(l *api.Link) { l.Line.Hand.Prop = 1 }), api.ErrArg},
		{opened(3, 6, 0), api.ErrArg},
		{opened(3, 0, 2), api.ErrArg},
		{opened(3, -1, 0), api.ErrArg},
		{with(opening(0, 1), func(l *api.Link) { l.Beat.Quiet = 1 }), api.ErrArg},
		{with(opening(0, 1), func(l *api.Link) { l.Beat.Since = 1 }), api.ErrArg},
		{with(over(1), func(l *api.Link) { l.Beat.Since = 1 }), api.ErrArg},
		{with(opening(0, 1), func(l *api.Link) { l.Line.Taker.Owes = true }), api.ErrArg},
	} {
		if e := link.Check(c.l); e != c.want {
			t.Errorf("%d: error %d", i, e)
		}
		if c.want != api.OK {
			refused(t, c.l, 9)
			if l, n, e := link.Flush(c.l); e != api.ErrArg || !zero(l, n) {
				t.Errorf("%d: Flush: error %d", i, e)
			}
		}
	}
	for _, limit := range []int{0, -1, top + 1, math.MinInt, math.MaxInt} {
		refused(t, opened(3, 0, 0), limit)
		refused(t, opening(0, 1), limit)
		if l, e := link.New(2, 5, limit); e != api.ErrArg || !zero(l, api.News{}) {
			t.Errorf("New, limit %d: error %d", limit, e)
		}
	}
}

func refused(t *testing.T, l api.Link, limit int) {
	t.Helper()
	if got, e := link.Push(l, make([]byte, api.MaxPayload+1), limit); e != api.ErrArg || !zero(got, api.News{}) {
		t.Errorf("%v: Push: error %d", l, e)
	}
	for _, b := range [][]byte{nil, bytesOf(api.Frame{Kind: api.FrameHello, Session: 1})} {
		if got, n, e := link.Hear(l, b, limit); e != api.ErrArg || !zero(got, n) {
			t.Errorf("%v: Hear: error %d", l, e)
		}
	}
	if got, n, e := link.Tick(l, limit); e != api.ErrArg || !zero(got, n) {
		t.Errorf("%v: Tick: error %d", l, e)
	}
	if got, n, e := link.Close(l, limit); e != api.ErrArg || !zero(got, n) {
		t.Errorf("%v: Close: error %d", l, e)
	}
	for _, w := range []int{l.W, 9} {
		if got, n, e := link.Weigh(l, w, limit); e != api.ErrArg || !zero(got, n) {
			t.Errorf("%v: Weigh: error %d", l, e)
		}
	}
}

// Lk1: New, Push, Close.
func TestNewPushClose(t *testing.T) {
	for _, c := range []struct {
		peer, w int
		e       api.Errno
	}{{2, 5, api.OK}, {64, top, api.OK}, {1, 0, api.OK}, {0, 5, api.ErrArg}, {65, 5, api.ErrArg}, {2, -1, api.ErrArg}, {2, top + 1, api.ErrArg}} {
		want := opening(0, 1)
		want.Peer, want.W = c.peer, c.w
		if c.e != api.OK {
			want = api.Link{}
		}
		if l, e := link.New(c.peer, c.w, 9); e != c.e || !link.Same(l, want) {
			t.Errorf("New(%d, %d) = %v, error %d", c.peer, c.w, l, e)
		}
	}
	for _, c := range []struct {
		l     api.Link
		p     []byte
		limit int
		want  api.Link
		e     api.Errno
	}{
		{opened(3, 4, 1), []byte("a"), 1, opened(3, 4, 1, "a"), api.OK},
		{opened(3, 0, 0, "a"), []byte("b"), 1, api.Link{}, api.ErrOver},
		{opened(3, 0, 0), make([]byte, api.MaxPayload+1), 1, api.Link{}, api.ErrLong},
		{opened(3, 0, 0, make([]string, 256)...), nil, 1, api.Link{}, api.ErrFull},
		{opening(0, 1), nil, 9, api.Link{}, api.ErrNone},
		{over(3), nil, 9, api.Link{}, api.ErrNone},
	} {
		if l, e := link.Push(c.l, c.p, c.limit); e != c.e || !link.Same(l, c.want) {
			t.Errorf("Push: %v, error %d", l, e)
		}
	}
	for _, c := range []struct {
		l, want api.Link
		down    bool
	}{{opened(3, 4, 1, "a"), opening(3, 4), true}, {opened(9, 4, 1), over(9), true}, {opening(3, 7), opening(3, 7), false}, {over(3), over(3), false}} {
		if l, n, e := link.Close(c.l, 9); e != api.OK || !link.Same(l, c.want) || !sameNews(n, api.News{Down: c.down}) {
			t.Errorf("Close(%v) = %v, %v, error %d", c.l, l, n, e)
		}
	}
}

// The least limit, and the greatest one.
func TestLimits(t *testing.T) {
	for _, limit := range []int{1, top} {
		if l, e := link.New(2, 5, limit); e != api.OK || !link.Same(l, opening(0, 1)) {
			t.Errorf("New: error %d", e)
		}
		if _, n, e := link.Hear(opening(0, 1), bytesOf(api.Frame{Kind: api.FrameWelcome, Session: 1}), limit); e != api.OK || n.Session != 1 {
			t.Errorf("Hear: error %d", e)
		}
		if _, n, e := link.Tick(opening(0, 1), limit); e != api.OK || len(n.Frames) != 1 {
			t.Errorf("Tick: error %d", e)
		}
		if _, n, e := link.Close(opened(1, 0, 0), limit); e != api.OK || !n.Down {
			t.Errorf("Close: error %d", e)
		}
		if _, n, e := link.Weigh(opened(1, 0, 0), 9, limit); e != api.OK || !n.Down {
			t.Errorf("Weigh: error %d", e)
		}
		if _, e := link.Push(opened(1, 0, 0), nil, limit); e != api.OK {
			t.Errorf("Push: error %d", e)
		}
	}
}

// Lk1: another weight.
func TestWeigh(t *testing.T) {
	heavy := func(l api.Link) api.Link { l.W = 7; return l }
	for _, c := range []struct {
		l, want api.Link
		w       int
		down    bool
		e       api.Errno
	}{
		{opened(3, 4, 1, "a"), opened(3, 4, 1, "a"), 5, false, api.OK},
		{opened(3, 4, 1, "a"), heavy(opening(3, 4)), 7, true, api.OK},
		{opening(3, 6), heavy(opening(3, 6)), 7, false, api.OK},
		{opening(3, 6), opening(3, 6), 5, false, api.OK},
		{over(3), heavy(over(3)), 7, false, api.OK},
		{opened(3, 4, 1), api.Link{}, -1, false, api.ErrArg},
		{opened(3, 4, 1), api.Link{}, top + 1, false, api.ErrArg},
	} {
		if l, n, e := link.Weigh(c.l, c.w, 9); e != c.e || !link.Same(l, c.want) || !sameNews(n, api.News{Down: c.down}) {
			t.Errorf("Weigh(%v, %d) = %v, %v, error %d", c.l, c.w, l, n, e)
		}
	}
}

// Lk2: what is heard, and which of it is a sign.
func TestHear(t *testing.T) {
	got := opened(3, 0, 1)
	got.Line.Taker = api.Taker{Next: 1, Owes: true}
	owes := opened(3, 0, 1)
	owes.Line.Taker.Owes = true
	for i, c := range []struct {
		l    api.Link
		f    api.Frame
		want api.Link
		news api.News
	}{
		{opened(3, 4, 1), api.Frame{Kind: api.FramePulse, Session: 3}, opened(3, 0, 1), api.News{}},
		{opened(3, 4, 1), api.Frame{Kind: api.FrameAck, Session: 3}, opened(3, 0, 1), api.News{}},
		{opened(3, 4, 1), api.Frame{Kind: api.FramePulse, Session: 2}, opened(3, 4, 1), api.News{}},
		{opened(3, 4, 1), api.Frame{Kind: api.FramePulse, Session: 4}, opened(3, 4, 1), api.News{}},
		{opened(3, 4, 1), api.Frame{Kind: api.FrameData, Session: 3, Payload: []byte("x")}, got, api.News{Came: [][]byte{[]byte("x")}}},
		{opened(3, 4, 1), api.Frame{Kind: api.FrameData, Session: 3, Seq: 1, Payload: []byte("x")}, owes, api.News{}},
		{opened(3, 4, 1), api.Frame{Kind: api.FrameData, Session: 2, Payload: []byte("x")}, opened(3, 4, 1), api.News{}},
		{opened(3, 4, 1), api.Frame{Kind: api.FrameHello, Session: 3}, opened(3, 0, 1), api.News{Frames: []api.Frame{{Kind: api.FrameWelcome, Session: 3}}}},
		{opened(3, 4, 1), api.Frame{Kind: api.FrameWelcome, Session: 3}, opened(3, 0, 1), api.News{}},
		{opened(3, 4, 1), api.Frame{Kind: api.FrameHello, Session: 2}, opened(3, 4, 1), api.News{}},
		{opened(3, 4, 1, "a"), api.Frame{Kind: api.FrameHello, Session: 4}, opening(3, 4), api.News{Down: true, Frames: []api.Frame{{Kind: api.FrameWelcome, Session: 4}}}},
		{opening(3, 4), api.Frame{Kind: api.FrameWelcome, Session: 4}, opened(4, 0, 0), api.News{Session: 4}},
		{opening(3, 4), api.Frame{Kind: api.FramePulse, Session: 4}, opening(3, 4), api.News{}},
		{opening(3, 4), api.Frame{Kind: api.FramePulse}, opening(3, 4), api.News{}},
		{over(3), api.Frame{Kind: api.FramePulse}, over(3), api.News{}},
	} {
		if l, n, e := link.Hear(c.l, bytesOf(c.f), 9); e != api.OK || !link.Same(l, c.want) || !sameNews(n, c.news) {
			t.Errorf("%d: %v, %v, error %d", i, l, n, e)
		}
	}
}

// Lk4: bytes that are no frame turn nothing.
func TestNoFrame(t *testing.T) {
	b := bytesOf(api.Frame{Kind: api.FramePulse, Session: 3})
	bent := slices.Clone(b)
	bent[5] ^= 1
	for _, l := range []api.Link{opened(3, 4, 1, "a"), opening(0, 3), over(3)} {
		for _, x := range [][]byte{nil, b[1:], b[:18], bent, make([]byte, 16404), crc.Seal(make([]byte, 15))} {
			if got, n, e := link.Hear(l, x, 9); e != api.OK || !link.Same(got, l) || !sameNews(n, api.News{}) {
				t.Errorf("%x: %v, %v, error %d", x, got, n, e)
			}
		}
	}
}

// Lk3: pulses behind what is sent, and silence.
func TestTick(t *testing.T) {
	sent := opened(3, 1, 1, "a")
	sent.Line.Sender.Sent, sent.Line.Sender.Clock = 1, 1
	sent.Line.Taker.Next = 7
	after := with(sent, func(l *api.Link) { l.Line.Sender.Clock = 4; l.Beat = api.Beat{Quiet: 2} })
	silent := with(sent, func(l *api.Link) { l.Beat.Quiet = 5 })
	pulse := api.Frame{Kind: api.FramePulse, Session: 3, Ack: 7}
	data := api.Frame{Kind: api.FrameData, Session: 3, Ack: 7, Payload: []byte("a")}
	for i, c := range []struct {
		l, want api.Link
		news    api.News
	}{
		{sent, after, api.News{Frames: []api.Frame{data, pulse}}},
		{silent, opening(3, 4), api.News{Down: true}},
		{opened(9, 5, 0), over(9), api.News{Down: true}},
		{opened(3, 0, 0), opened(3, 1, 1), api.News{}},
		{opened(3, 3, 1), opened(3, 4, 0), api.News{Frames: []api.Frame{{Kind: api.FramePulse, Session: 3}}}},
		{opening(3, 5), opening(3, 5), api.News{Frames: []api.Frame{{Kind: api.FrameHello, Session: 5}}}},
		{over(3), over(3), api.News{}},
	} {
		if l, n, e := link.Tick(c.l, 9); e != api.OK || !link.Same(l, c.want) || !sameNews(n, c.news) {
			t.Errorf("%d: %v, %v, error %d", i, l, n, e)
		}
	}
	l := opened(3, 0, 0)
	for i := 1; i <= 6; i++ {
		var n api.News
		l, n, _ = link.Tick(l, 9)
		if n.Down != (i == 6) {
			t.Errorf("the chapter's example: tick %d: %v", i, n)
		}
	}
}

// Lk1: Flush is layer 17's, and the beat stays.
func TestFlush(t *testing.T) {
	for _, l := range []api.Link{opened(3, 4, 1, "a", "b"), opening(3, 4), over(3)} {
		x, want, _ := line.Flush(l.Line)
		wantLink := with(l, func(l *api.Link) { l.Line = x })
		if got, n, e := link.Flush(l); e != api.OK || !link.Same(got, wantLink) || !sameNews(n, want) {
			t.Errorf("Flush(%v) = %v, %v, error %d", l, got, n, e)
		}
	}
}

// Lk1: which ends are alike.
func TestSame(t *testing.T) {
	a := opened(3, 4, 1, "a")
	for i, b := range []api.Link{opened(3, 4, 1, "b"), opened(3, 3, 1, "a"), opened(3, 4, 0, "a"), with(a, func(l *api.Link) { l.W = 1 }), with(a, func(l *api.Link) { l.Peer = 1 })} {
		if link.Same(a, b) || link.Same(b, a) {
			t.Errorf("%d is the same", i)
		}
	}
	if !link.Same(a, opened(3, 4, 1, "a")) {
		t.Error("alike, but not the same")
	}
}

// Whatever is done an end may be; and two of them, that hear all, are open by one session.
func TestPair(t *testing.T) {
	r := rand.New(rand.NewSource(25))
	for range 60 {
		var ends [2]api.Link
		var air [2][][]byte
		for i := range ends {
			ends[i], _ = link.New(2-i, 5, top)
		}
		news := func(i int, l api.Link, n api.News) {
			if link.Check(l) != api.OK {
				t.Fatalf("%v may not be", l)
			}
			ends[i] = l
			for _, f := range n.Frames {
				air[i] = append(air[i], bytesOf(f))
			}
		}
		act := func(i, k int) {
			l, n := ends[i], api.News{}
			switch {
			case k < 3:
				l, n, _ = link.Tick(l, top)
			case k == 3:
				l, n, _ = link.Flush(l)
			case k == 4:
				if x, e := link.Push(l, []byte("x"), top); e == api.OK {
					l = x
				}
			case len(air[1-i]) > 0:
				at := 0
				if k == 5 {
					at = r.Intn(len(air[1-i]))
				}
				b := air[1-i][at]
				air[1-i] = slices.Delete(air[1-i], at, at+1)
				if k < 7 {
					l, n, _ = link.Hear(l, b, top)
				}
			}
			news(i, l, n)
		}
		for range 200 {
			act(r.Intn(2), r.Intn(8))
		}
		for range 40 {
			for i := range ends {
				act(i, 0)
				act(i, 3)
			}
			for n := len(air[0]) + len(air[1]); n > 0; n-- {
				act(0, 6)
				act(1, 6)
			}
		}
		if a, b := ends[0].Line.Hand, ends[1].Line.Hand; a != b || a.Cur == 0 {
			t.Fatalf("%v, %v", a, b)
		}
	}
}

// R3: answers share nothing with what was handed in.
func TestMemory(t *testing.T) {
	room := make([][]byte, 0, 4)
	pulse := bytesOf(api.Frame{Kind: api.FramePulse, Session: 3})
	acts := []func(api.Link) api.Link{
		func(l api.Link) api.Link { l, _ = link.Push(l, nil, top); return l },
		func(l api.Link) api.Link { l, _, _ = link.Tick(l, top); return l },
		func(l api.Link) api.Link { l, _, _ = link.Flush(l); return l },
		func(l api.Link) api.Link { l, _, _ = link.Close(l, top); return l },
		func(l api.Link) api.Link { l, _, _ = link.Weigh(l, 5, top); return l },
		func(l api.Link) api.Link { l, _, _ = link.Weigh(l, 6, top); return l },
		func(l api.Link) api.Link { l, _, _ = link.Hear(l, nil, top); return l },
		func(l api.Link) api.Link { l, _, _ = link.Hear(l, pulse, top); return l },
	}
	for i, act := range acts {
		l := opened(3, 0, 0, "a", "b")
		for _, p := range act(l).Line.Sender.Queue {
			for k := range p {
				p[k] = 'X'
			}
		}
		if !link.Same(l, opened(3, 0, 0, "a", "b")) {
			t.Errorf("%d: %s", i, fmt.Sprint(l.Line.Sender.Queue))
		}
		_ = append(act(with(opening(3, 4), func(l *api.Link) { l.Line.Sender.Queue = room })).Line.Sender.Queue, []byte("x"))
		if room[:1][0] != nil {
			t.Fatalf("%d: spare room is shared", i)
		}
	}
}
