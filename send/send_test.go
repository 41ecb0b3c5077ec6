package send_test

import (
	"fmt"
	"math"
	"math/rand"
	"testing"

	"withy/api"
	"withy/send"
)

const top = api.MaxCount

// waiting is a sender with n payloads, of which some were sent.
func waiting(base, n, sent, clock int) api.Sender {
	s := api.Sender{Base: base, Sent: sent, Clock: clock}
	for i := range n {
		s.Queue = append(s.Queue, []byte(fmt.Sprint("p", base+i)))
	}
	return s
}

// Se1: which senders may be, and that all calls refuse the others.
func TestCheck(t *testing.T) {
	long := waiting(0, 2, 0, 0)
	long.Queue[1] = make([]byte, api.MaxPayload+1)
	longest := waiting(0, 2, 0, 0)
	longest.Queue[1] = make([]byte, api.MaxPayload)
	for i, c := range []struct {
		s    api.Sender
		want api.Errno
	}{
		{api.Sender{}, api.OK},
		{longest, api.OK},
		{waiting(top, 256, 16, 4), api.OK},
		{waiting(0, 3, 3, 1), api.OK},
		{waiting(0, 3, 0, 0), api.OK},
		{long, api.ErrArg},
		{waiting(-1, 0, 0, 0), api.ErrArg},
		{waiting(top+1, 0, 0, 0), api.ErrArg},
		{waiting(0, 257, 0, 0), api.ErrArg},
		{waiting(0, 3, 4, 1), api.ErrArg},
		{waiting(0, 20, 17, 1), api.ErrArg},
		{waiting(0, 3, -1, 1), api.ErrArg},
		{waiting(0, 3, 3, 0), api.ErrArg},
		{waiting(0, 3, 3, 5), api.ErrArg},
		{waiting(0, 3, 3, -1), api.ErrArg},
		{waiting(0, 3, 0, 1), api.ErrArg},
		{waiting(0, 3, 0, -1), api.ErrArg},
		{api.Sender{Base: math.MinInt}, api.ErrArg},
		{api.Sender{Sent: math.MaxInt, Clock: 1}, api.ErrArg},
	} {
		if e := send.Check(c.s); e != c.want {
			t.Errorf("%d: error %d", i, e)
		}
		if c.want != api.OK {
			refused(t, i, c.s)
		}
	}
}

func refused(t *testing.T, i int, s api.Sender) {
	t.Helper()
	zero := func(call string, got api.Sender, l []api.Numbered, e api.Errno) {
		if e != api.ErrArg || !send.Same(got, api.Sender{}) || len(l) != 0 {
			t.Errorf("%d: %s: %v, error %d", i, call, got, e)
		}
	}
	a, e := send.Push(s, make([]byte, api.MaxPayload+1), 1)
	zero("Push", a, nil, e)
	a, l, e := send.Ready(s)
	zero("Ready", a, l, e)
	a, e = send.Ack(s, 1)
	zero("Ack", a, nil, e)
	a, l, e = send.Tick(s)
	zero("Tick", a, l, e)
}

// Se1: Push, and why it refuses.
func TestPush(t *testing.T) {
	long := make([]byte, api.MaxPayload+1)
	for _, c := range []struct {
		name    string
		s       api.Sender
		payload []byte
		limit   int
		want    api.Errno
	}{
		{"first", api.Sender{}, []byte("p0"), 1, api.OK},
		{"behind others", waiting(5, 3, 2, 4), []byte("p8"), 9, api.OK},
		{"the last number", waiting(5, 3, 2, 4), []byte("p8"), 8, api.ErrOver},
		{"far beyond", waiting(top, 3, 2, 4), []byte("x"), top, api.ErrOver},
		{"the greatest limit", waiting(top-4, 3, 0, 0), []byte(fmt.Sprint("p", top-1)), top, api.OK},
		{"limit 0", api.Sender{}, long, 0, api.ErrArg},
		{"limit -1", api.Sender{}, nil, -1, api.ErrArg},
		{"limit too great", api.Sender{}, nil, top + 1, api.ErrArg},
		{"too long", waiting(0, 256, 0, 0), long, 1, api.ErrLong},
		{"the longest", api.Sender{}, long[1:], 1, api.OK},
		{"full", waiting(0, 256, 0, 0), nil, 1, api.ErrFull},
		{"nearly full", waiting(0, 255, 0, 0), []byte("p255"), 256, api.OK},
		{"empty", api.Sender{}, nil, top, api.OK},
	} {
		got, e := send.Push(c.s, c.payload, c.limit)
		want := api.Sender{}
		if c.want == api.OK {
			want = waiting(c.s.Base, len(c.s.Queue), c.s.Sent, c.s.Clock)
			want.Queue = append(want.Queue, c.payload)
		}
		if e != c.want || !send.Same(got, want) {
			t.Errorf("%s: error %d", c.name, e)
		}
	}
}

// Se2: what is ready, sixteen at most.
func TestReady(t *testing.T) {
	for _, c := range []struct{ n, sent, clock, ready, wantClock int }{
		{0, 0, 0, 0, 0}, {1, 0, 0, 1, 4}, {3, 3, 2, 0, 2}, {4, 3, 2, 1, 4}, {16, 0, 0, 16, 4}, {17, 0, 0, 16, 4}, {256, 15, 1, 1, 4}, {256, 16, 1, 0, 1},
	} {
		got, l, e := send.Ready(waiting(7, c.n, c.sent, c.clock))
		if e != api.OK || !send.Same(got, waiting(7, c.n, c.sent+c.ready, c.wantClock)) || len(l) != c.ready {
			t.Errorf("%v: %v, error %d", c, got, e)
		}
		for i, x := range l {
			if want := 7 + c.sent + i; x.Seq != want || string(x.Payload) != fmt.Sprint("p", want) {
				t.Errorf("%v: %d is %d, %q", c, i, x.Seq, x.Payload)
			}
		}
	}
}

// Se2: acks.
func TestAck(t *testing.T) {
	for _, c := range []struct{ next, n, sent, clock int }{
		{4, 5, 3, 2}, {5, 5, 3, 2}, {-1, 5, 3, 2}, {math.MinInt, 5, 3, 2}, {math.MaxInt, 5, 3, 2}, {9, 5, 3, 2},
		{6, 4, 2, 4}, {7, 3, 1, 4}, {8, 2, 0, 0},
	} {
		got, e := send.Ack(waiting(5, 5, 3, 2), c.next)
		if want := waiting(10-c.n, c.n, c.sent, c.clock); e != api.OK || !send.Same(got, want) {
			t.Errorf("Ack of %d: %v, error %d", c.next, got, e)
		}
	}
	if got, e := send.Ack(api.Sender{}, 1); e != api.OK || !send.Same(got, api.Sender{}) {
		t.Errorf("of nothing: %v, error %d", got, e)
	}
}

// Se2: ticks; at the fourth what was sent is told again, and only that.
func TestTick(t *testing.T) {
	s, _, _ := send.Ready(waiting(5, 20, 0, 0))
	for i := 1; i <= 12; i++ {
		next, l, e := send.Tick(s)
		clock := 4 - i%4
		if e != api.OK || !send.Same(next, waiting(5, 20, 16, clock)) || (len(l) == 16) != (i%4 == 0) || len(l)%16 != 0 {
			t.Fatalf("tick %d: %v, %d told, error %d", i, next, len(l), e)
		}
		for k, x := range l {
			if x.Seq != 5+k || string(x.Payload) != fmt.Sprint("p", 5+k) {
				t.Fatalf("tick %d: %v", i, x)
			}
		}
		s = next
	}
	for _, s := range []api.Sender{{}, waiting(3, 4, 0, 0)} {
		if got, l, e := send.Tick(s); e != api.OK || len(l) != 0 || !send.Same(got, s) {
			t.Errorf("nothing was sent: %v, error %d", got, e)
		}
	}
}

// The chapter's example.
func TestExample(t *testing.T) {
	s, _ := send.Push(api.Sender{}, []byte("x"), 9)
	s, l, _ := send.Ready(s)
	if len(l) != 1 || l[0].Seq != 0 || string(l[0].Payload) != "x" {
		t.Errorf("Ready: %v", l)
	}
	for i := range 4 {
		s, l, _ = send.Tick(s)
		if (len(l) == 1) != (i == 3) {
			t.Errorf("tick %d: %v", i, l)
		}
	}
	s, _ = send.Ack(s, 1)
	if !send.Same(s, api.Sender{Base: 1}) {
		t.Errorf("%v", s)
	}
}

// Se1: which senders are alike.
func TestSame(t *testing.T) {
	a := waiting(1, 2, 1, 3)
	other := waiting(1, 2, 1, 3)
	other.Queue[1] = []byte("x")
	for i, b := range []api.Sender{waiting(2, 2, 1, 3), waiting(1, 3, 1, 3), waiting(1, 2, 2, 3), waiting(1, 2, 1, 4), other} {
		if send.Same(a, b) || send.Same(b, a) {
			t.Errorf("%d is the same", i)
		}
	}
	if !send.Same(a, waiting(1, 2, 1, 3)) || !send.Same(api.Sender{Queue: [][]byte{}}, api.Sender{}) {
		t.Error("alike, but not the same")
	}
}

// R3: whatever is done: answers share nothing with what was handed in, nor with each other.
func TestMemory(t *testing.T) {
	r := rand.New(rand.NewSource(18))
	s := waiting(0, 3, 0, 0)
	for range 300 {
		before := waiting(s.Base, len(s.Queue), s.Sent, s.Clock)
		var next api.Sender
		var l []api.Numbered
		switch r.Intn(4) {
		case 0:
			next, _ = send.Push(s, []byte(fmt.Sprint("p", s.Base+len(s.Queue))), top)
		case 1:
			next, l, _ = send.Ready(s)
		case 2:
			next, _ = send.Ack(s, s.Base+r.Intn(s.Sent+1))
		case 3:
			next, l, _ = send.Tick(s)
		}
		keep := waiting(next.Base, len(next.Queue), next.Sent, next.Clock)
		for _, x := range l {
			x.Payload[0] = 'X'
			_ = append(x.Payload, 'Y')
		}
		if !send.Same(next, keep) {
			t.Fatal("what is told shares memory with the sender")
		}
		for _, p := range next.Queue {
			p[0] = 'X'
		}
		_ = append(next.Queue, nil)
		if !send.Same(s, before) {
			t.Fatal("the sender shares memory with the one ahead")
		}
		s = keep
	}
}
