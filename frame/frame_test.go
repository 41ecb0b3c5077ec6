package frame_test

import (
	"bytes"
	"math"
	"math/rand"
	"testing"

	"withy/api"
	"withy/crc"
	"withy/frame"
)

const top = api.MaxCount

// Fr1: which frames may be, and that Encode refuses the others.
func TestCheck(t *testing.T) {
	long := make([]byte, api.MaxPayload)
	for i, c := range []struct {
		f api.Frame
		e api.Errno
	}{
		{api.Frame{Kind: api.FrameHello}, api.OK},
		{api.Frame{Kind: api.FramePulse, Session: top, Seq: top, Ack: top}, api.OK},
		{api.Frame{Kind: api.FrameData, Payload: long}, api.OK},
		{api.Frame{Kind: api.FrameData, Payload: []byte{}}, api.OK},
		{api.Frame{Kind: api.FrameAck, Payload: []byte{}}, api.OK},
		{api.Frame{}, api.ErrArg},
		{api.Frame{Kind: -1}, api.ErrArg},
		{api.Frame{Kind: api.FrameKinds}, api.ErrArg},
		{api.Frame{Kind: math.MaxInt}, api.ErrArg},
		{api.Frame{Kind: 1, Session: -1}, api.ErrArg},
		{api.Frame{Kind: 1, Seq: -1}, api.ErrArg},
		{api.Frame{Kind: 1, Ack: -1}, api.ErrArg},
		{api.Frame{Kind: 1, Session: top + 1}, api.ErrArg},
		{api.Frame{Kind: 1, Seq: top + 1}, api.ErrArg},
		{api.Frame{Kind: 1, Ack: top + 1}, api.ErrArg},
		{api.Frame{Kind: api.FrameData, Payload: append(long, 0)}, api.ErrArg},
		{api.Frame{Kind: api.FrameHello, Payload: []byte{0}}, api.ErrArg},
		{api.Frame{Kind: api.FrameWelcome, Payload: []byte{0}}, api.ErrArg},
		{api.Frame{Kind: api.FrameAck, Payload: []byte{0}}, api.ErrArg},
		{api.Frame{Kind: api.FramePulse, Payload: []byte{0}}, api.ErrArg},
	} {
		if e := frame.Check(c.f); e != c.e {
			t.Errorf("%d: Check: error %d", i, e)
		}
		b, e := frame.Encode(c.f)
		if e != c.e || e != api.OK && len(b) != 0 || e == api.OK && len(b) != 19+len(c.f.Payload) {
			t.Errorf("%d: Encode: %d bytes, error %d", i, len(b), e)
		}
	}
}

// Fr1: the bytes, one by one.
func TestBytes(t *testing.T) {
	b, _ := frame.Encode(api.Frame{Kind: api.FrameData, Session: 0x01020304, Seq: 5, Ack: 0x7fffffff, Payload: []byte("ab")})
	want := crc.Seal([]byte("\x00\x02\x03\x01\x02\x03\x04\x00\x00\x00\x05\x7f\xff\xff\xffab"))
	if !bytes.Equal(b, want) {
		t.Errorf("%x, not %x", b, want)
	}
	if b, _ := frame.Encode(api.Frame{Kind: api.FramePulse, Session: 5}); len(b) != 19 {
		t.Errorf("a pulse has %d bytes", len(b))
	}
}

// Fr1: what Decode refuses, and by which error.
func TestRefused(t *testing.T) {
	head := "\x00\x00\x01\x00\x00\x00\x05\x00\x00\x00\x00\x00\x00\x00"
	sealed := func(s string) []byte { return crc.Seal([]byte(s)) }
	for _, c := range []struct {
		name string
		b    []byte
		e    api.Errno
	}{
		{"a frame", sealed(head + "\x00"), api.OK},
		{"too long", make([]byte, 16404), api.ErrLong},
		{"long enough for a sum", make([]byte, 16403), api.ErrSum},
		{"too few", make([]byte, 18), api.ErrText},
		{"none", nil, api.ErrText},
		{"few, though sealed", sealed(head), api.ErrText},
		{"noughts", make([]byte, 19), api.ErrSum},
		{"kind 0", sealed("\x00\x00\x00" + head[3:] + "\x00"), api.ErrText},
		{"kind 6", sealed("\x00\x00\x06" + head[3:] + "\x00"), api.ErrText},
		{"another size", sealed("\x00\x01\x03" + head[3:] + "\x00"), api.ErrText},
		{"a smaller size", sealed("\x00\x00\x03" + head[3:] + "\x00x"), api.ErrText},
		{"a payload of a hello", sealed("\x00\x01\x01" + head[3:] + "\x00x"), api.ErrText},
		{"a session too great", sealed("\x00\x00\x01\x80" + head[4:] + "\x00"), api.ErrText},
		{"a number too great", sealed(head[:7] + "\x80" + head[8:] + "\x00"), api.ErrText},
		{"an ack too great", sealed(head[:11] + "\x80" + head[12:] + "\x00"), api.ErrText},
	} {
		f, e := frame.Decode(c.b)
		if e != c.e || e != api.OK && !frame.Same(f, api.Frame{}) {
			t.Errorf("%s: %v, error %d", c.name, f, e)
		}
	}
}

func some(r *rand.Rand) api.Frame {
	f := api.Frame{Kind: 1 + r.Intn(5), Session: r.Intn(top + 1), Seq: r.Intn(top + 1), Ack: r.Intn(top + 1)}
	if f.Kind == api.FrameData {
		f.Payload = make([]byte, r.Intn(60))
		r.Read(f.Payload)
	}
	return f
}

// Fr2: there and back; beginnings are no frames.
func TestFollows(t *testing.T) {
	r := rand.New(rand.NewSource(5))
	for range 500 {
		f := some(r)
		b, e := frame.Encode(f)
		got, e2 := frame.Decode(b)
		if e != api.OK || e2 != api.OK || !frame.Same(f, got) {
			t.Fatalf("%v came back as %v, error %d, %d", f, got, e, e2)
		}
		for n := range b {
			if _, e := frame.Decode(b[:n]); e == api.OK {
				t.Fatalf("%x: its first %d are a frame", b, n)
			}
		}
	}
	long := api.Frame{Kind: api.FrameData, Payload: make([]byte, api.MaxPayload)}
	b, _ := frame.Encode(long)
	if got, e := frame.Decode(b); e != api.OK || !frame.Same(got, long) {
		t.Errorf("the longest one: error %d", e)
	}
}

// Fr1: which frames are alike.
func TestSame(t *testing.T) {
	f := api.Frame{Kind: 3, Session: 1, Seq: 2, Ack: 3, Payload: []byte("x")}
	for i, g := range []api.Frame{
		{Kind: 4, Session: 1, Seq: 2, Ack: 3, Payload: []byte("x")},
		{Kind: 3, Session: 0, Seq: 2, Ack: 3, Payload: []byte("x")},
		{Kind: 3, Session: 1, Seq: 0, Ack: 3, Payload: []byte("x")},
		{Kind: 3, Session: 1, Seq: 2, Ack: 0, Payload: []byte("x")},
		{Kind: 3, Session: 1, Seq: 2, Ack: 3, Payload: []byte("y")},
		{Kind: 3, Session: 1, Seq: 2, Ack: 3},
	} {
		if frame.Same(f, g) || frame.Same(g, f) {
			t.Errorf("%d is the same", i)
		}
	}
	if !frame.Same(f, f) || !frame.Same(api.Frame{}, api.Frame{Payload: []byte{}}) {
		t.Error("alike, but not the same")
	}
}

// R3: the payload of an answer is new memory.
func TestMemory(t *testing.T) {
	p := []byte("ab")
	b, _ := frame.Encode(api.Frame{Kind: 3, Payload: p[:1]})
	f, _ := frame.Decode(b)
	f.Payload[0] = 'x'
	_ = append(f.Payload, 'y')
	if g, e := frame.Decode(b); e != api.OK || string(g.Payload) != "a" || string(p) != "ab" {
		t.Error("memory is shared")
	}
}
