package bend_test

import (
	"bytes"
	"math"
	"math/rand"
	"testing"

	"withy/api"
	"withy/bend"
	"withy/crc"
	"withy/frame"
)

// plain is a burst as the chapter says it, over a list of bits.
func plain(b []byte, at int, pattern uint32) []byte {
	if len(b) == 0 {
		return nil
	}
	var bits []byte
	for _, x := range b {
		for i := 7; i >= 0; i-- {
			bits = append(bits, x>>i&1)
		}
	}
	at = ((at % len(bits)) + len(bits)) % len(bits)
	for i := 0; i < 32 && at+i < len(bits); i++ {
		bits[at+i] ^= byte(pattern >> (31 - i) & 1)
	}
	out := make([]byte, len(b))
	for i, x := range bits {
		out[i/8] |= x << (7 - i%8)
	}
	return out
}

func some(r *rand.Rand, n int) []byte {
	b := make([]byte, n)
	r.Read(b)
	return b
}

// Be1: bursts, and single bits.
func TestBurst(t *testing.T) {
	if b := bend.Burst([]byte{0}, 4, 0x80000000); !bytes.Equal(b, []byte{8}) {
		t.Errorf("the chapter's example: %x", b)
	}
	if b := bend.Burst([]byte{0, 0}, 12, 0xffffffff); !bytes.Equal(b, []byte{0, 15}) {
		t.Errorf("beyond the end: %x", b)
	}
	if len(bend.Burst(nil, 3, 1)) != 0 || len(bend.Flip(nil, 3)) != 0 || len(bend.Flip([]byte{}, -3)) != 0 {
		t.Error("of no bytes")
	}
	r := rand.New(rand.NewSource(6))
	for range 5000 {
		b, at, pattern := some(r, r.Intn(12)), r.Intn(400)-200, r.Uint32()>>r.Intn(32)
		if got := bend.Burst(b, at, pattern); !bytes.Equal(got, plain(b, at, pattern)) {
			t.Fatalf("Burst(%x, %d, %x) = %x", b, at, pattern, got)
		}
		if got := bend.Flip(b, at); !bytes.Equal(got, plain(b, at, 1<<31)) {
			t.Fatalf("Flip(%x, %d) = %x", b, at, got)
		}
		if twice := bend.Burst(bend.Burst(b, at, pattern), at, pattern); !bytes.Equal(twice, b) {
			t.Fatalf("%x done twice is %x", b, twice)
		}
	}
	for _, at := range []int{math.MinInt, math.MaxInt} {
		if got := bend.Burst([]byte("abc"), at, 1<<31); !bytes.Equal(got, plain([]byte("abc"), at, 1<<31)) {
			t.Errorf("at %d: %x", at, got)
		}
	}
}

// Be1: what is cut.
func TestCut(t *testing.T) {
	for _, c := range []struct {
		b    string
		n    int
		want string
	}{
		{"abc", 0, ""}, {"abc", 1, "a"}, {"abc", 3, "abc"}, {"abc", 4, ""}, {"abc", 5, "a"}, {"abc", -1, "abc"}, {"abc", -4, ""},
		{"", 0, ""}, {"", 7, ""}, {"", -7, ""}, {"abc", math.MinInt, ""}, {"abc", math.MaxInt, "abc"},
	} {
		if got := bend.Cut([]byte(c.b), c.n); string(got) != c.want {
			t.Errorf("Cut(%q, %d) = %q", c.b, c.n, got)
		}
	}
}

// Be1: how far what is unlike goes.
func TestUnlike(t *testing.T) {
	for _, c := range []struct {
		a, b string
		want int
	}{
		{"", "", 0}, {"a", "a", 0}, {"a", "", -1}, {"", "a", -1}, {"ab", "a", -1},
		{"\x00", "\x08", 1}, {"\x00", "\x18", 2}, {"\x00\x00", "\x01\x80", 2}, {"\x00\x00", "\x80\x01", 16},
		{"\x00\x00\x00", "\x40\x00\x02", 22}, {"\xff\x00", "\xff\x01", 1}, {"\x00\x00", "\x00\xff", 8},
	} {
		if got := bend.Unlike([]byte(c.a), []byte(c.b)); got != c.want {
			t.Errorf("Unlike(%x, %x) = %d", c.a, c.b, got)
		}
	}
}

// Be1: what is read as a frame.
func TestReads(t *testing.T) {
	b, _ := frame.Encode(api.Frame{Kind: api.FramePulse, Session: 5})
	if !bend.Reads(b) || bend.Reads(nil) || bend.Reads(b[1:]) || bend.Reads(append(bytes.Clone(b), 0)) || bend.Reads(crc.Seal(make([]byte, 15))) {
		t.Error("what layer 3 reads, and only that")
	}
}

// Be2: what the air can't do.
func TestAir(t *testing.T) {
	r := rand.New(rand.NewSource(7))
	var all [][]byte
	for range 60 {
		b, e := frame.Encode(api.Frame{Kind: api.FrameData, Session: r.Intn(3), Seq: r.Intn(3), Payload: some(r, r.Intn(3))})
		if e != api.OK {
			t.Fatal(e)
		}
		all = append(all, b)
		for n := range b {
			if bend.Reads(bend.Cut(b, n)) {
				t.Fatalf("%x, cut to %d, is read", b, n)
			}
		}
		for range 200 {
			if c := bend.Burst(b, r.Int(), r.Uint32()>>r.Intn(32)); !bytes.Equal(b, c) && bend.Reads(c) {
				t.Fatalf("%x, bent to %x, is read", b, c)
			}
		}
	}
	for _, a := range all {
		for _, b := range all {
			if n := bend.Unlike(a, b); n > 0 && n <= 32 {
				t.Fatalf("%x and %x are unlike in %d bits only", a, b, n)
			}
		}
	}
}

// R3: answers are new memory.
func TestMemory(t *testing.T) {
	b := []byte("abcdef")
	for _, got := range [][]byte{bend.Burst(b[:3], 0, 0), bend.Cut(b, 3), bend.Flip(b[:3], 0)} {
		got[1] = 'x'
		_ = append(got, 'y')
		if string(b) != "abcdef" {
			t.Fatal("memory is shared")
		}
	}
}
