package crc_test

import (
	"bytes"
	"math/rand"
	"testing"

	"withy/api"
	"withy/crc"
)

// plain is the sum as the chapter says it, with a register of bits.
func plain(b []byte) uint32 {
	reg := [32]bool{}
	for i := range reg {
		reg[i] = true
	}
	for _, x := range b {
		for i := 7; i >= 0; i-- {
			out := reg[31]
			copy(reg[1:], reg[:31])
			reg[0] = false
			if out != (x>>i&1 == 1) {
				for j := range reg {
					reg[j] = reg[j] != (0x04C11DB7>>j&1 == 1)
				}
			}
		}
	}
	var sum uint32
	for i, on := range reg {
		if !on {
			sum |= 1 << i
		}
	}
	return sum
}

func some(r *rand.Rand, n int) []byte {
	b := make([]byte, n)
	r.Read(b)
	return b
}

// Cr1: the sum, and that it goes on.
func TestSum(t *testing.T) {
	if crc.Of([]byte("123456789")) != 0xFC891918 {
		t.Error("the chapter's example")
	}
	if crc.Of(nil) != 0 || crc.Of([]byte{}) != 0 || crc.More(77, nil) != 77 {
		t.Error("of no bytes")
	}
	r := rand.New(rand.NewSource(1))
	for n := range 70 {
		b := some(r, n)
		if crc.Of(b) != plain(b) {
			t.Fatalf("Of %x: %x", b, crc.Of(b))
		}
		for cut := range n + 1 {
			if crc.More(crc.Of(b[:cut]), b[cut:]) != crc.Of(b) {
				t.Fatalf("More %x at %d", b, cut)
			}
		}
	}
}

// Cr1: what is sealed opens; what is not, or is too short, does not.
func TestSealOpen(t *testing.T) {
	r := rand.New(rand.NewSource(2))
	for n := range 40 {
		b := some(r, n)
		sum := crc.Of(b)
		s := crc.Seal(b)
		want := append(bytes.Clone(b), byte(sum>>24), byte(sum>>16), byte(sum>>8), byte(sum))
		if !bytes.Equal(s, want) {
			t.Fatalf("Seal %x: %x", b, s)
		}
		got, e := crc.Open(s)
		if e != api.OK || !bytes.Equal(got, b) {
			t.Fatalf("Open %x: %x, error %d", s, got, e)
		}
		s[len(s)-1] ^= 1
		if got, e := crc.Open(s); e != api.ErrSum || len(got) != 0 {
			t.Fatalf("another sum: %x, error %d", got, e)
		}
	}
	for n := range 4 {
		if got, e := crc.Open(make([]byte, n)); e != api.ErrText || len(got) != 0 {
			t.Errorf("of %d bytes: %x, error %d", n, got, e)
		}
	}
	if got, e := crc.Open(make([]byte, 4)); e != api.OK || len(got) != 0 {
		t.Errorf("of no bytes, sealed: %x, error %d", got, e)
	}
}

// R3: answers are new memory, and what is behind an argument's end stays.
func TestMemory(t *testing.T) {
	room := []byte("abcdefgh")
	s := crc.Seal(room[:3])
	if string(room) != "abcdefgh" {
		t.Error("the room behind was changed")
	}
	got, _ := crc.Open(s)
	got[0] = 'x'
	if s[0] != 'a' {
		t.Error("Open shares memory")
	}
	if full := got[:cap(got)]; len(full) > 3 {
		full[3] ^= 0xFF
		if _, e := crc.Open(append([]byte("a"), s[1:]...)); e != api.OK {
			t.Error("Open shares its spare room")
		}
	}
}

// Cr2: every burst of 32 bits at most is told.
func TestBursts(t *testing.T) {
	r := rand.New(rand.NewSource(3))
	for n := range 12 {
		s := crc.Seal(some(r, n))
		for at := range len(s) * 8 {
			for range 60 {
				pattern := r.Uint32() >> r.Intn(32) << r.Intn(32)
				b, turned := burst(s, at, pattern)
				if _, e := crc.Open(b); turned != (e == api.ErrSum) {
					t.Fatalf("%x at %d by %x: error %d", s, at, pattern, e)
				}
			}
			for one := range 32 {
				b, turned := burst(s, at, 1<<one)
				if _, e := crc.Open(b); turned != (e == api.ErrSum) {
					t.Fatalf("%x at %d, bit %d: error %d", s, at, one, e)
				}
			}
		}
	}
}

// burst turns bits from one on, by a pattern's, the highest first.
func burst(b []byte, at int, pattern uint32) ([]byte, bool) {
	b = bytes.Clone(b)
	turned := false
	for i := range 32 {
		if k := at + i; k < len(b)*8 && pattern>>(31-i)&1 == 1 {
			b[k/8] ^= 0x80 >> (k % 8)
			turned = true
		}
	}
	return b, turned
}
