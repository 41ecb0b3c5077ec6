package octet_test

import (
	"bytes"
	"math"
	"math/rand"
	"testing"

	"withy/api"
	"withy/octet"
)

// Oc1: numbers of a width.
func TestPut(t *testing.T) {
	for _, c := range []struct {
		n, width int
		want     string
		e        api.Errno
	}{
		{300, 2, "\x01\x2c", api.OK},
		{0, 1, "\x00", api.OK},
		{255, 1, "\xff", api.OK},
		{256, 1, "", api.ErrLong},
		{-1, 1, "", api.ErrLong},
		{65535, 2, "\xff\xff", api.OK},
		{65536, 2, "", api.ErrLong},
		{1<<24 - 1, 3, "\xff\xff\xff", api.OK},
		{1 << 24, 3, "", api.ErrLong},
		{api.MaxCount, 4, "\x7f\xff\xff\xff", api.OK},
		{api.MaxCount + 1, 4, "", api.ErrLong},
		{math.MinInt, 4, "", api.ErrLong},
		{math.MaxInt, 4, "", api.ErrLong},
		{5, 4, "\x00\x00\x00\x05", api.OK},
		{0, 0, "", api.ErrArg},
		{0, 5, "", api.ErrArg},
		{-1, -1, "", api.ErrArg},
		{0, math.MaxInt, "", api.ErrArg},
		{0, math.MinInt, "", api.ErrArg},
	} {
		for _, ahead := range []string{"", "xy"} {
			b, e := octet.Put([]byte(ahead), c.n, c.width)
			want := ahead + c.want
			if c.e != api.OK {
				want = ""
			}
			if e != c.e || string(b) != want {
				t.Errorf("Put(%q, %d, %d) = %x, error %d", ahead, c.n, c.width, b, e)
			}
		}
	}
}

// Oc1: lists.
func TestPutList(t *testing.T) {
	if b, e := octet.PutList([]byte("x"), []byte("abc")); e != api.OK || string(b) != "x\x00\x03abc" {
		t.Errorf("%x, error %d", b, e)
	}
	if b, e := octet.PutList(nil, nil); e != api.OK || string(b) != "\x00\x00" {
		t.Errorf("%x, error %d", b, e)
	}
	long := make([]byte, 65535)
	if b, e := octet.PutList(nil, long); e != api.OK || len(b) != 65537 || b[0] != 0xff || b[1] != 0xff {
		t.Errorf("of 65535: %d, error %d", len(b), e)
	}
	if b, e := octet.PutList([]byte("x"), append(long, 0)); e != api.ErrLong || len(b) != 0 {
		t.Errorf("of 65536: %d, error %d", len(b), e)
	}
}

// Oc2: what is read, and what is wrong.
func TestScan(t *testing.T) {
	s := octet.New([]byte("\x05\x01\x2c\x00\x02ab\x01"))
	if s.Take(1) != 5 || s.Take(2) != 300 || string(s.List()) != "ab" || s.Left() != 1 || s.Err() != api.OK {
		t.Error("what is there is not read")
	}
	if s.End() != api.ErrText || s.Err() != api.OK {
		t.Error("bytes are left, and that alone is not wrong")
	}
	if s.Take(1) != 1 || s.End() != api.OK || s.Left() != 0 {
		t.Error("the end")
	}
	if s.Take(1) != 0 || s.Err() != api.ErrText || s.End() != api.ErrText {
		t.Error("behind the end")
	}
}

// Oc2: what was wrong first stays so, and nothing moves any more.
func TestWrong(t *testing.T) {
	for _, c := range []struct {
		name string
		b    string
		do   func(s *octet.Scan) bool
		e    api.Errno
	}{
		{"width 0", "abcd", func(s *octet.Scan) bool { return s.Take(0) == 0 }, api.ErrArg},
		{"width 5", "abcdef", func(s *octet.Scan) bool { return s.Take(5) == 0 }, api.ErrArg},
		{"width -1", "", func(s *octet.Scan) bool { return s.Take(-1) == 0 }, api.ErrArg},
		{"width 9, of no bytes", "", func(s *octet.Scan) bool { return s.Take(9) == 0 }, api.ErrArg},
		{"too few", "ab", func(s *octet.Scan) bool { return s.Take(3) == 0 }, api.ErrText},
		{"too much", "\x80\x00\x00\x00", func(s *octet.Scan) bool { return s.Take(4) == 0 }, api.ErrText},
		{"no length", "a", func(s *octet.Scan) bool { return len(s.List()) == 0 }, api.ErrText},
		{"too short", "\x00\x03ab", func(s *octet.Scan) bool { return len(s.List()) == 0 }, api.ErrText},
	} {
		s := octet.New([]byte(c.b))
		if !c.do(s) || s.Err() != c.e || s.End() != c.e || s.Left() != len(c.b) {
			t.Errorf("%s: error %d, %d, left %d", c.name, s.Err(), s.End(), s.Left())
		}
		if s.Take(1) != 0 || len(s.List()) != 0 || s.Take(77) != 0 || s.Err() != c.e || s.End() != c.e || s.Left() != len(c.b) {
			t.Errorf("%s: it moves", c.name)
		}
	}
}

// Of a Scan that New did not give, and of a nil one.
func TestNoScan(t *testing.T) {
	s := &octet.Scan{}
	if s.Left() != 0 || s.Err() != api.OK || s.End() != api.OK {
		t.Error("of the zero one")
	}
	if len(s.List()) != 0 || s.Err() != api.ErrText || s.Take(0) != 0 || s.Err() != api.ErrText {
		t.Error("the zero one is as of no bytes")
	}
	var none *octet.Scan
	if none.Take(1) != 0 || len(none.List()) != 0 || none.Left() != 0 || none.Err() != api.OK || none.End() != api.OK || none.Take(0) != 0 || none.Err() != api.OK {
		t.Error("of nil")
	}
}

// Oc3: what is put is taken, and the order is that of the bytes.
func TestFollows(t *testing.T) {
	r := rand.New(rand.NewSource(4))
	for range 3000 {
		width := 1 + r.Intn(4)
		top := min(1<<(8*width), api.MaxCount+1)
		n, m := r.Intn(top), r.Intn(top)
		a, _ := octet.Put(nil, n, width)
		b, _ := octet.Put(nil, m, width)
		if octet.New(a).Take(width) != n {
			t.Fatalf("%d of %d", n, width)
		}
		if len(a) != width || (n < m) != (bytes.Compare(a, b) < 0) {
			t.Fatalf("%d, %d of %d are ordered otherwise", n, m, width)
		}
		l := make([]byte, r.Intn(300))
		r.Read(l)
		c, _ := octet.PutList(a, l)
		s := octet.New(c)
		if s.Take(width) != n || !bytes.Equal(s.List(), l) || s.End() != api.OK {
			t.Fatalf("a list of %d", len(l))
		}
	}
}

// R3: nothing is shared, nothing behind an end is changed.
func TestMemory(t *testing.T) {
	room := []byte("abcdefgh")
	b, _ := octet.Put(room[:2], 7, 4)
	c, _ := octet.PutList(room[:2], []byte("zz"))
	if string(room) != "abcdefgh" {
		t.Error("the room behind was changed")
	}
	b[0], c[0] = 'x', 'x'
	if room[0] != 'a' {
		t.Error("Put shares memory")
	}
	in := []byte("\x00\x02ab\x05")
	s := octet.New(in)
	in[2] = 'x'
	l := s.List()
	if string(l) != "ab" {
		t.Error("New keeps what was handed in")
	}
	_ = append(l, 99)
	if s.Take(1) != 5 {
		t.Error("List shares its spare room")
	}
}
