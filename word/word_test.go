package word_test

import (
	"bytes"
	"math"
	"math/rand"
	"testing"

	"withy/api"
	"withy/view"
	"withy/word"
)

const top = api.MaxCount

var (
	name  = api.Eid{Epoch: 0x01020304, Root: 9}
	grant = api.Choice{Kind: api.ChoiceGrant, A: 7, B: 3, Session: 0x05060708}
	done  = api.Choice{Kind: api.ChoiceDone}
	some  = api.View{Nodes: []int{2, 5}, Links: []api.Known{{Node: 2, Peer: 5, W: 258, Session: 1, Marked: true}, {Node: 5, Peer: 1, W: top, Session: top}}}
)

// many is a view of n links.
func many(n int) api.View {
	var v api.View
	for a := 1; a <= api.MaxNodes; a++ {
		v.Nodes = append(v.Nodes, a)
		for b := 1; b <= api.MaxNodes && len(v.Links) < n; b++ {
			if a != b {
				v.Links = append(v.Links, api.Known{Node: a, Peer: b, W: a, Session: b})
			}
		}
	}
	return v
}

// Wd1: which words may be, and that Encode refuses the others.
func TestCheck(t *testing.T) {
	for i, c := range []struct {
		w    api.Word
		want api.Errno
	}{
		{api.Word{}, api.ErrArg},
		{api.Word{Kind: -1}, api.ErrArg},
		{api.Word{Kind: api.WordKinds}, api.ErrArg},
		{api.Word{Kind: math.MaxInt}, api.ErrArg},

		{api.Word{Kind: api.WordWave, Eid: name}, api.OK},
		{api.Word{Kind: api.WordWave}, api.ErrArg},
		{api.Word{Kind: api.WordWave, Eid: api.Eid{Epoch: 1}}, api.ErrArg},
		{api.Word{Kind: api.WordWave, Eid: api.Eid{Epoch: top + 1, Root: 1}}, api.ErrArg},
		{api.Word{Kind: api.WordWave, Eid: name, View: some}, api.ErrArg},
		{api.Word{Kind: api.WordWave, Eid: name, View: api.View{Nodes: []int{1}}}, api.ErrArg},
		{api.Word{Kind: api.WordWave, Eid: name, View: api.View{Links: some.Links}}, api.ErrArg},
		{api.Word{Kind: api.WordWave, Eid: name, View: api.View{Links: some.Links[:1]}}, api.ErrArg},
		{api.Word{Kind: api.WordWave, Eid: name, Choice: done}, api.ErrArg},
		{api.Word{Kind: api.WordWave, Eid: name, View: api.View{Nodes: []int{}, Links: []api.Known{}}}, api.OK},

		{api.Word{Kind: api.WordEcho, Eid: name, View: some}, api.OK},
		{api.Word{Kind: api.WordEcho, Eid: name, View: many(1024)}, api.OK},
		{api.Word{Kind: api.WordEcho, Eid: name, View: many(1025)}, api.ErrArg},
		{api.Word{Kind: api.WordEcho, Eid: name}, api.ErrArg},
		{api.Word{Kind: api.WordEcho, Eid: name, View: api.View{Nodes: []int{5, 2}}}, api.ErrArg},
		{api.Word{Kind: api.WordEcho, View: some}, api.ErrArg},
		{api.Word{Kind: api.WordEcho, Eid: name, View: some, Choice: done}, api.ErrArg},

		{api.Word{Kind: api.WordChoice, Eid: name, Choice: grant}, api.OK},
		{api.Word{Kind: api.WordChoice, Eid: name, Choice: api.Choice{Kind: api.ChoiceEvict, A: 1, B: 2, Session: 1}}, api.OK},
		{api.Word{Kind: api.WordChoice, Eid: name, Choice: api.Choice{Kind: api.ChoiceEvict, A: 2, B: 1, Session: 1}}, api.ErrArg},
		{api.Word{Kind: api.WordChoice, Eid: name, Choice: grant, View: some}, api.ErrArg},
		{api.Word{Kind: api.WordChoice, Choice: grant}, api.ErrArg},
		{api.Word{Kind: api.WordChoice, Eid: name}, api.ErrArg},
		{api.Word{Kind: api.WordChoice, Eid: name, View: some}, api.ErrArg},
		{api.Word{Kind: api.WordChoice, Eid: name, Choice: done, View: some}, api.OK},
		{api.Word{Kind: api.WordChoice, Eid: name, Choice: done, View: many(1024)}, api.OK},
		{api.Word{Kind: api.WordChoice, Eid: name, Choice: done, View: many(1025)}, api.ErrArg},
		{api.Word{Kind: api.WordChoice, Eid: name, Choice: done}, api.ErrArg},
		{api.Word{Kind: api.WordChoice, Eid: name, Choice: api.Choice{Kind: api.ChoiceDone, A: 1}, View: some}, api.ErrArg},

		{api.Word{Kind: api.WordVow}, api.OK},
		{api.Word{Kind: api.WordRecant}, api.OK},
		{api.Word{Kind: api.WordFree}, api.OK},
		{api.Word{Kind: api.WordPart}, api.OK},
		{api.Word{Kind: api.WordVow, Eid: name}, api.ErrArg},
		{api.Word{Kind: api.WordVow, Eid: api.Eid{Root: 1}}, api.ErrArg},
		{api.Word{Kind: api.WordRecant, Choice: done}, api.ErrArg},
		{api.Word{Kind: api.WordFree, View: some}, api.ErrArg},
		{api.Word{Kind: api.WordPart, Choice: api.Choice{Session: 1}}, api.ErrArg},
	} {
		if e := word.Check(c.w); e != c.want {
			t.Errorf("%d: Check: error %d", i, e)
		}
		b, e := word.Encode(c.w)
		if e != c.want || e != api.OK && len(b) != 0 {
			t.Errorf("%d: Encode: error %d", i, e)
		}
		if e != api.OK {
			continue
		}
		if got, e := word.Decode(b); e != api.OK || !word.Same(got, c.w) {
			t.Errorf("%d came back as %v, error %d", i, got, e)
		}
	}
}

// Wd1: the bytes, one by one.
func TestBytes(t *testing.T) {
	for _, c := range []struct {
		w    api.Word
		want string
	}{
		{api.Word{Kind: api.WordVow}, "\x04" + string(make([]byte, 15))},
		{api.Word{Kind: api.WordWave, Eid: name}, "\x01\x01\x02\x03\x04\x09" + string(make([]byte, 10))},
		{api.Word{Kind: api.WordChoice, Eid: name, Choice: grant}, "\x03\x01\x02\x03\x04\x09\x02\x07\x03\x05\x06\x07\x08\x00\x00\x00"},
		{api.Word{Kind: api.WordEcho, Eid: name, View: some}, "\x02\x01\x02\x03\x04\x09" + string(make([]byte, 7)) + "\x02\x02\x05\x00\x02" +
			"\x02\x05\x00\x00\x01\x02\x00\x00\x00\x01\x01" + "\x05\x01\x7f\xff\xff\xff\x7f\xff\xff\xff\x00"},
	} {
		if b, e := word.Encode(c.w); e != api.OK || string(b) != c.want {
			t.Errorf("%x, error %d, not %x", b, e, c.want)
		}
	}
}

// Wd1: what is no word's bytes.
func TestRefused(t *testing.T) {
	echo, _ := word.Encode(api.Word{Kind: api.WordEcho, Eid: name, View: some})
	vow, _ := word.Encode(api.Word{Kind: api.WordVow})
	refuse := func(what string, b []byte) {
		t.Helper()
		if w, e := word.Decode(b); e != api.ErrText || !word.Same(w, api.Word{}) {
			t.Errorf("%s: %v, error %d", what, w, e)
		}
	}
	for n := range echo {
		refuse("too short", echo[:n])
	}
	for n := range vow {
		refuse("too short", vow[:n])
	}
	refuse("too long", append(bytes.Clone(echo), 0))
	refuse("too long", append(bytes.Clone(vow), 0))
	for at, x := range map[int]byte{0: 1, 1: 0x80, 5: 0, 6: 1, 13: 1, 14: 0, 17: 1, 28: 2, 39: 0xff} {
		b := bytes.Clone(echo)
		b[at] = x
		refuse("another byte", b)
	}
	for at := range vow {
		for x := 1; x < 256; x++ {
			b := bytes.Clone(vow)
			b[at] ^= byte(x)
			if w, e := word.Decode(b); e == api.OK && (at != 0 || w.Kind < 5 || w.Kind > 7) {
				t.Errorf("%x is read as %v", b, w)
			}
		}
	}
	refuse("noughts", make([]byte, 16))
	refuse("much", bytes.Repeat([]byte{0xff}, 70000))
}

// Wd2: what is read has just these bytes.
func TestOnly(t *testing.T) {
	r := rand.New(rand.NewSource(17))
	echo, _ := word.Encode(api.Word{Kind: api.WordEcho, Eid: name, View: some})
	choice, _ := word.Encode(api.Word{Kind: api.WordChoice, Eid: name, Choice: done, View: some})
	read := 0
	for i := range 40000 {
		b := bytes.Clone(echo)
		if i%2 == 0 {
			b = bytes.Clone(choice)
		}
		b[r.Intn(len(b))] = byte(r.Intn(8))
		w, e := word.Decode(b)
		if e != api.OK {
			continue
		}
		read++
		if back, e := word.Encode(w); e != api.OK || !bytes.Equal(b, back) {
			t.Fatalf("%x became %x, error %d", b, back, e)
		}
	}
	if read == 0 {
		t.Error("nothing was read")
	}
}

// Wd1: which words are alike.
func TestSame(t *testing.T) {
	w := api.Word{Kind: api.WordChoice, Eid: name, Choice: grant, View: some}
	var all []api.Word
	for i := range 4 {
		x := w
		switch i {
		case 0:
			x.Kind++
		case 1:
			x.Eid.Epoch++
		case 2:
			x.Choice.B++
		case 3:
			x.View = api.View{Nodes: []int{2}}
		}
		all = append(all, x)
	}
	for i, x := range all {
		if word.Same(w, x) || word.Same(x, w) {
			t.Errorf("%d is the same", i)
		}
	}
	if !word.Same(w, w) || !word.Same(api.Word{}, api.Word{View: api.View{Nodes: []int{}}}) || view.Same(some, api.View{}) {
		t.Error("alike, but not the same")
	}
}
