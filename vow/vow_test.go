package vow_test

import (
	"math"
	"math/rand"
	"slices"
	"testing"

	"withy/api"
	"withy/vow"
)

const top = api.MaxCount

var (
	none    = api.Vow{}
	theirs  = api.Vow{Theirs: true}
	open    = api.Vow{Mine: api.VowOpen}
	recant  = api.Vow{Mine: api.VowRecant}
	bound   = api.Vow{Bound: true}
	all     = []api.Vow{none, theirs, open, recant, bound}
	noTold  = api.Told{}
	saysVow = api.Told{Words: []int{api.WordVow}}
)

func owes(v api.Vow, n int) api.Vow { v.Owed = n; return v }

func same(a, b api.Told) bool {
	return slices.Equal(a.Words, b.Words) && a.Bound == b.Bound && a.Parted == b.Parted && a.Freed == b.Freed
}

// Vo1: which ends may be, and what all tell of others.
func TestCheck(t *testing.T) {
	for mine := -1; mine < 5; mine++ {
		for bits := range 4 {
			for _, owed := range []int{0, 1, top, -1, top + 1, math.MinInt, math.MaxInt} {
				v := api.Vow{Mine: mine, Theirs: bits&1 > 0, Bound: bits&2 > 0, Owed: owed}
				may := slices.Contains(all, owes(v, 0)) && owed >= 0 && owed <= top
				if (vow.Check(v) == api.OK) != may || !may && vow.Check(v) != api.ErrArg {
					t.Errorf("Check(%v): error %d", v, vow.Check(v))
				}
				if !may {
					refused(t, v)
				}
			}
		}
	}
}

func refused(t *testing.T, v api.Vow) {
	t.Helper()
	zero := func(call string, got api.Vow, told api.Told, e api.Errno) {
		if e != api.ErrArg || got != none || !same(told, noTold) {
			t.Errorf("%s(%v): error %d", call, v, e)
		}
	}
	got, told, e := vow.Grant(v)
	zero("Grant", got, told, e)
	got, told, e = vow.Recant(v)
	zero("Recant", got, told, e)
	got, told, e = vow.Part(v)
	zero("Part", got, told, e)
	for kind := range api.WordKinds + 1 {
		got, told, e = vow.Hear(v, kind)
		zero("Hear", got, told, e)
	}
}

// Vo1: what an end does.
func TestDo(t *testing.T) {
	for _, c := range []struct {
		name string
		do   func(api.Vow) (api.Vow, api.Told, api.Errno)
		v    api.Vow
		want api.Vow
		told api.Told
	}{
		{"Grant", vow.Grant, none, open, saysVow},
		{"Grant", vow.Grant, theirs, bound, api.Told{Words: []int{api.WordVow}, Bound: true}},
		{"Grant", vow.Grant, open, open, noTold},
		{"Grant", vow.Grant, recant, recant, noTold},
		{"Grant", vow.Grant, bound, bound, noTold},
		{"Recant", vow.Recant, none, none, noTold},
		{"Recant", vow.Recant, theirs, theirs, noTold},
		{"Recant", vow.Recant, open, recant, api.Told{Words: []int{api.WordRecant}}},
		{"Recant", vow.Recant, recant, recant, noTold},
		{"Recant", vow.Recant, bound, bound, noTold},
		{"Part", vow.Part, none, none, noTold},
		{"Part", vow.Part, theirs, theirs, noTold},
		{"Part", vow.Part, open, open, noTold},
		{"Part", vow.Part, recant, recant, noTold},
		{"Part", vow.Part, bound, none, api.Told{Words: []int{api.WordPart}, Parted: true}},
	} {
		for _, owed := range []int{0, 3, top} {
			if got, told, e := c.do(owes(c.v, owed)); e != api.OK || got != owes(c.want, owed) || !same(told, c.told) {
				t.Errorf("%s(%v): %v, %v, error %d", c.name, owes(c.v, owed), got, told, e)
			}
		}
	}
}

// Vo2: what an end hears.
func TestHear(t *testing.T) {
	binds, free := api.Told{Bound: true}, api.Told{Words: []int{api.WordFree}}
	for _, c := range []struct {
		v    api.Vow
		kind int
		want api.Vow
		told api.Told
	}{
		{none, api.WordVow, theirs, noTold},
		{theirs, api.WordVow, theirs, noTold},
		{open, api.WordVow, bound, binds},
		{owes(open, 3), api.WordVow, owes(bound, 3), binds},
		{recant, api.WordVow, owes(bound, 1), binds},
		{owes(recant, 3), api.WordVow, owes(bound, 4), binds},
		{owes(recant, top), api.WordVow, owes(bound, top), binds},
		{owes(recant, top-1), api.WordVow, owes(bound, top), binds},
		{bound, api.WordVow, bound, noTold},
		{none, api.WordRecant, none, free},
		{owes(theirs, 2), api.WordRecant, owes(none, 2), free},
		{open, api.WordRecant, open, free},
		{recant, api.WordRecant, recant, free},
		{bound, api.WordRecant, bound, free},
		{none, api.WordFree, none, noTold},
		{theirs, api.WordFree, theirs, noTold},
		{open, api.WordFree, open, noTold},
		{recant, api.WordFree, none, api.Told{Freed: true}},
		{owes(recant, 2), api.WordFree, owes(recant, 1), noTold},
		{owes(recant, 1), api.WordFree, recant, noTold},
		{owes(bound, 1), api.WordFree, bound, noTold},
		{bound, api.WordFree, bound, noTold},
		{none, api.WordPart, none, noTold},
		{theirs, api.WordPart, theirs, noTold},
		{open, api.WordPart, open, noTold},
		{recant, api.WordPart, recant, noTold},
		{owes(bound, 2), api.WordPart, owes(none, 2), api.Told{Parted: true}},
	} {
		if got, told, e := vow.Hear(c.v, c.kind); e != api.OK || got != c.want || !same(told, c.told) {
			t.Errorf("Hear(%v, %d): %v, %v, error %d", c.v, c.kind, got, told, e)
		}
	}
	for _, v := range all {
		for _, kind := range []int{0, -1, api.WordWave, api.WordEcho, api.WordChoice, api.WordKinds, math.MaxInt} {
			if got, told, e := vow.Hear(owes(v, 2), kind); e != api.OK || got != owes(v, 2) || !same(told, noTold) {
				t.Errorf("Hear(%v, %d): %v, error %d", v, kind, got, e)
			}
		}
	}
}

func act(kind, a int) api.Op { return api.Op{Kind: kind, A: a, N: 7} }

// Vo3: by hand.
func TestDance(t *testing.T) {
	up1, up2, come1, come2 := act(api.OpUp, 1), act(api.OpUp, 2), act(api.OpDeliver, 1), act(api.OpDeliver, 2)
	late1 := act(api.OpLate, 1)
	for i, c := range []struct {
		weather []api.Op
		a, b    api.Vow
		n       int
	}{
		{nil, none, none, 0},
		{[]api.Op{up1}, open, none, 1},
		{[]api.Op{up1, come1}, open, theirs, 0},
		{[]api.Op{up1, come2}, open, none, 1},
		{[]api.Op{up1, up2, come1, come2}, bound, bound, 0},
		{[]api.Op{up1, up2, come1}, open, bound, 1},
		{[]api.Op{up1, come1, up2, come2}, bound, bound, 0},
		{[]api.Op{up1, late1, come1, come1, come2}, none, none, 0},
		{[]api.Op{up1, late1, come1}, recant, theirs, 1},
		{[]api.Op{up1, late1, up2, come2}, owes(bound, 1), open, 2},
		{[]api.Op{up1, late1, up2, come2, come1, come1, come2}, bound, bound, 0},
		{[]api.Op{up1, up2, come1, come2, act(api.OpDown, 1)}, none, bound, 1},
		{[]api.Op{up1, up2, come1, come2, act(api.OpDown, 1), come1}, none, none, 0},
		{[]api.Op{act(api.OpUp, 0), act(api.OpUp, 3), act(api.OpUp, -1), act(api.OpDeliver, 1), act(api.OpTick, 1), act(api.OpDrop, 1), act(0, 2)}, none, none, 0},
		{[]api.Op{up1, act(api.OpDrop, 1), act(api.OpTwice, 1)}, open, none, 1},
	} {
		if a, b, n, e := vow.Dance(c.weather); a != c.a || b != c.b || n != c.n || e != api.OK {
			t.Errorf("%d: %v, %v, %d, error %d", i, a, b, n, e)
		}
	}
	if a, b, n, e := vow.Dance(make([]api.Op, 1001)); e != api.ErrLong || a != none || b != none || n != 0 {
		t.Errorf("too long: error %d", e)
	}
	if _, _, _, e := vow.Dance(make([]api.Op, 1000)); e != api.OK {
		t.Errorf("as long as may be: error %d", e)
	}
}

// Vo4: in whatever weather, once nothing is on the ways.
func TestTogether(t *testing.T) {
	r := rand.New(rand.NewSource(27))
	kinds := []int{api.OpUp, api.OpLate, api.OpDown, api.OpDeliver, api.OpDeliver, api.OpDeliver}
	for range 20000 {
		var weather []api.Op
		for range r.Intn(40) {
			weather = append(weather, act(kinds[r.Intn(len(kinds))], 1+r.Intn(2)))
		}
		for range 200 {
			weather = append(weather, act(api.OpDeliver, 1), act(api.OpDeliver, 2))
		}
		a, b, n, e := vow.Dance(weather)
		if n != 0 || e != api.OK || vow.Check(a) != api.OK || vow.Check(b) != api.OK {
			t.Fatalf("%v: %d on the ways, error %d", weather, n, e)
		}
		if a.Bound != b.Bound || a.Mine == api.VowRecant || b.Mine == api.VowRecant || a.Mine == api.VowOpen && b.Mine == api.VowOpen || a.Owed != 0 || b.Owed != 0 {
			t.Fatalf("%v: %v, %v", weather, a, b)
		}
		if (a.Mine == api.VowOpen) != b.Theirs || (b.Mine == api.VowOpen) != a.Theirs {
			t.Fatalf("%v: a vow that the other end did not hear: %v, %v", weather, a, b)
		}
	}
}
