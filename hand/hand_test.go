package hand_test

import (
	"math"
	"math/rand"
	"testing"

	"withy/api"
	"withy/hand"
)

const top = api.MaxCount

func open(n int) api.Hand       { return api.Hand{Last: n, Cur: n} }
func opening(n, p int) api.Hand { return api.Hand{Last: n, Prop: p} }
func over(n int) api.Hand       { return api.Hand{Last: n, Over: true} }
func op(kind, a, n int) api.Op  { return api.Op{Kind: kind, A: a, N: n} }

// Ha1: which ends may be, and that all calls refuse the others.
func TestCheck(t *testing.T) {
	for i, c := range []struct {
		h    api.Hand
		want api.Errno
	}{
		{open(1), api.OK}, {open(top), api.OK},
		{opening(0, 1), api.OK}, {opening(3, top), api.OK}, {opening(top-1, top), api.OK},
		{over(0), api.OK}, {over(top), api.OK},
		{api.Hand{}, api.ErrArg},
		{open(-1), api.ErrArg}, {open(top + 1), api.ErrArg},
		{api.Hand{Last: 4, Cur: 3}, api.ErrArg},
		{api.Hand{Last: 3, Cur: 4}, api.ErrArg},
		{api.Hand{Last: 3, Cur: 3, Prop: 4}, api.ErrArg},
		{api.Hand{Last: 3, Cur: 3, Over: true}, api.ErrArg},
		{opening(3, 3), api.ErrArg}, {opening(3, 2), api.ErrArg}, {opening(3, top+1), api.ErrArg}, {opening(-1, 1), api.ErrArg},
		{api.Hand{Last: 3, Prop: 4, Over: true}, api.ErrArg},
		{over(-1), api.ErrArg}, {over(top + 1), api.ErrArg},
		{api.Hand{Last: math.MinInt, Cur: math.MinInt}, api.ErrArg},
	} {
		if e := hand.Check(c.h); e != c.want {
			t.Errorf("%d: error %d", i, e)
		}
		if c.want == api.OK {
			continue
		}
		if h, w, s, e := hand.Hello(c.h, 1, 9); e != api.ErrArg || h != (api.Hand{}) || w || s {
			t.Errorf("%d: Hello: error %d", i, e)
		}
		if h, o, e := hand.Welcome(c.h, 1); e != api.ErrArg || h != (api.Hand{}) || o {
			t.Errorf("%d: Welcome: error %d", i, e)
		}
		if h, e := hand.Close(c.h, 9); e != api.ErrArg || h != (api.Hand{}) {
			t.Errorf("%d: Close: error %d", i, e)
		}
	}
}

// Ha1: limits that are none.
func TestLimit(t *testing.T) {
	for _, limit := range []int{0, -1, top + 1, math.MinInt, math.MaxInt} {
		if h, e := hand.New(0, limit); e != api.ErrArg || h != (api.Hand{}) {
			t.Errorf("New(0, %d): error %d", limit, e)
		}
		if h, w, s, e := hand.Hello(open(3), 4, limit); e != api.ErrArg || h != (api.Hand{}) || w || s {
			t.Errorf("Hello, limit %d: error %d", limit, e)
		}
		if h, e := hand.Close(open(3), limit); e != api.ErrArg || h != (api.Hand{}) {
			t.Errorf("Close, limit %d: error %d", limit, e)
		}
		if a, b, e := hand.Meet(limit, make([]api.Op, 1001)); e != api.ErrArg || a != (api.Hand{}) || b != (api.Hand{}) {
			t.Errorf("Meet, limit %d: error %d", limit, e)
		}
	}
}

// Ha1: new ends, and ends that are closed.
func TestNewClose(t *testing.T) {
	for _, c := range []struct {
		last, limit int
		want        api.Hand
		e           api.Errno
	}{
		{0, 9, opening(0, 1), api.OK}, {0, 1, opening(0, 1), api.OK}, {8, 9, opening(8, 9), api.OK}, {9, 9, over(9), api.OK},
		{10, 9, over(10), api.OK}, {top, top, over(top), api.OK}, {top - 1, top, opening(top-1, top), api.OK},
		{-1, 9, api.Hand{}, api.ErrArg}, {top + 1, 9, api.Hand{}, api.ErrArg}, {math.MaxInt, 9, api.Hand{}, api.ErrArg},
	} {
		if got, e := hand.New(c.last, c.limit); got != c.want || e != c.e {
			t.Errorf("New(%d, %d) = %v, error %d", c.last, c.limit, got, e)
		}
	}
	for _, c := range []struct{ h, want api.Hand }{
		{open(3), opening(3, 4)}, {open(8), opening(8, 9)}, {open(9), over(9)}, {open(10), over(10)},
		{opening(3, 7), opening(3, 7)}, {opening(3, 70), opening(3, 70)}, {over(3), over(3)},
	} {
		if got, e := hand.Close(c.h, 9); got != c.want || e != api.OK {
			t.Errorf("Close(%v) = %v, error %d", c.h, got, e)
		}
	}
}

// Ha2: proposals.
func TestHello(t *testing.T) {
	for _, c := range []struct {
		h             api.Hand
		p             int
		want          api.Hand
		welcome, ends bool
	}{
		{opening(0, 1), 3, opening(0, 3), true, false},
		{opening(0, 3), 3, opening(0, 3), true, false},
		{opening(0, 3), 2, opening(0, 3), false, false},
		{opening(5, 6), 5, opening(5, 6), false, false},
		{opening(0, 1), 9, opening(0, 9), true, false},
		{opening(0, 1), 10, opening(0, 1), false, false},
		{opening(0, 1), 0, opening(0, 1), false, false},
		{opening(0, 1), -1, opening(0, 1), false, false},
		{opening(0, 20), 20, opening(0, 20), false, false},
		{open(3), 3, open(3), true, false},
		{open(3), 4, opening(3, 4), true, true},
		{open(3), 9, opening(3, 9), true, true},
		{open(3), 10, open(3), false, false},
		{open(3), 2, open(3), false, false},
		{open(3), 0, open(3), false, false},
		{open(20), 20, open(20), false, false},
		{over(3), 4, over(3), false, false},
		{over(3), 3, over(3), false, false},
		{open(3), math.MaxInt, open(3), false, false},
	} {
		if got, welcome, ends, e := hand.Hello(c.h, c.p, 9); got != c.want || welcome != c.welcome || ends != c.ends || e != api.OK {
			t.Errorf("Hello(%v, %d) = %v, %v, %v, error %d", c.h, c.p, got, welcome, ends, e)
		}
	}
}

// Ha2: welcomes.
func TestWelcome(t *testing.T) {
	for _, c := range []struct {
		h    api.Hand
		p    int
		want api.Hand
		is   bool
	}{
		{opening(0, 3), 3, open(3), true},
		{opening(0, 3), 2, opening(0, 3), false},
		{opening(0, 3), 4, opening(0, 3), false},
		{open(3), 3, open(3), false},
		{open(3), 4, open(3), false},
		{over(3), 4, over(3), false},
		{over(3), 0, over(3), false},
		{open(3), 0, open(3), false},
		{opening(top-1, top), top, open(top), true},
	} {
		if got, is, e := hand.Welcome(c.h, c.p); got != c.want || is != c.is || e != api.OK {
			t.Errorf("Welcome(%v, %d) = %v, %v, error %d", c.h, c.p, got, is, e)
		}
	}
}

// Ha3: by hand.
func TestMeet(t *testing.T) {
	tick := func(a int) api.Op { return op(api.OpTick, a, 0) }
	come := func(a, n int) api.Op { return op(api.OpDeliver, a, n) }
	down := func(a int) api.Op { return op(api.OpDown, a, 0) }
	both := []api.Op{tick(1), come(1, 0), come(2, 0), tick(2), come(2, 0), come(1, 0)}
	then := func(more ...api.Op) []api.Op { return append(both[:len(both):len(both)], more...) }
	for _, c := range []struct {
		name    string
		weather []api.Op
		a, b    api.Hand
	}{
		{"nothing", nil, opening(0, 1), opening(0, 1)},
		{"one proposes", []api.Op{tick(1), come(1, 0), come(2, 0)}, open(1), opening(0, 1)},
		{"both", both, open(1), open(1)},
		{"none such", []api.Op{tick(0), tick(3), tick(-1), come(1, 0), come(0, 0), come(3, 0)}, opening(0, 1), opening(0, 1)},
		{"open ends send none", then(tick(1), come(1, 0), come(2, 0)), open(1), open(1)},
		{"nothing at all", then(tick(1), down(1), tick(1), come(1, 0), come(2, 0)), open(2), opening(1, 2)},
		{"an elder one is not welcome", then(down(1), tick(1), come(1, 0), come(2, 0), down(1), tick(2), come(2, 0), come(1, 0)), opening(2, 3), opening(1, 2)},
		{"one closes", then(down(1)), opening(1, 2), open(1)},
		{"and proposes", then(down(1), tick(1), come(1, 0)), opening(1, 2), opening(1, 2)},
		{"and is open", then(down(1), tick(1), come(1, 0), come(2, 0)), open(2), opening(1, 2)},
		{"closing again does nothing", then(down(1), down(1)), opening(1, 2), open(1)},
		{"a lost welcome", []api.Op{tick(1), come(1, 0), op(api.OpDrop, 2, 0), come(2, 0)}, opening(0, 1), opening(0, 1)},
		{"twice", []api.Op{tick(1), op(api.OpTwice, 1, 0), come(1, 0), come(1, 0), op(api.OpDrop, 2, 5), come(2, 0)}, open(1), opening(0, 1)},
		{"late", then(down(1), tick(1), tick(1), op(api.OpLate, 1, 0), come(1, -1), come(2, 0)), open(2), opening(1, 2)},
		{"all down", then(down(1), down(2)), opening(1, 2), opening(1, 2)},
		{"other acts", then(op(api.OpCut, 1, 0), op(api.OpUp, 1, 0), op(0, 1, 0), op(api.OpRound, 2, 0)), open(1), open(1)},
	} {
		a, b, e := hand.Meet(9, c.weather)
		if a != c.a || b != c.b || e != api.OK {
			t.Errorf("%s: %v, %v, error %d", c.name, a, b, e)
		}
	}
	if a, b, e := hand.Meet(1, then(down(1))); a != over(1) || b != open(1) || e != api.OK {
		t.Errorf("over: %v, %v, error %d", a, b, e)
	}
	if a, b, e := hand.Meet(9, make([]api.Op, 1001)); e != api.ErrLong || a != (api.Hand{}) || b != (api.Hand{}) {
		t.Errorf("too long: error %d", e)
	}
	if a, b, e := hand.Meet(9, make([]api.Op, 1000)); e != api.OK || a != opening(0, 1) || b != opening(0, 1) {
		t.Errorf("as long as may be: error %d", e)
	}
}

// Ha4: in whatever weather numbers only grow, and none opens twice at an end.
func TestGrow(t *testing.T) {
	r := rand.New(rand.NewSource(21))
	for range 400 {
		ends := [2]api.Hand{opening(0, 1), opening(0, 1)}
		opened := [2]map[int]int{{}, {}}
		for range 300 {
			i := r.Intn(2)
			before := ends[i]
			var is bool
			p := r.Intn(12)
			switch r.Intn(4) {
			case 0:
				ends[i], _, _, _ = hand.Hello(before, p, 9)
			case 1:
				ends[i], is, _ = hand.Welcome(before, before.Prop)
			case 2:
				ends[i], is, _ = hand.Welcome(before, p)
			case 3:
				ends[i], _ = hand.Close(before, 9)
			}
			if hand.Check(ends[i]) != api.OK || ends[i].Last < before.Last {
				t.Fatalf("%v became %v", before, ends[i])
			}
			if is {
				opened[i][ends[i].Cur]++
				if opened[i][ends[i].Cur] > 1 || before.Last >= ends[i].Cur {
					t.Fatalf("%v opened again", ends[i])
				}
			}
		}
	}
}

// Ha4: when all comes, and neither is over, both are open, by one number.
func TestTogether(t *testing.T) {
	r := rand.New(rand.NewSource(22))
	kinds := []int{api.OpTick, api.OpTick, api.OpDown, api.OpDeliver, api.OpDeliver, api.OpDrop, api.OpTwice, api.OpLate}
	for range 500 {
		var weather []api.Op
		for range r.Intn(40) {
			weather = append(weather, op(kinds[r.Intn(len(kinds))], 1+r.Intn(2), r.Intn(20)-10))
		}
		// There are at most as many signs as acts; each round all of them come, and what they call forth in the next.
		var rounds []api.Op
		for range 12 {
			rounds = append(rounds, op(api.OpTick, 1, 0), op(api.OpTick, 2, 0))
			for range 20 {
				rounds = append(rounds, op(api.OpDeliver, 1, 0), op(api.OpDeliver, 2, 0))
			}
		}
		a, b, e := hand.Meet(top, append(weather, rounds...))
		if e != api.OK || a != b || a.Cur == 0 {
			t.Fatalf("%v: %v, %v, error %d", weather, a, b, e)
		}
	}
}
