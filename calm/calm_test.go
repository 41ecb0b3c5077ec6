package calm_test

import (
	"math"
	"math/rand"
	"slices"
	"testing"

	"withy/api"
	"withy/calm"
	"withy/census"
	"withy/core"
	"withy/field"
	"withy/frame"
)

const top = api.MaxCount

var wide = api.Limits{Epoch: top, Session: top, Seq: top}

func made(t *testing.T, n int, l api.Limits) *field.Field {
	t.Helper()
	f, e := field.New(n, l)
	if e != api.OK {
		t.Fatalf("New(%d): error %d", n, e)
	}
	return f
}

func up(a, b, w int) api.Op { return api.Op{Kind: api.OpUp, A: a, B: b, W: w} }
func down(a, b int) api.Op  { return api.Op{Kind: api.OpDown, A: a, B: b} }

var (
	round = api.Op{Kind: api.OpRound}
	tick  = api.Op{Kind: api.OpTick}
)

func do(f *field.Field, ops ...api.Op) {
	for _, o := range ops {
		f.Do(o)
	}
}

// Ca1: how many rounds are enough.
func TestEnough(t *testing.T) {
	for _, c := range [][4]int{
		{0, 0, 0, 164}, {1, 0, 0, 244}, {2, 1, 3, 103 + 16*4*5}, {16, 120, 1000000, 1000100 + 16*18*138},
		{17, 0, 0, 0}, {-1, 0, 0, 0}, {2, 121, 0, 0}, {2, -1, 0, 0}, {2, 1, -1, 0}, {2, 1, 1000001, 0},
		{math.MaxInt, math.MaxInt, math.MaxInt, 0}, {math.MinInt, 0, 0, 0},
	} {
		if got := calm.Enough(c[0], c[1], c[2]); got != c[3] {
			t.Errorf("Enough%v = %d", c[:3], got)
		}
	}
}

// Of fields that layer 26 did not give.
func TestNoField(t *testing.T) {
	for _, f := range []*field.Field{nil, {}} {
		if n, is := calm.Settle(f); calm.Rest(f) || calm.Keep(f, 3) || calm.Keep(f, 0) || n != 0 || is {
			t.Errorf("Settle: %d, %v", n, is)
		}
	}
}

// settled is a field at rest, of links as they are given.
func settled(t *testing.T, n int, ops ...api.Op) *field.Field {
	t.Helper()
	f := made(t, n, wide)
	do(f, ops...)
	settle(t, f)
	return f
}

func settle(t *testing.T, f *field.Field) int {
	t.Helper()
	rounds, is := calm.Settle(f)
	if !is || !calm.Rest(f) {
		t.Fatalf("no rest behind %d rounds", rounds)
	}
	if !census.Done(f.Cores(), f.Air().Ups) || !census.Answers(f.Cores(), f.Air().Ups) {
		t.Fatal("at rest, but not right")
	}
	return rounds
}

// The chapter's example; and that what is at rest needs no round.
func TestSettle(t *testing.T) {
	f := made(t, 2, wide)
	if n, is := calm.Settle(f); n != 0 || !is || !calm.Rest(f) {
		t.Errorf("a new field: %d, %v", n, is)
	}
	do(f, up(1, 2, 5))
	if calm.Rest(f) {
		t.Error("a link that is up, and not open")
	}
	n := settle(t, f)
	if n == 0 {
		t.Error("no round was done")
	}
	g := made(t, 2, wide)
	do(g, up(1, 2, 5))
	for range n - 1 {
		do(g, round)
		if calm.Rest(g) {
			t.Error("at rest earlier")
		}
	}
	do(g, round)
	if !calm.Rest(g) || !slices.EqualFunc(f.Cores(), g.Cores(), core.Same) {
		t.Error("not as many rounds")
	}
	if again, is := calm.Settle(f); again != 0 || !is {
		t.Errorf("again: %d, %v", again, is)
	}
}

// Ca1: what no field at rest is.
func TestRest(t *testing.T) {
	links := []api.Op{up(1, 2, 5), up(2, 3, 1), up(1, 3, 2)}
	for name, ops := range map[string][]api.Op{
		"a link more is up":     {up(1, 4, 9)},
		"a link is down":        {down(1, 3)},
		"one not bound is down": {down(1, 2)},
		"another weight":        {up(2, 3, 7)},
		"no sign lately":        {tick, tick, tick, tick},
	} {
		f := settled(t, 4, links...)
		do(f, ops...)
		if calm.Rest(f) {
			t.Errorf("%s: at rest", name)
		}
		settle(t, f)
	}
	f := settled(t, 4, links...)
	do(f, tick)
	if !calm.Rest(f) {
		t.Error("one tick more is rest still")
	}
	// Ends that are open, of a link that is down; or down at one end only.
	f = settled(t, 2, up(1, 2, 5))
	do(f, down(1, 2))
	for i := range 6 {
		if calm.Rest(f) {
			t.Fatalf("at rest at tick %d", i)
		}
		do(f, tick)
	}
	if !calm.Rest(f) {
		t.Error("silence is rest")
	}
}

// Ca1: each end must have heard a sign in its last three ticks.
func TestLately(t *testing.T) {
	for id := 1; id <= 2; id++ {
		f := settled(t, 2, up(1, 2, 5))
		met := map[int]int{}
		for range 5 {
			quiet := f.Links(id)[0].Beat.Quiet
			met[quiet]++
			if calm.Rest(f) != (quiet <= 3) {
				t.Errorf("node %d, %d ticks without a sign: %v", id, quiet, calm.Rest(f))
			}
			do(f, api.Op{Kind: api.OpTick, A: id})
		}
		if met[3] == 0 || met[4] == 0 {
			t.Errorf("just %v", met)
		}
	}
}

// Ca1: data in the air is no rest.
func TestQuiet(t *testing.T) {
	f := made(t, 2, wide)
	do(f, up(1, 2, 5))
	for range 40 {
		do(f, tick)
		for n := len(f.Air().Flights); n > 0; n-- {
			if d, _ := frame.Decode(f.Air().Flights[0].B); d.Kind == api.FrameData && len(f.Air().Flights) < 30 {
				do(f, api.Op{Kind: api.OpTwice})
			}
			do(f, api.Op{Kind: api.OpDeliver})
		}
	}
	if f.Queued() != 0 || f.Quiet() || calm.Rest(f) {
		t.Errorf("%d are queued, quiet: %v", f.Queued(), f.Quiet())
	}
	settle(t, f)
}

// Ca1: Keep, and how many rounds it does.
func TestKeep(t *testing.T) {
	links := []api.Op{up(1, 2, 5), up(2, 3, 1)}
	for rounds, want := range map[int]int{0: 0, -1: 0, math.MinInt: 0, 1: 1, 7: 7, 100: 100, 101: 100, math.MaxInt: 100} {
		f, g := settled(t, 3, links...), settled(t, 3, links...)
		if !calm.Keep(f, rounds) {
			t.Errorf("Keep(%d)", rounds)
		}
		for range want {
			do(g, round)
		}
		for id := 1; id <= 3; id++ {
			if !slices.EqualFunc(f.Links(id), g.Links(id), func(a, b api.Link) bool { return a.Beat == b.Beat }) {
				t.Errorf("Keep(%d) did other rounds", rounds)
			}
		}
	}
	over := made(t, 2, api.Limits{Epoch: 1, Session: 9, Seq: 9})
	do(over, up(1, 2, 3))
	for range 20 {
		do(over, round)
	}
	if calm.Keep(over, 5) || calm.Keep(over, 0) {
		t.Error("what is over is no rest, though it stays as it is")
	}
	f, g := made(t, 3, wide), made(t, 3, wide)
	do(f, links...)
	do(g, links...)
	if calm.Keep(f, 0) || calm.Keep(f, 90) {
		t.Error("it was not at rest")
	}
	for range 90 {
		do(g, round)
	}
	if !calm.Rest(f) || !slices.EqualFunc(f.Cores(), g.Cores(), core.Same) {
		t.Error("its rounds are done all the same")
	}
}

// some is an act of any kind.
func some(r *rand.Rand, n int) api.Op {
	kinds := []int{api.OpTick, api.OpTick, api.OpDeliver, api.OpDeliver, api.OpDeliver, api.OpDeliver, api.OpDrop, api.OpTwice, api.OpLate, api.OpCut, api.OpBurst, api.OpUp, api.OpUp, api.OpDown, api.OpRound}
	o := api.Op{Kind: kinds[r.Intn(len(kinds))], A: 1 + r.Intn(n), B: 1 + r.Intn(n), N: r.Intn(60), W: r.Intn(6)}
	if o.Kind == api.OpTick && r.Intn(2) == 0 {
		o.A = 0
	}
	if o.Kind == api.OpBurst {
		o.B, o.W = r.Intn(600), r.Int()
	}
	return o
}

// Ca2, Ca3; P1, P2, P3: whatever was done.
func TestWhatever(t *testing.T) {
	r := rand.New(rand.NewSource(38))
	for range 120 {
		n := 1 + r.Intn(6)
		f := made(t, n, wide)
		for range r.Intn(300) {
			do(f, some(r, n))
			if !census.Safe(f.Cores()) {
				t.Fatalf("no forest: %v", census.Bound(f.Cores()))
			}
		}
		settle(t, f)
		if !calm.Keep(f, 20) {
			t.Fatal("it does not stay at rest")
		}
	}
}

// Ca2: all links went down: what was bound is parted in silence.
func TestAllDown(t *testing.T) {
	r := rand.New(rand.NewSource(39))
	for range 20 {
		n := 2 + r.Intn(5)
		f := made(t, n, wide)
		for range 200 {
			do(f, some(r, n))
		}
		for a := 1; a <= n; a++ {
			for b := a + 1; b <= n; b++ {
				do(f, down(a, b))
			}
		}
		settle(t, f)
		if len(census.Bound(f.Cores())) != 0 {
			t.Fatal("something is bound")
		}
	}
}

// P1: nodes that are over have nothing bound; and Settle ends, though there is no rest.
func TestOver(t *testing.T) {
	r := rand.New(rand.NewSource(40))
	for range 60 {
		n := 2 + r.Intn(4)
		f := made(t, n, api.Limits{Epoch: 1 + r.Intn(20), Session: 1 + r.Intn(5), Seq: 1 + r.Intn(9)})
		for range 200 {
			do(f, some(r, n))
			if !census.Safe(f.Cores()) {
				t.Fatal("no forest")
			}
			for _, c := range f.Cores() {
				for _, x := range c.Ties {
					if c.Over && x.Vow.Bound {
						t.Fatalf("core %d is over, and bound", c.Id)
					}
				}
			}
		}
	}
	f := made(t, 2, api.Limits{Epoch: 1, Session: 9, Seq: 9})
	do(f, up(1, 2, 3))
	if n, is := calm.Settle(f); is || n != calm.Enough(2, 1, 0) {
		t.Errorf("Settle: %d, %v", n, is)
	}
}
