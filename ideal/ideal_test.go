package ideal_test

import (
	"math"
	"math/rand"
	"slices"
	"testing"

	"withy/api"
	"withy/core"
	"withy/edge"
	"withy/ideal"
	"withy/span"
	"withy/view"
)

const top = api.MaxCount

func made(t *testing.T, n, limit int) *ideal.World {
	t.Helper()
	w, e := ideal.New(n, limit)
	if e != api.OK {
		t.Fatalf("New(%d, %d): error %d", n, limit, e)
	}
	return w
}

func do(t *testing.T, w *ideal.World, ops ...api.Op) {
	t.Helper()
	for _, o := range ops {
		if e := w.Do(o); e != api.OK {
			t.Fatalf("%v: error %d", o, e)
		}
	}
}

func up(a, b, weight int) api.Op { return api.Op{Kind: api.OpUp, A: a, B: b, W: weight} }
func down(a, b int) api.Op       { return api.Op{Kind: api.OpDown, A: a, B: b} }

var round = api.Op{Kind: api.OpRound}

// Id1: which worlds there are.
func TestNew(t *testing.T) {
	for _, n := range []int{1, 16} {
		w := made(t, n, 9)
		for id := -1; id < 20; id++ {
			want, _ := core.New(id, 9)
			if id > n {
				want = api.Core{}
			}
			if !core.Same(w.Core(id), want) {
				t.Errorf("core %d of %d", id, n)
			}
		}
		if len(w.Ups()) != 0 || len(w.Bound()) != 0 || w.Waiting() != 0 {
			t.Error("a new world")
		}
	}
	for _, x := range [][2]int{{0, 9}, {17, 9}, {-1, 9}, {2, 0}, {2, -1}, {2, top + 1}, {math.MinInt, 9}} {
		if w, e := ideal.New(x[0], x[1]); e != api.ErrArg || w != nil {
			t.Errorf("New%v: error %d", x, e)
		}
	}
}

// Of a World that New did not give: zeros.
func TestNoWorld(t *testing.T) {
	for _, w := range []*ideal.World{nil, {}} {
		for kind := range api.OpKinds + 1 {
			if e := w.Do(api.Op{Kind: kind, A: 1, B: 2}); e != api.ErrArg {
				t.Errorf("Do %d: error %d", kind, e)
			}
		}
		if !core.Same(w.Core(1), api.Core{}) || len(w.Ups()) != 0 || len(w.Bound()) != 0 || w.Waiting() != 0 {
			t.Error("zeros")
		}
	}
}

// Id2: links that there can't be, and acts that do nothing.
func TestNothing(t *testing.T) {
	w := made(t, 3, 99)
	do(t, w, up(1, 2, 5))
	before := w.Core(1)
	for _, o := range []api.Op{up(1, 1, 5), up(0, 1, 5), up(1, 4, 5), up(4, 1, 5), up(1, 2, -1), up(1, 2, top+1), up(-1, 99, 0), up(1, 65, 0)} {
		if e := w.Do(o); e != api.ErrArg {
			t.Errorf("%v: error %d", o, e)
		}
	}
	do(t, w, up(1, 2, 5), up(2, 1, 5), down(1, 3), down(1, 1), down(0, 9), api.Op{}, api.Op{Kind: -1}, api.Op{Kind: api.OpKinds},
		api.Op{Kind: api.OpTick, A: 1}, api.Op{Kind: api.OpDrop}, api.Op{Kind: api.OpTwice}, api.Op{Kind: api.OpLate}, api.Op{Kind: api.OpCut}, api.Op{Kind: api.OpBurst})
	if !core.Same(before, w.Core(1)) || w.Waiting() != 2 || !slices.Equal(w.Ups(), []api.Edge{{A: 1, B: 2, W: 5}}) {
		t.Error("something was done")
	}
}

// Id2: links come up, change, and go down.
func TestLinks(t *testing.T) {
	w := made(t, 3, 99)
	do(t, w, up(2, 3, 1), up(2, 1, 7))
	if !slices.Equal(w.Ups(), []api.Edge{{A: 1, B: 2, W: 7}, {A: 2, B: 3, W: 1}}) {
		t.Errorf("Ups: %v", w.Ups())
	}
	a := w.Core(2)
	if len(a.Ties) != 2 || a.Ties[0] != (api.Tie{Peer: 1, W: 7, Session: 1}) {
		t.Errorf("ties: %v", a.Ties)
	}
	do(t, w, up(1, 2, 8))
	if got := w.Core(2).Ties[0]; got.W != 8 || got.Session != 2 {
		t.Errorf("another weight: %v", got)
	}
	if got := w.Core(1); got.Eid.Epoch != 4 { // up, down, up
		t.Errorf("%v", got.Eid)
	}
	do(t, w, down(2, 1))
	if w.Waiting() == 0 || len(w.Core(1).Ties) != 0 || len(w.Core(2).Ties) != 1 {
		t.Errorf("%d wait", w.Waiting())
	}
	do(t, w, down(2, 3))
	if w.Waiting() != 0 || len(w.Ups()) != 0 {
		t.Errorf("%d wait, %v are up", w.Waiting(), w.Ups())
	}
	do(t, w, up(1, 2, 8))
	if got := w.Core(1).Ties[0]; got.Session != 3 {
		t.Errorf("sessions are counted on: %v", got)
	}
}

// Id2: words come, way by way.
func TestDeliver(t *testing.T) {
	for _, n := range []int{0, 2, -2} {
		w := made(t, 2, 99)
		do(t, w, up(1, 2, 5), api.Op{Kind: api.OpDeliver, N: n})
		// Node 1's vow came to 2: that binds, and tells a wave.
		if w.Waiting() != 2 || !w.Core(2).Ties[0].Vow.Bound || w.Core(1).Ties[0].Vow.Bound || len(w.Bound()) != 0 {
			t.Errorf("%d: %v, %v", n, w.Core(1), w.Core(2))
		}
	}
	w := made(t, 2, 99)
	do(t, w, up(1, 2, 5), api.Op{Kind: api.OpDeliver, N: -1})
	if !w.Core(1).Ties[0].Vow.Bound || w.Core(2).Ties[0].Vow.Bound {
		t.Error("the second way")
	}
	do(t, w, api.Op{Kind: api.OpDeliver, N: 0}, api.Op{Kind: api.OpDeliver, N: 0})
	if !slices.Equal(w.Bound(), []api.Edge{{A: 1, B: 2, W: 5}}) {
		t.Errorf("Bound: %v", w.Bound())
	}
	empty := made(t, 2, 99)
	do(t, empty, api.Op{Kind: api.OpDeliver, N: 3}, round)
	if !core.Same(empty.Core(1), made(t, 2, 99).Core(1)) {
		t.Error("nothing waits")
	}
}

// Id2: in a round what waits then comes, and not what is told by that.
func TestRound(t *testing.T) {
	w := made(t, 2, 99)
	do(t, w, up(1, 2, 5), round)
	if len(w.Bound()) != 1 || w.Waiting() != 2 || w.Core(1).Phase != api.PhaseWave {
		t.Errorf("%d wait: %v", w.Waiting(), w.Core(1))
	}
	do(t, w, round)
	if w.Waiting() != 1 || w.Core(1).Parent != 2 || w.Core(1).Phase != api.PhaseEcho {
		t.Errorf("%d wait: %v", w.Waiting(), w.Core(1))
	}
}

// The chapter's example.
func TestExample(t *testing.T) {
	w := made(t, 3, top)
	do(t, w, up(1, 2, 5), up(2, 3, 1), up(1, 3, 2))
	rest(t, w, 3)
	if !slices.Equal(w.Bound(), []api.Edge{{A: 2, B: 3, W: 1}, {A: 1, B: 3, W: 2}}) {
		t.Errorf("Bound: %v", w.Bound())
	}
}

// rest lets all come to rest, and holds it against the least forest.
func rest(t *testing.T, w *ideal.World, n int) {
	t.Helper()
	ups := w.Ups()
	rounds := 0
	for w.Waiting() > 0 {
		do(t, w, round)
		safe(t, w)
		if rounds++; rounds > 40+8*(n+2)*(n+len(ups)+2) {
			t.Fatalf("no rest: %v", ups)
		}
	}
	least, _ := span.Least(ups)
	if !slices.Equal(w.Bound(), least) {
		t.Fatalf("of %v: %v, not %v", ups, w.Bound(), least)
	}
	var nodes []int
	for id := 1; id <= n; id++ {
		nodes = append(nodes, id)
	}
	parts, _ := span.Parts(nodes, least)
	for _, part := range parts {
		var bound []api.Edge
		for _, e := range least {
			if slices.Contains(part, e.A) {
				bound = append(bound, e)
			}
		}
		for _, id := range part {
			c := w.Core(id)
			got, _ := view.Bound(c.Table)
			got, _ = edge.Sort(got)
			if c.Phase != api.PhaseDone || !slices.Equal(c.Table.Nodes, part) || !slices.Equal(got, bound) {
				t.Fatalf("of %v: core %d: %v", ups, id, c)
			}
		}
	}
}

func safe(t *testing.T, w *ideal.World) {
	t.Helper()
	if !span.Forest(w.Bound()) {
		t.Fatalf("no forest: %v", w.Bound())
	}
}

// Id3, Id4, Id5: whatever is done, and then rounds.
func TestWhatever(t *testing.T) {
	r := rand.New(rand.NewSource(30))
	for i := range 250 {
		n := 1 + r.Intn(8)
		if i%50 == 0 {
			n = 16
		}
		w := made(t, n, top)
		weights := 1 + r.Intn(9)
		for range r.Intn(40 * n) {
			a, b := 1+r.Intn(n), 1+r.Intn(n)
			switch k := r.Intn(20); {
			case a != b && k < 3:
				do(t, w, up(a, b, r.Intn(weights)))
			case k == 3:
				do(t, w, down(a, b))
			case k == 4:
				do(t, w, round)
			default:
				do(t, w, api.Op{Kind: api.OpDeliver, N: r.Intn(1000) - 500})
			}
			safe(t, w)
		}
		rest(t, w, n)
	}
}

// Id3, Id4: all links of sixteen nodes, at once; and then half of them go.
func TestGreat(t *testing.T) {
	w := made(t, 16, top)
	for a := 1; a <= 16; a++ {
		for b := a + 1; b <= 16; b++ {
			do(t, w, up(a, b, a*b%7))
		}
	}
	rest(t, w, 16)
	for a := 1; a <= 16; a++ {
		for b := a + 1; b <= 16; b += 2 {
			do(t, w, down(a, b))
		}
	}
	rest(t, w, 16)
}

// Id3: epochs come to their end: what is bound is a forest, and those that are over have nothing bound.
func TestOver(t *testing.T) {
	r := rand.New(rand.NewSource(31))
	for range 100 {
		n := 2 + r.Intn(5)
		w := made(t, n, 1+r.Intn(12))
		for range 300 {
			a, b := 1+r.Intn(n), 1+r.Intn(n)
			if a != b && r.Intn(4) == 0 {
				do(t, w, up(a, b, r.Intn(5)))
			}
			do(t, w, api.Op{Kind: api.OpDeliver, N: r.Intn(100)})
			safe(t, w)
			for id := 1; id <= n; id++ {
				for _, x := range w.Core(id).Ties {
					if w.Core(id).Over && x.Vow.Bound {
						t.Fatalf("core %d is over, and bound", id)
					}
				}
			}
		}
	}
}

// R4: the same acts have the same end.
func TestSame(t *testing.T) {
	a, b := made(t, 6, top), made(t, 6, top)
	r := rand.New(rand.NewSource(32))
	for range 600 {
		o := api.Op{Kind: []int{api.OpUp, api.OpDown, api.OpDeliver, api.OpDeliver, api.OpDeliver, api.OpRound}[r.Intn(6)], A: 1 + r.Intn(6), B: 1 + r.Intn(6), W: r.Intn(5), N: r.Intn(50)}
		if a.Do(o) != b.Do(o) || a.Waiting() != b.Waiting() || !slices.Equal(a.Ups(), b.Ups()) || !slices.Equal(a.Bound(), b.Bound()) {
			t.Fatalf("%v", o)
		}
		for id := 1; id <= 6; id++ {
			if !core.Same(a.Core(id), b.Core(id)) {
				t.Fatalf("%v: core %d", o, id)
			}
		}
	}
}

// R3: a core that is told is new memory.
func TestMemory(t *testing.T) {
	w := made(t, 2, 99)
	do(t, w, up(1, 2, 5))
	c := w.Core(1)
	c.Ties[0].W = 77
	w.Ups()[0].W = 77
	if w.Core(1).Ties[0].W != 5 || w.Ups()[0].W != 5 {
		t.Error("memory is shared")
	}
}
