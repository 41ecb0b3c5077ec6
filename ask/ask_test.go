package ask_test

import (
	"math"
	"math/rand"
	"slices"
	"testing"

	"withy/api"
	"withy/ask"
	"withy/core"
	"withy/ideal"
	"withy/span"
)

func known(node, peer int) api.Known {
	return api.Known{Node: node, Peer: peer, W: 1, Session: 1, Marked: true}
}

// chain is node 3 of 5-3-7, at rest, of a fragment that 7 named.
func chain() api.Core {
	return api.Core{Id: 3, Eid: api.Eid{Epoch: 4, Root: 7}, Phase: api.PhaseDone, Table: api.View{
		Nodes: []int{3, 5, 7},
		Links: []api.Known{known(3, 5), known(3, 7), known(5, 3), known(7, 3)},
	}}
}

// As1: what a stable core tells.
func TestStable(t *testing.T) {
	c := chain()
	if !ask.Stable(c) {
		t.Error("it is stable")
	}
	if n, e := ask.Leader(c); n != 7 || e != api.OK {
		t.Errorf("Leader: %d, error %d", n, e)
	}
	if l, e := ask.Members(c); !slices.Equal(l, []int{3, 5, 7}) || e != api.OK {
		t.Errorf("Members: %v, error %d", l, e)
	}
	for _, x := range []struct {
		to, want int
		e        api.Errno
	}{{5, 5, api.OK}, {7, 7, api.OK}, {3, 3, api.OK}, {4, 0, api.ErrRoute}, {64, 0, api.ErrRoute}, {0, 0, api.ErrArg}, {65, 0, api.ErrArg}, {math.MinInt, 0, api.ErrArg}} {
		if n, e := ask.Next(c, x.to); n != x.want || e != x.e {
			t.Errorf("Next(%d) = %d, error %d", x.to, n, e)
		}
	}
	c.Id = 5
	if n, e := ask.Next(c, 7); n != 3 || e != api.OK {
		t.Errorf("Next: %d, error %d", n, e)
	}
	fresh, _ := core.New(3, 9)
	if n, e := ask.Leader(fresh); n != 3 || e != api.OK {
		t.Errorf("the chapter's example: %d, error %d", n, e)
	}
	if n, e := ask.Next(fresh, 4); n != 0 || e != api.ErrRoute {
		t.Errorf("the chapter's example: %d, error %d", n, e)
	}
}

// As1: not yet, and over; and tables that tell nothing.
func TestRefused(t *testing.T) {
	for phase := -1; phase < 6; phase++ {
		for _, over := range []bool{false, true} {
			c := chain()
			c.Phase, c.Over = phase, over
			want := api.OK
			if over {
				want = api.ErrOver
			} else if phase != api.PhaseDone {
				want = api.ErrWait
			}
			if ask.Stable(c) != (want == api.OK) {
				t.Errorf("%d, %v: Stable", phase, over)
			}
			if want == api.OK {
				continue
			}
			if n, e := ask.Leader(c); n != 0 || e != want {
				t.Errorf("%d, %v: Leader %d, error %d", phase, over, n, e)
			}
			if n, e := ask.Next(c, 0); n != 0 || e != want {
				t.Errorf("%d, %v: Next %d, error %d", phase, over, n, e)
			}
			if l, e := ask.Members(c); len(l) != 0 || e != want {
				t.Errorf("%d, %v: Members %v, error %d", phase, over, l, e)
			}
		}
	}
	c := chain()
	c.Id = 9
	if n, e := ask.Next(c, 5); n != 0 || e != api.ErrNone {
		t.Errorf("of a node that it does not know: %d, error %d", n, e)
	}
	c = chain()
	c.Table.Links = append(c.Table.Links[:3], known(5, 7), known(7, 3), known(7, 5))
	c.Table.Links[2], c.Table.Links[1] = known(5, 3), known(3, 7)
	if n, e := ask.Next(c, 5); n != 0 || e != api.ErrCycle {
		t.Errorf("of a circle: %d, error %d", n, e)
	}
	if _, e := ask.Next(api.Core{Phase: api.PhaseDone}, 1); e != api.ErrArg {
		t.Errorf("of no core: error %d", e)
	}
}

// As2: in a world at rest.
func TestRest(t *testing.T) {
	r := rand.New(rand.NewSource(33))
	for range 60 {
		n := 2 + r.Intn(6)
		w, _ := ideal.New(n, api.MaxCount)
		for range r.Intn(3 * n) {
			w.Do(api.Op{Kind: api.OpUp, A: 1 + r.Intn(n), B: 1 + r.Intn(n), W: r.Intn(5)})
			w.Do(api.Op{Kind: api.OpDeliver, N: r.Intn(99)})
		}
		for w.Waiting() > 0 {
			w.Do(api.Op{Kind: api.OpRound})
		}
		for a := 1; a <= n; a++ {
			for b := 1; b <= n; b++ {
				pair(t, w, n, a, b)
			}
		}
	}
}

func pair(t *testing.T, w *ideal.World, n, a, b int) {
	t.Helper()
	linked := span.Linked(w.Ups(), a, b)
	x, e1 := ask.Leader(w.Core(a))
	y, e2 := ask.Leader(w.Core(b))
	if e1 != api.OK || e2 != api.OK || (x == y) != linked || !span.Linked(w.Ups(), a, x) {
		t.Fatalf("leaders of %d and %d: %d, %d, error %d, %d", a, b, x, y, e1, e2)
	}
	members, _ := ask.Members(w.Core(a))
	if slices.Contains(members, b) != linked {
		t.Fatalf("members of %d: %v", a, members)
	}
	if !linked {
		if _, e := ask.Next(w.Core(a), b); e != api.ErrRoute {
			t.Fatalf("Next of %d to %d: error %d", a, b, e)
		}
		return
	}
	for at, steps := a, 0; at != b; steps++ {
		next, e := ask.Next(w.Core(at), b)
		if e != api.OK || steps >= n {
			t.Fatalf("from %d to %d: at %d, error %d", a, b, at, e)
		}
		at = next
	}
}

// R3: members are new memory.
func TestMemory(t *testing.T) {
	c := chain()
	l, _ := ask.Members(c)
	l[0] = 77
	if c.Table.Nodes[0] != 3 {
		t.Error("memory is shared")
	}
}
