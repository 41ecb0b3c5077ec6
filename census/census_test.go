package census_test

import (
	"math/rand"
	"slices"
	"testing"

	"withy/api"
	"withy/census"
	"withy/core"
	"withy/ideal"
	"withy/span"
)

const top = api.MaxCount

func made(id int) api.Core {
	c, _ := core.New(id, top)
	return c
}

func tie(peer, w, session int, bound bool) api.Tie {
	return api.Tie{Peer: peer, W: w, Session: session, Vow: api.Vow{Bound: bound}}
}

// with is a core of an Id, with these ties.
func with(id int, ties ...api.Tie) api.Core {
	c := made(id)
	c.Ties = ties
	return c
}

// rest is a world of n nodes at rest, with these links up.
func rest(t *testing.T, n int, ups ...api.Edge) []api.Core {
	t.Helper()
	w, e := ideal.New(n, top)
	if e != api.OK {
		t.Fatal(e)
	}
	for _, u := range ups {
		w.Do(api.Op{Kind: api.OpUp, A: u.A, B: u.B, W: u.W})
	}
	for w.Waiting() > 0 {
		w.Do(api.Op{Kind: api.OpRound})
	}
	return cores(w, n)
}

func cores(w *ideal.World, n int) []api.Core {
	var out []api.Core
	for id := 1; id <= n; id++ {
		out = append(out, w.Core(id))
	}
	return out
}

// Ce1: what is bound.
func TestBound(t *testing.T) {
	for i, c := range []struct {
		cores []api.Core
		want  []api.Edge
		safe  bool
	}{
		{nil, nil, true},
		{[]api.Core{made(1)}, nil, true},
		{[]api.Core{with(2, tie(1, 5, 7, true)), with(1, tie(2, 5, 7, true))}, []api.Edge{{A: 1, B: 2, W: 5}}, true},
		{[]api.Core{with(1, tie(2, 5, 7, true)), with(2, tie(1, 5, 7, false))}, nil, true},
		{[]api.Core{with(1, tie(2, 5, 7, true)), with(2, tie(1, 5, 8, true))}, nil, true},
		{[]api.Core{with(1, tie(2, 5, 7, true)), with(2, tie(1, 6, 7, true))}, nil, true},
		{[]api.Core{with(1, tie(2, 5, 7, true)), with(2)}, nil, true},
		{[]api.Core{with(1, tie(2, 5, 7, true)), with(3, tie(1, 5, 7, true))}, nil, true},
		{[]api.Core{with(1, tie(2, -1, 7, true)), with(2, tie(1, -1, 7, true))}, nil, true},
		{[]api.Core{with(1, tie(2, top+1, 7, true)), with(2, tie(1, top+1, 7, true))}, nil, true},
		{[]api.Core{with(1, tie(2, top, 7, true)), with(2, tie(1, top, 7, true))}, []api.Edge{{A: 1, B: 2, W: top}}, true},
		{[]api.Core{with(1, tie(2, 0, 7, true)), with(2, tie(1, 0, 7, true))}, []api.Edge{{A: 1, B: 2}}, true},
		{[]api.Core{with(1, tie(2, 5, 7, true), tie(2, 5, 7, true)), with(2, tie(1, 5, 7, true))}, []api.Edge{{A: 1, B: 2, W: 5}, {A: 1, B: 2, W: 5}}, false},
		{[]api.Core{with(1, tie(2, 5, 7, true), tie(3, 2, 1, true)), with(2, tie(1, 5, 7, true)), with(3, tie(1, 2, 1, true))}, []api.Edge{{A: 1, B: 3, W: 2}, {A: 1, B: 2, W: 5}}, true},
		{[]api.Core{with(1, tie(2, 5, 7, true), tie(3, 2, 1, true)), with(2, tie(1, 5, 7, true), tie(3, 1, 1, true)), with(3, tie(1, 2, 1, true), tie(2, 1, 1, true))}, []api.Edge{{A: 2, B: 3, W: 1}, {A: 1, B: 3, W: 2}, {A: 1, B: 2, W: 5}}, false},
		{[]api.Core{with(1, tie(1, 5, 7, true))}, nil, true},
		{[]api.Core{with(1, tie(2, 5, 7, true)), with(2, tie(1, 5, 7, true)), with(1)}, nil, false},
	} {
		before := slices.Clone(c.cores)
		if got := census.Bound(c.cores); !slices.Equal(got, c.want) || census.Safe(c.cores) != c.safe {
			t.Errorf("%d: %v, safe: %v", i, got, census.Safe(c.cores))
		}
		if !slices.EqualFunc(before, c.cores, core.Same) {
			t.Errorf("%d: what was handed in was changed", i)
		}
	}
}

// Ce1, Ce2: more than 16, and two of one Id.
func TestList(t *testing.T) {
	var many []api.Core
	for id := 1; id <= 17; id++ {
		many = append(many, made(id))
	}
	for i, l := range [][]api.Core{many, {made(1), made(2), made(1)}, {{}, {}}} {
		l[0].Over = i == 1
		if census.Safe(l) || census.Over(l) || census.Done(l, nil) || census.Answers(l, nil) || len(census.Bound(l)) != 0 {
			t.Errorf("%d: it is a list", i)
		}
	}
	if l := many[:16]; !census.Safe(l) || census.Over(l) || !census.Done(l, nil) || !census.Answers(l, nil) {
		t.Error("16 are a list")
	}
	if l := []api.Core{made(7)}; !census.Safe(l) || census.Over(l) || !census.Done(l, nil) || !census.Answers(l, nil) || len(census.Bound(l)) != 0 {
		t.Error("the chapter's example")
	}
	if !census.Safe(nil) || census.Over(nil) || !census.Done(nil, nil) || !census.Answers(nil, nil) {
		t.Error("of no cores")
	}
}

var three = []api.Edge{{A: 1, B: 2, W: 5}, {A: 1, B: 3, W: 2}, {A: 2, B: 3, W: 1}}

// Ce1, Ce2: all is right; and what is not, if something is another way.
func TestRight(t *testing.T) {
	l := rest(t, 4, three...)
	if !census.Safe(l) || census.Over(l) || !census.Done(l, three) || !census.Answers(l, three) {
		t.Fatal("all is right")
	}
	back := slices.Clone(l)
	slices.Reverse(back)
	if !census.Done(back, three) || !census.Answers(back, three) {
		t.Error("the order of the list matters")
	}
	for i, ups := range [][]api.Edge{{{A: 1, B: 2, W: 5}, {A: 2, B: 1}}, {{A: 1, B: 2}, {A: 1, B: 2}}, make([]api.Edge, 513)} {
		if census.Done(l, ups) || census.Answers(l, ups) {
			t.Errorf("%d: links that may not be together", i)
		}
	}
	if census.Done(l, three[:2]) || census.Done(l, nil) || census.Answers(l, nil) || census.Answers(l, three[:1]) {
		t.Error("other links are up")
	}
	if more := append(slices.Clone(three), api.Edge{A: 3, B: 4}); census.Done(l, more) || census.Answers(l, more) {
		t.Error("one more is up")
	}
	for i, turn := range []func(c []api.Core){
		func(c []api.Core) { c[1].Over = true },
		func(c []api.Core) { c[1].Phase = api.PhaseEcho },
		func(c []api.Core) { c[3].Phase = api.PhaseWave },
		func(c []api.Core) { c[3].Phase = 0 },
	} {
		x := slices.Clone(l)
		turn(x)
		if census.Done(x, three) || census.Answers(x, three) || census.Over(x) != x[1].Over {
			t.Errorf("%d: all is right", i)
		}
	}
	unbound := slices.Clone(l)
	unbound[2].Ties = slices.Clone(unbound[2].Ties)
	unbound[2].Ties[0].Vow.Bound = false
	if census.Done(unbound, three) || !census.Answers(unbound, three) {
		t.Error("an end that is not bound")
	}
}

// Ce2: answers that are wrong, one by one.
func TestWrong(t *testing.T) {
	l := rest(t, 4, three...)
	other := func(c api.Core, id int) api.Core { c.Eid.Root = id; return c }
	table := func(c api.Core, v api.View) api.Core { c.Table = v; return c }
	for i, x := range [][]api.Core{
		{other(l[0], 4), l[1], l[2], l[3]},
		{other(l[0], 4), other(l[1], 4), other(l[2], 4), l[3]},
		{l[0], l[1], l[2], other(l[3], l[0].Eid.Root)},
		{other(l[0], l[0].Eid.Root%3+1), l[1], l[2], l[3]},
		{table(l[0], api.View{Nodes: []int{1}}), l[1], l[2], l[3]},
		{table(l[0], api.View{}), l[1], l[2], l[3]},
		{l[0], l[1], l[2], table(l[3], l[0].Table)},
		{l[0], l[1], l[3]},
	} {
		if census.Answers(x, three) {
			t.Errorf("%d: answers are right", i)
		}
	}
	if census.Answers(l[:2], three) {
		t.Error("the way goes by a core that is not in the list")
	}
	if all := []api.Core{other(l[0], 4), other(l[1], 4), other(l[2], 4)}; census.Answers(all, three) {
		t.Error("a leader that no links lead to")
	}
	if all := []api.Core{l[1], l[2]}; !census.Answers(all, three) {
		t.Error("two of them")
	}
	if wait := []api.Core{{Id: 1, Phase: api.PhaseWave}}; census.Answers(wait, nil) || !census.Safe(wait) || census.Done(wait, nil) {
		t.Error("one that tells not yet")
	}
	if none := []api.Core{{Id: 70, Phase: api.PhaseDone, Eid: api.Eid{Epoch: 1, Root: 70}}}; census.Answers(none, nil) {
		t.Error("a core that is no node's")
	}
	// Two that send to each other, and never to 3.
	loop := func(id, by int) api.Core {
		c := l[id-1]
		c.Table = api.View{Nodes: []int{1, 2, 3}}
		for _, e := range []api.Edge{{A: 1, B: 2}, {A: by, B: 3}} {
			c.Table.Links = append(c.Table.Links, api.Known{Node: e.A, Peer: e.B, Session: 1, Marked: true}, api.Known{Node: e.B, Peer: e.A, Session: 1, Marked: true})
		}
		slices.SortFunc(c.Table.Links, func(a, b api.Known) int { return a.Node*9 + a.Peer - b.Node*9 - b.Peer })
		return c
	}
	if census.Answers([]api.Core{loop(1, 2), loop(2, 1), l[2]}, three) {
		t.Error("one never comes there")
	}
	if !census.Answers([]api.Core{loop(1, 2), loop(2, 2), loop(3, 2)}, three) {
		t.Error("one comes there")
	}
}

// Ce1, Ce2: worlds at rest are done, and answer; those that are not are safe.
func TestWorlds(t *testing.T) {
	r := rand.New(rand.NewSource(37))
	for range 80 {
		n := 1 + r.Intn(7)
		w, _ := ideal.New(n, top)
		for range r.Intn(30 * n) {
			w.Do(api.Op{Kind: []int{api.OpUp, api.OpDown, api.OpDeliver, api.OpDeliver, api.OpDeliver}[r.Intn(5)], A: 1 + r.Intn(n), B: 1 + r.Intn(n), W: r.Intn(4), N: r.Intn(99)})
			l := cores(w, n)
			if !census.Safe(l) || !slices.Equal(census.Bound(l), w.Bound()) {
				t.Fatalf("%v", l)
			}
			if w.Waiting() == 0 && (!census.Done(l, w.Ups()) || !census.Answers(l, w.Ups())) {
				t.Fatalf("at rest: %v", l)
			}
		}
		for w.Waiting() > 0 {
			w.Do(api.Op{Kind: api.OpRound})
		}
		l := cores(w, n)
		if least, _ := span.Least(w.Ups()); !census.Done(l, w.Ups()) || !census.Answers(l, w.Ups()) || census.Over(l) || !slices.Equal(census.Bound(l), least) {
			t.Fatalf("at rest: %v", l)
		}
	}
}
