package route_test

import (
	"math"
	"math/rand"
	"slices"
	"testing"

	"withy/api"
	"withy/edge"
	"withy/route"
	"withy/span"
	"withy/tree"
	"withy/view"
)

// of is the view of nodes that know these edges, bound, and one more link outside.
func of(nodes []int, l []api.Edge) api.View {
	v := api.View{Nodes: nodes}
	for _, n := range nodes {
		for peer := 1; peer <= api.MaxNodes; peer++ {
			for _, e := range l {
				if edge.Other(e, n) == peer {
					v.Links = append(v.Links, api.Known{Node: n, Peer: peer, W: e.W, Session: 1, Marked: true})
				}
			}
		}
	}
	return v
}

var chain = of([]int{1, 2, 3, 7, 9}, []api.Edge{{A: 1, B: 2}, {A: 2, B: 3}, {A: 7, B: 9}, {A: 9, B: 10}})

// Ro1: hops, tables and leaders by hand.
func TestByHand(t *testing.T) {
	for _, c := range []struct {
		from, to, want int
		e              api.Errno
	}{
		{3, 1, 2, api.OK}, {1, 3, 2, api.OK}, {1, 2, 2, api.OK}, {1, 1, 1, api.OK}, {9, 7, 7, api.OK},
		{1, 7, 0, api.ErrRoute}, {1, 64, 0, api.ErrRoute}, {9, 10, 0, api.ErrRoute},
		{4, 1, 0, api.ErrNone}, {10, 9, 0, api.ErrNone}, {4, 4, 0, api.ErrNone},
		{0, 1, 0, api.ErrArg}, {1, 0, 0, api.ErrArg}, {65, 1, 0, api.ErrArg}, {1, 65, 0, api.ErrArg}, {4, -1, 0, api.ErrArg},
		{math.MinInt, 1, 0, api.ErrArg}, {1, math.MaxInt, 0, api.ErrArg},
	} {
		if got, e := route.Hop(chain, c.from, c.to); got != c.want || e != c.e {
			t.Errorf("Hop(%d, %d) = %d, error %d", c.from, c.to, got, e)
		}
	}
	for _, c := range []struct {
		from   int
		table  [][2]int
		leader int
		e      api.Errno
	}{
		{1, [][2]int{{2, 2}, {3, 2}}, 1, api.OK},
		{2, [][2]int{{1, 1}, {3, 3}}, 1, api.OK},
		{9, [][2]int{{7, 7}}, 7, api.OK},
		{4, nil, 0, api.ErrNone},
		{0, nil, 0, api.ErrArg},
		{65, nil, 0, api.ErrArg},
	} {
		if got, e := route.Table(chain, c.from); !slices.Equal(got, c.table) || e != c.e {
			t.Errorf("Table(%d) = %v, error %d", c.from, got, e)
		}
		if got, e := route.Leader(chain, c.from); got != c.leader || e != c.e {
			t.Errorf("Leader(%d) = %d, error %d", c.from, got, e)
		}
	}
	alone := api.View{Nodes: []int{5}}
	if got, e := route.Table(alone, 5); len(got) != 0 || e != api.OK {
		t.Error("alone: Table")
	}
	if got, e := route.Leader(alone, 5); got != 5 || e != api.OK {
		t.Error("alone: Leader")
	}
}

// Ro1: views that may not be, and circles; which error comes first.
func TestRefused(t *testing.T) {
	circle := of([]int{1, 2, 3}, []api.Edge{{A: 1, B: 2}, {A: 2, B: 3}, {A: 1, B: 3}})
	for _, c := range []struct {
		v    api.View
		from int
		e    api.Errno
	}{
		{api.View{Nodes: []int{2, 1}}, 1, api.ErrArg},
		{api.View{Nodes: []int{2, 1}}, 5, api.ErrArg},
		{circle, 1, api.ErrCycle},
		{circle, 5, api.ErrCycle},
		{circle, 0, api.ErrArg},
		{api.View{}, 5, api.ErrNone},
	} {
		if got, e := route.Hop(c.v, c.from, 1); got != 0 || e != c.e {
			t.Errorf("%v, %d: Hop: error %d", c.v, c.from, e)
		}
		if got, e := route.Table(c.v, c.from); len(got) != 0 || e != c.e {
			t.Errorf("%v, %d: Table: error %d", c.v, c.from, e)
		}
		if got, e := route.Leader(c.v, c.from); got != 0 || e != c.e {
			t.Errorf("%v, %d: Leader: error %d", c.v, c.from, e)
		}
	}
	if _, e := route.Hop(circle, 1, 0); e != api.ErrArg {
		t.Error("a circle, and to no node")
	}
}

// Ro2: leaders, and that by Hop one comes there.
func TestFollows(t *testing.T) {
	r := rand.New(rand.NewSource(16))
	for range 80 {
		n := 2 + r.Intn(8)
		var nodes []int
		var l []api.Edge
		for a := 1; a <= n; a++ {
			nodes = append(nodes, a)
		}
		for range 2 * n {
			e, err := edge.Of(1+r.Intn(n), 1+r.Intn(n), r.Intn(4))
			if err == api.OK && span.Forest(append(slices.Clone(l), e)) {
				l = append(l, e)
			}
		}
		v := of(nodes, l)
		for a := 1; a <= n; a++ {
			for b := 1; b <= n; b++ {
				follows(t, v, l, a, b)
			}
			table(t, v, a)
		}
	}
}

func follows(t *testing.T, v api.View, l []api.Edge, a, b int) {
	t.Helper()
	linked := span.Linked(l, a, b)
	x, _ := route.Leader(v, a)
	y, _ := route.Leader(v, b)
	if (x == y) != linked || x > a {
		t.Fatalf("%v: leaders of %d and %d: %d, %d", l, a, b, x, y)
	}
	want, wantErr := tree.Next(l, a, b)
	if got, e := route.Hop(v, a, b); got != want || e != wantErr {
		t.Fatalf("%v: Hop(%d, %d) = %d, error %d", l, a, b, got, e)
	}
	for steps := 0; linked && a != b; steps++ {
		if steps >= len(v.Nodes) {
			t.Fatalf("%v: too many steps to %d", l, b)
		}
		a, _ = route.Hop(v, a, b)
	}
}

func table(t *testing.T, v api.View, from int) {
	t.Helper()
	var want [][2]int
	for to := 1; to <= api.MaxNodes; to++ {
		if hop, e := route.Hop(v, from, to); e == api.OK && to != from {
			want = append(want, [2]int{to, hop})
		}
	}
	if got, e := route.Table(v, from); e != api.OK || !slices.Equal(got, want) {
		t.Fatalf("%v: Table(%d) = %v, error %d", v, from, got, e)
	}
}

// The tree is what layer 9 tells of the view, not what one end alone has marked.
func TestOneEnd(t *testing.T) {
	v := of([]int{1, 2}, []api.Edge{{A: 1, B: 2}})
	v.Links[1].Marked = false
	if bound, _ := view.Bound(v); len(bound) != 0 {
		t.Fatal("it is bound")
	}
	if _, e := route.Hop(v, 1, 2); e != api.ErrRoute {
		t.Errorf("error %d", e)
	}
}
