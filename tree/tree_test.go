package tree_test

import (
	"math"
	"math/rand"
	"slices"
	"testing"

	"withy/api"
	"withy/edge"
	"withy/span"
	"withy/tree"
)

type edges = []api.Edge

var forest = edges{{A: 2, B: 3, W: 4}, {A: 1, B: 2, W: 9}, {A: 3, B: 7, W: 4}, {A: 3, B: 4, W: 1}, {A: 5, B: 6, W: 2}}

// Tr1, Tr2: what is no forest, and no node.
func TestRefused(t *testing.T) {
	bad := []edges{
		{{A: 1, B: 2}, {A: 2, B: 3}, {A: 1, B: 3}},
		{{A: 2, B: 1}},
		{{A: 1, B: 2}, {A: 1, B: 2, W: 1}},
	}
	refuse := func(l edges, a, b int) {
		t.Helper()
		if w, e := tree.Way(l, a, b); e != api.ErrArg || len(w) != 0 {
			t.Errorf("Way: error %d", e)
		}
		if n, e := tree.Next(l, a, b); e != api.ErrArg || n != 0 {
			t.Errorf("Next: error %d", e)
		}
		if x, e := tree.Heaviest(l, a, b); e != api.ErrArg || x != (api.Edge{}) {
			t.Errorf("Heaviest: error %d", e)
		}
		if w, e := tree.Below(l, a, b); e != api.ErrArg || len(w) != 0 {
			t.Errorf("Below: error %d", e)
		}
	}
	for _, l := range bad {
		refuse(l, 1, 2)
		refuse(l, 1, 1)
		if w, e := tree.Side(l, l[0], 1); e != api.ErrArg || len(w) != 0 {
			t.Errorf("Side: error %d", e)
		}
	}
	for _, n := range []int{0, -1, 65, math.MinInt, math.MaxInt} {
		refuse(forest, n, 1)
		refuse(forest, 1, n)
		refuse(forest, n, n)
		if w, e := tree.Side(forest, forest[0], n); e != api.ErrArg || len(w) != 0 {
			t.Errorf("Side: error %d", e)
		}
		if w, e := tree.Side(forest, api.Edge{}, n); e != api.ErrArg || len(w) != 0 {
			t.Errorf("Side: error %d", e)
		}
	}
}

// Tr1: ways by hand.
func TestWay(t *testing.T) {
	for _, c := range []struct {
		a, b  int
		way   []int
		heavy api.Edge
		e, h  api.Errno
	}{
		{3, 1, []int{3, 2, 1}, forest[1], api.OK, api.OK},
		{1, 7, []int{1, 2, 3, 7}, forest[1], api.OK, api.OK},
		{2, 7, []int{2, 3, 7}, forest[2], api.OK, api.OK},
		{7, 4, []int{7, 3, 4}, forest[2], api.OK, api.OK},
		{4, 4, []int{4}, api.Edge{}, api.OK, api.ErrNone},
		{9, 9, []int{9}, api.Edge{}, api.OK, api.ErrNone},
		{64, 64, []int{64}, api.Edge{}, api.OK, api.ErrNone},
		{5, 1, nil, api.Edge{}, api.ErrRoute, api.ErrRoute},
		{9, 10, nil, api.Edge{}, api.ErrRoute, api.ErrRoute},
		{1, 9, nil, api.Edge{}, api.ErrRoute, api.ErrRoute},
	} {
		way, e := tree.Way(forest, c.a, c.b)
		if e != c.e || !slices.Equal(way, c.way) {
			t.Errorf("Way(%d, %d) = %v, error %d", c.a, c.b, way, e)
		}
		next := 0
		if len(c.way) > 0 {
			next = c.way[min(1, len(c.way)-1)]
		}
		if n, e := tree.Next(forest, c.a, c.b); e != c.e || n != next {
			t.Errorf("Next(%d, %d) = %d, error %d", c.a, c.b, n, e)
		}
		if x, e := tree.Heaviest(forest, c.a, c.b); e != c.h || x != c.heavy {
			t.Errorf("Heaviest(%d, %d) = %v, error %d", c.a, c.b, x, e)
		}
	}
}

// Tr2: sides, and what is below.
func TestSideBelow(t *testing.T) {
	for _, c := range []struct {
		cut  api.Edge
		a    int
		want []int
		e    api.Errno
	}{
		{forest[0], 1, []int{1, 2}, api.OK},
		{forest[0], 4, []int{3, 4, 7}, api.OK},
		{forest[4], 1, []int{1, 2, 3, 4, 7}, api.OK},
		{forest[0], 9, []int{9}, api.OK},
		{api.Edge{A: 2, B: 3, W: 5}, 1, nil, api.ErrNone},
		{api.Edge{A: 1, B: 3}, 1, nil, api.ErrNone},
		{api.Edge{}, 1, nil, api.ErrNone},
	} {
		if got, e := tree.Side(forest, c.cut, c.a); e != c.e || !slices.Equal(got, c.want) {
			t.Errorf("Side(%v, %d) = %v, error %d", c.cut, c.a, got, e)
		}
	}
	for _, c := range []struct {
		root, a int
		want    []int
		e       api.Errno
	}{
		{1, 3, []int{3, 4, 7}, api.OK},
		{1, 1, []int{1, 2, 3, 4, 7}, api.OK},
		{7, 2, []int{1, 2}, api.OK},
		{7, 4, []int{4}, api.OK},
		{9, 9, []int{9}, api.OK},
		{1, 5, nil, api.ErrRoute},
		{9, 1, nil, api.ErrRoute},
	} {
		if got, e := tree.Below(forest, c.root, c.a); e != c.e || !slices.Equal(got, c.want) {
			t.Errorf("Below(%d, %d) = %v, error %d", c.root, c.a, got, e)
		}
	}
	if _, e := tree.Side(nil, api.Edge{}, 1); e != api.ErrNone {
		t.Error("none of no edges")
	}
}

func some(r *rand.Rand, nodes int) edges {
	var l edges
	for range 3 * nodes {
		a, b := 1+r.Intn(nodes), 1+r.Intn(nodes)
		if e, err := edge.Of(a, b, r.Intn(5)); err == api.OK && span.Forest(append(slices.Clone(l), e)) {
			l = append(l, e)
		}
	}
	return l
}

// Tr3: back is turned; by Next one is there; an edge more, and the heaviest less.
func TestFollows(t *testing.T) {
	r := rand.New(rand.NewSource(12))
	for round := range 60 {
		n := 2 + r.Intn(10)
		if round == 0 {
			n = 64
		}
		l := some(r, n)
		before := slices.Clone(l)
		for range 200 {
			a, b := 1+r.Intn(n), 1+r.Intn(n)
			pair(t, l, a, b)
			below(t, l, a, b)
		}
		if !slices.Equal(l, before) {
			t.Fatal("what was handed in was changed")
		}
	}
}

func pair(t *testing.T, l edges, a, b int) {
	t.Helper()
	way, e := tree.Way(l, a, b)
	if (e == api.OK) != span.Linked(l, a, b) {
		t.Fatalf("%v: Way(%d, %d): error %d", l, a, b, e)
	}
	if e != api.OK {
		return
	}
	back, _ := tree.Way(l, b, a)
	slices.Reverse(back)
	if !slices.Equal(way, back) || way[0] != a || way[len(way)-1] != b {
		t.Fatalf("%v: from %d to %d %v, back %v", l, a, b, way, back)
	}
	var heavy api.Edge
	for i, at := range way {
		if next, _ := tree.Next(l, at, b); next != way[min(i+1, len(way)-1)] {
			t.Fatalf("%v: Next(%d, %d) = %d", l, at, b, next)
		}
		if i > 0 {
			k := slices.IndexFunc(l, func(e api.Edge) bool { return edge.Other(e, at) == way[i-1] })
			if k < 0 {
				t.Fatalf("%v: no edge of %d and %d", l, at, way[i-1])
			}
			if i == 1 || edge.Compare(l[k], heavy) > 0 {
				heavy = l[k]
			}
		}
	}
	if len(way) > 64 {
		t.Fatal("too far")
	}
	if a == b {
		return
	}
	if x, _ := tree.Heaviest(l, a, b); x != heavy {
		t.Fatalf("%v: Heaviest(%d, %d) = %v, not %v", l, a, b, x, heavy)
	}
	more, _ := edge.Of(a, b, 0)
	other := append(slices.DeleteFunc(slices.Clone(l), func(e api.Edge) bool { return e == heavy }), more)
	if !span.Forest(other) {
		t.Fatalf("%v is no forest", other)
	}
	for _, e := range l {
		if !span.Linked(other, e.A, e.B) {
			t.Fatalf("%v does not link %d and %d", other, e.A, e.B)
		}
	}
	side(t, l, heavy, a)
}

func side(t *testing.T, l edges, cut api.Edge, a int) {
	t.Helper()
	rest := slices.DeleteFunc(slices.Clone(l), func(e api.Edge) bool { return e == cut })
	var want []int
	for n := 1; n <= 64; n++ {
		if span.Linked(rest, a, n) {
			want = append(want, n)
		}
	}
	if got, e := tree.Side(l, cut, a); e != api.OK || !slices.Equal(got, want) {
		t.Fatalf("%v: Side(%v, %d) = %v, error %d", l, cut, a, got, e)
	}
}

func below(t *testing.T, l edges, root, a int) {
	t.Helper()
	var want []int
	for n := 1; n <= 64; n++ {
		if w, _ := tree.Way(l, root, n); slices.Contains(w, a) {
			want = append(want, n)
		}
	}
	got, e := tree.Below(l, root, a)
	if !slices.Equal(got, want) || (e == api.ErrRoute) != (len(want) == 0) {
		t.Fatalf("%v: Below(%d, %d) = %v, error %d", l, root, a, got, e)
	}
}
