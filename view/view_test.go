package view_test

import (
	"math"
	"math/rand"
	"slices"
	"testing"

	"withy/api"
	"withy/view"
)

const top = api.MaxCount

func link(node, peer, w, session int, marked bool) api.Known {
	return api.Known{Node: node, Peer: peer, W: w, Session: session, Marked: marked}
}

func of(nodes []int, links ...api.Known) api.View { return api.View{Nodes: nodes, Links: links} }

// Vi1, Vi2: which views may be, and that all calls refuse the others.
func TestCheck(t *testing.T) {
	all := make([]int, 64)
	for i := range all {
		all[i] = i + 1
	}
	for i, c := range []struct {
		v    api.View
		want api.Errno
	}{
		{of(nil), api.OK},
		{of(all), api.OK},
		{of([]int{3}, link(3, 64, top, top, true)), api.OK},
		{of([]int{3, 4}, link(3, 1, 0, 1, false), link(3, 4, 0, 1, false), link(4, 1, 0, 1, false)), api.OK},
		{of([]int{0}), api.ErrArg},
		{of([]int{65}), api.ErrArg},
		{of([]int{-1, 3}), api.ErrArg},
		{of([]int{2, 1}), api.ErrArg},
		{of([]int{2, 2}), api.ErrArg},
		{of(append(slices.Clone(all), 64)), api.ErrArg},
		{of(nil, link(3, 4, 0, 1, false)), api.ErrArg},
		{of([]int{4}, link(3, 4, 0, 1, false)), api.ErrArg},
		{of([]int{3}, link(3, 3, 0, 1, false)), api.ErrArg},
		{of([]int{3}, link(3, 0, 0, 1, false)), api.ErrArg},
		{of([]int{3}, link(3, 65, 0, 1, false)), api.ErrArg},
		{of([]int{3}, link(3, math.MinInt, 0, 1, false)), api.ErrArg},
		{of([]int{3}, link(0, 3, 0, 1, false)), api.ErrArg},
		{of([]int{3}, link(3, 4, -1, 1, false)), api.ErrArg},
		{of([]int{3}, link(3, 4, top+1, 1, false)), api.ErrArg},
		{of([]int{3}, link(3, 4, 0, 0, false)), api.ErrArg},
		{of([]int{3}, link(3, 4, 0, -1, false)), api.ErrArg},
		{of([]int{3}, link(3, 4, 0, top+1, false)), api.ErrArg},
		{of([]int{3}, link(3, 4, 0, 1, false), link(3, 4, 0, 2, false)), api.ErrArg},
		{of([]int{3}, link(3, 5, 0, 1, false), link(3, 4, 0, 1, false)), api.ErrArg},
		{of([]int{3, 4}, link(4, 5, 0, 1, false), link(3, 4, 0, 1, false)), api.ErrArg},
	} {
		if e := view.Check(c.v); e != c.want {
			t.Errorf("%d: error %d", i, e)
		}
		if c.want != api.OK {
			refused(t, c.v)
		}
	}
}

func refused(t *testing.T, v api.View) {
	t.Helper()
	for _, two := range [][2]api.View{{v, of(nil)}, {of(nil), v}, {v, v}, {v, of([]int{3})}} {
		if m, e := view.Merge(two[0], two[1]); e != api.ErrArg || !view.Same(m, api.View{}) {
			t.Errorf("%v: Merge: error %d", v, e)
		}
	}
	if l, e := view.Inner(v); e != api.ErrArg || len(l) != 0 {
		t.Errorf("%v: Inner: error %d", v, e)
	}
	if l, e := view.Outer(v); e != api.ErrArg || len(l) != 0 {
		t.Errorf("%v: Outer: error %d", v, e)
	}
	if l, e := view.Bound(v); e != api.ErrArg || len(l) != 0 {
		t.Errorf("%v: Bound: error %d", v, e)
	}
}

// Vi1: two views as one.
func TestMerge(t *testing.T) {
	a := of([]int{2, 9}, link(2, 3, 5, 1, true), link(9, 2, 1, 1, false))
	b := of([]int{3}, link(3, 2, 5, 1, true), link(3, 7, 1, 1, false))
	want := of([]int{2, 3, 9}, link(2, 3, 5, 1, true), link(3, 2, 5, 1, true), link(3, 7, 1, 1, false), link(9, 2, 1, 1, false))
	for _, two := range [][2]api.View{{a, b}, {b, a}} {
		if m, e := view.Merge(two[0], two[1]); e != api.OK || !view.Same(m, want) {
			t.Errorf("%v, error %d", m, e)
		}
	}
	if m, e := view.Merge(a, of([]int{9})); e != api.ErrCycle || !view.Same(m, api.View{}) {
		t.Errorf("a node in both: %v, error %d", m, e)
	}
	if m, e := view.Merge(a, of(nil)); e != api.OK || !view.Same(m, a) {
		t.Errorf("with nothing: %v, error %d", m, e)
	}
}

// Vi2: inner and outer links, and bound edges.
func TestInnerOuter(t *testing.T) {
	v := of([]int{1, 2, 3, 4},
		link(1, 2, 5, 5, true), link(1, 3, 7, 2, true), link(1, 9, 7, 2, true),
		link(2, 1, 5, 5, true), link(2, 3, 4, 1, true), link(2, 4, 4, 1, true),
		link(3, 1, 7, 2, false), link(3, 2, 4, 2, true), link(3, 4, 1, 1, true),
		link(4, 2, 5, 1, true), link(4, 5, 1, 1, false))
	inner, e := view.Inner(v)
	if want := []api.Known{link(1, 2, 5, 5, true), link(1, 3, 7, 2, false)}; e != api.OK || !slices.Equal(inner, want) {
		t.Errorf("Inner: %v, error %d", inner, e)
	}
	outer, e := view.Outer(v)
	if want := []api.Known{link(1, 9, 7, 2, true), link(4, 5, 1, 1, false)}; e != api.OK || !slices.Equal(outer, want) {
		t.Errorf("Outer: %v, error %d", outer, e)
	}
	bound, e := view.Bound(v)
	if want := []api.Edge{{A: 1, B: 2, W: 5}}; e != api.OK || !slices.Equal(bound, want) {
		t.Errorf("Bound: %v, error %d", bound, e)
	}
	two := of([]int{1, 2}, link(1, 2, 3, 5, true), link(2, 1, 3, 6, true))
	inner, _ = view.Inner(two)
	outer, _ = view.Outer(two)
	if len(inner) != 0 || len(outer) != 0 {
		t.Error("the chapter's example")
	}
	// By Node and Peer, not by weight.
	three := of([]int{1, 2, 3}, link(1, 2, 9, 1, true), link(1, 3, 1, 1, true), link(2, 1, 9, 1, true), link(3, 1, 1, 1, true))
	if bound, _ := view.Bound(three); !slices.Equal(bound, []api.Edge{{A: 1, B: 2, W: 9}, {A: 1, B: 3, W: 1}}) {
		t.Errorf("Bound: %v", bound)
	}
}

// Vi1: edges of links, and views that are alike.
func TestEdgeSame(t *testing.T) {
	if view.Edge(link(5, 2, 7, 1, true)) != (api.Edge{A: 2, B: 5, W: 7}) || view.Edge(link(2, 5, 7, 1, true)) != (api.Edge{A: 2, B: 5, W: 7}) {
		t.Error("Edge")
	}
	v := of([]int{1, 2}, link(1, 2, 5, 5, true))
	for i, w := range []api.View{
		of([]int{1, 3}, link(1, 2, 5, 5, true)), of([]int{1}, link(1, 2, 5, 5, true)), of([]int{1, 2}),
		of([]int{1, 2}, link(1, 3, 5, 5, true)), of([]int{1, 2}, link(1, 2, 6, 5, true)),
		of([]int{1, 2}, link(1, 2, 5, 6, true)), of([]int{1, 2}, link(1, 2, 5, 5, false)), {},
	} {
		if view.Same(v, w) || view.Same(w, v) {
			t.Errorf("%d is the same", i)
		}
	}
	if !view.Same(v, v) || !view.Same(api.View{}, of([]int{}, []api.Known{}...)) {
		t.Error("alike, but not the same")
	}
}

// split is a view of n nodes, and the parts that it was made of.
func split(r *rand.Rand, n int) []api.View {
	parts := make([]api.View, 1+r.Intn(4))
	for node := 1; node <= n; node++ {
		p := &parts[r.Intn(len(parts))]
		p.Nodes = append(p.Nodes, node)
		for peer := 1; peer <= n+2; peer++ {
			if peer != node && r.Intn(3) > 0 {
				p.Links = append(p.Links, link(node, peer, r.Intn(2), 1+r.Intn(2), r.Intn(2) > 0))
			}
		}
	}
	return parts
}

func merged(t *testing.T, parts []api.View) api.View {
	t.Helper()
	var v api.View
	for _, p := range parts {
		m, e := view.Merge(v, p)
		if e != api.OK || view.Check(m) != api.OK {
			t.Fatalf("%v and %v: error %d", v, p, e)
		}
		v = m
	}
	return v
}

// Vi3: the order does not matter, inner links stay so. Vi2: each link is inner, outer or neither.
func TestFollows(t *testing.T) {
	r := rand.New(rand.NewSource(13))
	for range 400 {
		parts := split(r, 1+r.Intn(8))
		whole := merged(t, parts)
		inner, _ := view.Inner(whole)
		for _, p := range parts {
			some, _ := view.Inner(p)
			for _, k := range some {
				if !slices.Contains(inner, k) {
					t.Fatalf("%v is not inner any more", k)
				}
			}
		}
		r.Shuffle(len(parts), func(i, j int) { parts[i], parts[j] = parts[j], parts[i] })
		if !view.Same(whole, merged(t, parts)) {
			t.Fatal("the order matters")
		}
		plain(t, whole)
	}
}

// plain holds Inner and Outer against the words, link by link.
func plain(t *testing.T, v api.View) {
	t.Helper()
	var inner, outer []api.Known
	for _, k := range v.Links {
		if !slices.Contains(v.Nodes, k.Peer) {
			outer = append(outer, k)
		}
		for _, o := range v.Links {
			if k.Node < k.Peer && o.Node == k.Peer && o.Peer == k.Node && o.W == k.W && o.Session == k.Session {
				inner = append(inner, link(k.Node, k.Peer, k.W, k.Session, k.Marked && o.Marked))
			}
		}
	}
	if got, _ := view.Inner(v); !slices.Equal(got, inner) {
		t.Fatalf("Inner(%v) = %v", v, got)
	}
	if got, _ := view.Outer(v); !slices.Equal(got, outer) {
		t.Fatalf("Outer(%v) = %v", v, got)
	}
}

// R3: a merged view is new memory.
func TestMemory(t *testing.T) {
	a := of([]int{2}, link(2, 3, 5, 1, true))
	m, _ := view.Merge(a, of(nil))
	m.Nodes[0], m.Links[0].W = 9, 9
	n, _ := view.Merge(of(nil), a)
	n.Nodes[0], n.Links[0].W = 9, 9
	in, _ := view.Outer(a)
	in[0].W = 9
	if a.Nodes[0] != 2 || a.Links[0].W != 5 {
		t.Error("memory is shared")
	}
}
