package choose_test

import (
	"math"
	"math/rand"
	"slices"
	"testing"

	"withy/api"
	"withy/choose"
	"withy/edge"
	"withy/span"
	"withy/tree"
	"withy/view"
)

const top = api.MaxCount

// Cs1: which choices may be.
func TestCheck(t *testing.T) {
	for i, c := range []struct {
		c    api.Choice
		want api.Errno
	}{
		{api.Choice{Kind: 1}, api.OK},
		{api.Choice{Kind: 1, A: 1}, api.ErrArg},
		{api.Choice{Kind: 1, B: 1}, api.ErrArg},
		{api.Choice{Kind: 1, Session: 1}, api.ErrArg},
		{api.Choice{}, api.ErrArg},
		{api.Choice{Kind: 4, A: 1, B: 2, Session: 1}, api.ErrArg},
		{api.Choice{Kind: -1, A: 1, B: 2, Session: 1}, api.ErrArg},
		{api.Choice{Kind: 2, A: 1, B: 2, Session: 1}, api.OK},
		{api.Choice{Kind: 2, A: 64, B: 1, Session: top}, api.OK},
		{api.Choice{Kind: 3, A: 1, B: 64, Session: top}, api.OK},
		{api.Choice{Kind: 3, A: 2, B: 1, Session: 1}, api.ErrArg},
		{api.Choice{Kind: 2, A: 2, B: 2, Session: 1}, api.ErrArg},
		{api.Choice{Kind: 3, A: 2, B: 2, Session: 1}, api.ErrArg},
		{api.Choice{Kind: 2, A: 0, B: 2, Session: 1}, api.ErrArg},
		{api.Choice{Kind: 2, A: 2, B: 65, Session: 1}, api.ErrArg},
		{api.Choice{Kind: 3, A: -1, B: 2, Session: 1}, api.ErrArg},
		{api.Choice{Kind: 2, A: 1, B: 2}, api.ErrArg},
		{api.Choice{Kind: 3, A: 1, B: 2, Session: -1}, api.ErrArg},
		{api.Choice{Kind: 2, A: 1, B: 2, Session: top + 1}, api.ErrArg},
		{api.Choice{Kind: 3, A: 1, B: 2, Session: math.MinInt}, api.ErrArg},
	} {
		if e := choose.Check(c.c); e != c.want {
			t.Errorf("%d: error %d", i, e)
		}
	}
}

// link is a link of two nodes, of that weight and session.
type link struct {
	a, b, w, session int
	bound            bool
}

// known is the view of nodes that know all their links.
func known(nodes []int, links []link) api.View {
	v := api.View{Nodes: nodes}
	for _, n := range nodes {
		for peer := 1; peer <= api.MaxNodes; peer++ {
			for _, l := range links {
				if l.a == n && l.b == peer || l.b == n && l.a == peer {
					v.Links = append(v.Links, api.Known{Node: n, Peer: peer, W: l.w, Session: l.session, Marked: l.bound})
				}
			}
		}
	}
	return v
}

// Cs1: choices by hand.
func TestChoose(t *testing.T) {
	long := make([]link, 0, 2016)
	var all []int
	for a := 1; a <= 64; a++ {
		all = append(all, a)
		for b := a + 1; b <= 64; b++ {
			long = append(long, link{a, b, 1, 1, true})
		}
	}
	for _, c := range []struct {
		name string
		v    api.View
		want api.Choice
		e    api.Errno
	}{
		{"the chapter's", known([]int{1, 2, 3}, []link{{1, 2, 5, 7, true}, {1, 3, 1, 8, true}, {2, 3, 2, 9, false}}), api.Choice{Kind: 3, A: 1, B: 2, Session: 7}, api.OK},
		{"nothing", api.View{}, api.Choice{Kind: 1}, api.OK},
		{"one node", known([]int{9}, nil), api.Choice{Kind: 1}, api.OK},
		{"the heaviest is not bound", known([]int{1, 2, 3}, []link{{1, 2, 5, 7, false}, {1, 3, 1, 8, true}, {2, 3, 2, 9, true}}), api.Choice{Kind: 1}, api.OK},
		{"alike, but behind", known([]int{1, 2, 3}, []link{{1, 2, 5, 7, true}, {1, 3, 5, 8, true}, {2, 3, 5, 9, false}}), api.Choice{Kind: 1}, api.OK},
		{"alike, and ahead", known([]int{1, 2, 3}, []link{{1, 2, 5, 7, false}, {1, 3, 5, 8, true}, {2, 3, 5, 9, true}}), api.Choice{Kind: 3, A: 2, B: 3, Session: 9}, api.OK},
		{"evicting comes first", known([]int{1, 2, 3}, []link{{1, 2, 5, 7, true}, {1, 3, 1, 8, true}, {2, 3, 2, 9, false}, {1, 4, 0, 6, false}}), api.Choice{Kind: 3, A: 1, B: 2, Session: 7}, api.OK},
		{"the first that closes a circle", known([]int{1, 2, 3, 4}, []link{{1, 2, 9, 7, true}, {2, 3, 8, 8, true}, {3, 4, 7, 9, true}, {2, 4, 2, 6, false}, {1, 3, 1, 5, false}}), api.Choice{Kind: 3, A: 1, B: 2, Session: 7}, api.OK},
		{"an inner link that bound edges don't link", known([]int{1, 2}, []link{{1, 2, 5, 7, false}}), api.Choice{Kind: 1}, api.OK},
		{"the least outer one", known([]int{2, 3}, []link{{2, 3, 0, 7, true}, {2, 5, 4, 8, false}, {3, 1, 3, 9, false}, {3, 9, 3, 6, true}}), api.Choice{Kind: 2, A: 3, B: 1, Session: 9}, api.OK},
		{"outer ones of one weight", known([]int{2, 3}, []link{{2, 3, 0, 7, true}, {2, 5, 3, 8, false}, {3, 4, 3, 9, false}}), api.Choice{Kind: 2, A: 2, B: 5, Session: 8}, api.OK},
		{"by the lower end, whichever it is", known([]int{2, 3}, []link{{2, 5, 3, 8, false}, {3, 1, 3, 9, false}}), api.Choice{Kind: 2, A: 3, B: 1, Session: 9}, api.OK},
		{"a view that may not be", api.View{Nodes: []int{0}}, api.Choice{}, api.ErrArg},
		{"a circle", known([]int{1, 2, 3}, []link{{1, 2, 5, 7, true}, {1, 3, 1, 8, true}, {2, 3, 2, 9, true}}), api.Choice{}, api.ErrCycle},
		{"all are bound", known(all, long), api.Choice{}, api.ErrCycle},
	} {
		got, e := choose.Choose(c.v)
		if got != c.want || e != c.e {
			t.Errorf("%s: %v, error %d", c.name, got, e)
		}
	}
}

// Cs1: of any views, against the words.
func TestWords(t *testing.T) {
	r := rand.New(rand.NewSource(14))
	for range 2000 {
		n := 2 + r.Intn(5)
		var v api.View
		for node := 1; node <= n; node++ {
			if r.Intn(5) == 0 {
				continue
			}
			v.Nodes = append(v.Nodes, node)
			for peer := 1; peer <= n; peer++ {
				if peer != node && r.Intn(4) > 0 {
					v.Links = append(v.Links, api.Known{Node: node, Peer: peer, W: (node*peer + node + peer) % 4, Session: 1 + r.Intn(8)/7, Marked: r.Intn(3) == 0})
				}
			}
		}
		want, wantErr := plain(v)
		if got, e := choose.Choose(v); got != want || e != wantErr || e == api.OK && choose.Check(got) != api.OK {
			t.Fatalf("%v: %v, error %d, not %v, error %d", v, got, e, want, wantErr)
		}
	}
}

func plain(v api.View) (api.Choice, api.Errno) {
	inner, _ := view.Inner(v)
	bound, _ := view.Bound(v)
	outer, _ := view.Outer(v)
	if !span.Forest(bound) {
		return api.Choice{}, api.ErrCycle
	}
	var first, heavy api.Edge
	for _, k := range inner {
		e := view.Edge(k)
		h, err := tree.Heaviest(bound, e.A, e.B)
		if !k.Marked && err == api.OK && edge.Compare(e, h) < 0 && (first.A == 0 || edge.Compare(e, first) < 0) {
			first, heavy = e, h
		}
	}
	for _, k := range inner {
		if first.A != 0 && k.Node == heavy.A && k.Peer == heavy.B {
			return api.Choice{Kind: api.ChoiceEvict, A: heavy.A, B: heavy.B, Session: k.Session}, api.OK
		}
	}
	c := api.Choice{Kind: api.ChoiceDone}
	for _, k := range outer {
		if e := view.Edge(k); first.A == 0 || edge.Compare(e, first) < 0 {
			first = e
			c = api.Choice{Kind: api.ChoiceGrant, A: k.Node, B: k.Peer, Session: k.Session}
		}
	}
	return c, api.OK
}

// Cs2: again and again, it ends with the least forest.
func TestEnds(t *testing.T) {
	r := rand.New(rand.NewSource(15))
	for range 300 {
		n := 1 + r.Intn(9)
		var links []link
		var nodes []int
		var bound []api.Edge
		for a := 1; a <= n; a++ {
			nodes = append(nodes, a)
			for b := a + 1; b <= n; b++ {
				if r.Intn(3) > 0 {
					links = append(links, link{a, b, r.Intn(6), 1 + r.Intn(9), false})
				}
			}
		}
		r.Shuffle(len(links), func(i, j int) { links[i], links[j] = links[j], links[i] })
		for i := range links {
			if e := edgeOf(links[i]); r.Intn(2) == 0 && span.Forest(append(slices.Clone(bound), e)) {
				bound = append(bound, e)
				links[i].bound = true
			}
		}
		ends(t, nodes, links)
	}
}

func edgeOf(l link) api.Edge { return api.Edge{A: l.a, B: l.b, W: l.w} }

func boundOf(links []link) []api.Edge {
	var out []api.Edge
	for _, l := range links {
		if l.bound {
			out = append(out, edgeOf(l))
		}
	}
	return out
}

func ends(t *testing.T, nodes []int, links []link) {
	t.Helper()
	for round := 0; ; round++ {
		parts, _ := span.Parts(nodes, boundOf(links))
		var choices []api.Choice
		done := true
		for _, p := range parts {
			c, e := choose.Choose(known(p, links))
			if e != api.OK {
				t.Fatalf("%v of %v: error %d", p, links, e)
			}
			done = done && c.Kind == api.ChoiceDone
			choices = append(choices, c)
		}
		if done {
			break
		}
		if round > 3*len(links) {
			t.Fatalf("%v: no end", links)
		}
		before := slices.Clone(links)
		turn(links, choices)
		if slices.Equal(before, links) || !span.Forest(boundOf(links)) {
			t.Fatalf("%v became %v", before, links)
		}
	}
	var all []api.Edge
	for _, l := range links {
		all = append(all, edgeOf(l))
	}
	want, _ := span.Least(all)
	got, _ := edge.Sort(boundOf(links))
	if !slices.Equal(got, want) {
		t.Fatalf("%v is not the least forest %v", got, want)
	}
}

func turn(links []link, choices []api.Choice) {
	for i := range links {
		l := &links[i]
		there := slices.Contains(choices, api.Choice{Kind: api.ChoiceGrant, A: l.a, B: l.b, Session: l.session})
		back := slices.Contains(choices, api.Choice{Kind: api.ChoiceGrant, A: l.b, B: l.a, Session: l.session})
		if there && back {
			l.bound = true
		}
		if slices.Contains(choices, api.Choice{Kind: api.ChoiceEvict, A: l.a, B: l.b, Session: l.session}) {
			l.bound = false
		}
	}
}
