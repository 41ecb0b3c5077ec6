package span_test

import (
	"math"
	"math/rand"
	"reflect"
	"slices"
	"testing"

	"withy/api"
	"withy/edge"
	"withy/span"
)

type edges = []api.Edge

// refused are edges that may not be together, with layer 5's error.
func refused() map[string]edges {
	var long edges
	for a := 1; a <= 64; a++ {
		for b := a + 1; b <= 64 && len(long) < 513; b++ {
			long = append(long, api.Edge{A: a, B: b})
		}
	}
	return map[string]edges{
		"one that may not be":  {{A: 1, B: 2, W: 4}, {A: 3, B: 2}},
		"a weight below 0":     {{A: 1, B: 2, W: -4}},
		"one twice":            {{A: 1, B: 2, W: 4}, {A: 1, B: 2, W: 5}},
		"too many":             long,
		"too many, one is bad": append(slices.Clone(long), api.Edge{}),
	}
}

// Sp1, Sp2: what may not be together.
func TestRefused(t *testing.T) {
	for name, l := range refused() {
		want := edge.CheckAll(l)
		if want == api.OK {
			t.Fatal(name)
		}
		if got, e := span.Least(l); e != want || len(got) != 0 {
			t.Errorf("%s: Least: error %d", name, e)
		}
		if got, e := span.Parts([]int{1, 2}, l); e != want || len(got) != 0 {
			t.Errorf("%s: Parts: error %d", name, e)
		}
		if got, e := span.Parts([]int{0}, l); e != api.ErrArg || len(got) != 0 {
			t.Errorf("%s: Parts of no node: error %d", name, e)
		}
		if span.Forest(l) || span.Linked(l, 1, 2) || span.Linked(l, 1, 1) || span.Weight(l) != 0 {
			t.Errorf("%s: Forest, Linked, Weight", name)
		}
	}
}

// Sp1: the chapter's example, and others by hand.
func TestExamples(t *testing.T) {
	l := edges{{A: 1, B: 2, W: 5}, {A: 2, B: 3, W: 1}, {A: 1, B: 3, W: 1}}
	if got, e := span.Least(l); e != api.OK || !slices.Equal(got, edges{{A: 1, B: 3, W: 1}, {A: 2, B: 3, W: 1}}) {
		t.Errorf("the chapter's: %v, error %d", got, e)
	}
	if span.Forest(l) || !span.Forest(l[1:]) || !span.Forest(nil) || span.Weight(l) != 7 || span.Weight(nil) != 0 {
		t.Error("Forest, Weight")
	}
	if got, e := span.Least(nil); e != api.OK || len(got) != 0 {
		t.Error("the least of none")
	}
	great := edges{{A: 1, B: 2, W: api.MaxCount}, {A: 2, B: 3, W: api.MaxCount}, {A: 1, B: 3, W: api.MaxCount}}
	if span.Weight(great) != 3*api.MaxCount {
		t.Error("great weights")
	}
}

// Sp1: who is linked.
func TestLinked(t *testing.T) {
	l := edges{{A: 1, B: 2}, {A: 2, B: 9}, {A: 5, B: 6}}
	for _, c := range []struct {
		a, b int
		want bool
	}{
		{1, 9, true}, {9, 1, true}, {1, 5, false}, {6, 5, true}, {7, 7, true}, {64, 64, true}, {7, 8, false},
		{0, 0, false}, {65, 65, false}, {-1, 1, false}, {1, math.MaxInt, false}, {math.MinInt, math.MinInt, false},
	} {
		if span.Linked(l, c.a, c.b) != c.want {
			t.Errorf("%d, %d", c.a, c.b)
		}
	}
}

// Sp2: parts.
func TestParts(t *testing.T) {
	l := edges{{A: 1, B: 2}, {A: 2, B: 9}, {A: 5, B: 6}}
	for _, c := range []struct {
		nodes []int
		want  [][]int
		e     api.Errno
	}{
		{[]int{9, 6, 1, 5, 3}, [][]int{{1, 9}, {3}, {5, 6}}, api.OK},
		{[]int{9, 6}, [][]int{{6}, {9}}, api.OK},
		{nil, nil, api.OK},
		{[]int{64, 1}, [][]int{{1}, {64}}, api.OK},
		{[]int{1, 2, 1}, nil, api.ErrArg},
		{[]int{0}, nil, api.ErrArg},
		{[]int{65}, nil, api.ErrArg},
		{[]int{-1}, nil, api.ErrArg},
		{[]int{math.MaxInt}, nil, api.ErrArg},
	} {
		got, e := span.Parts(c.nodes, l)
		if e != c.e || len(got) != len(c.want) || len(got) > 0 && !reflect.DeepEqual(got, c.want) {
			t.Errorf("Parts(%v) = %v, error %d", c.nodes, got, e)
		}
	}
}

func some(r *rand.Rand, nodes, n, weights int) edges {
	var l edges
	for _, k := range r.Perm(nodes * nodes) {
		a, b := k/nodes+1, k%nodes+1
		if a < b && len(l) < n {
			l = append(l, api.Edge{A: a, B: b, W: r.Intn(weights)})
		}
	}
	return l
}

// leads tells whether edges lead from one node to another one, the plainest way.
func leads(l edges, a, b int) bool {
	met := map[int]bool{a: true}
	for range l {
		for _, e := range l {
			if met[e.A] || met[e.B] {
				met[e.A], met[e.B] = true, true
			}
		}
	}
	return met[b]
}

// Sp1, Sp3: the least forest is a forest, links the same, and no other one weighs less.
func TestLeast(t *testing.T) {
	r := rand.New(rand.NewSource(11))
	for range 300 {
		n := 2 + r.Intn(5)
		l := some(r, n, r.Intn(9), 1+r.Intn(6))
		least, e := span.Least(l)
		if e != api.OK || !span.Forest(least) || !slices.IsSortedFunc(least, edge.Compare) {
			t.Fatalf("%v: %v, error %d", l, least, e)
		}
		for pick := range 1 << len(l) {
			var part edges
			for i, x := range l {
				if pick>>i&1 == 1 {
					part = append(part, x)
				}
			}
			if same(part, l, n) && span.Weight(part) < span.Weight(least) {
				t.Fatalf("%v: %v weighs less than %v", l, part, least)
			}
			if span.Forest(part) != circleless(part) {
				t.Fatalf("Forest(%v)", part)
			}
		}
		if !same(least, l, n) {
			t.Fatalf("%v: %v links other nodes", l, least)
		}
		for _, x := range l {
			ahead := slices.DeleteFunc(slices.Clone(least), func(y api.Edge) bool { return edge.Compare(y, x) >= 0 })
			if slices.Contains(least, x) == leads(ahead, x.A, x.B) {
				t.Fatalf("%v: %v is wrong in %v", l, x, least)
			}
		}
	}
}

func same(a, b edges, n int) bool {
	for x := 1; x <= n; x++ {
		for y := 1; y <= n; y++ {
			if leads(a, x, y) != leads(b, x, y) || span.Linked(a, x, y) != leads(a, x, y) {
				return false
			}
		}
	}
	return true
}

func circleless(l edges) bool {
	for i, x := range l {
		if leads(slices.Concat(l[:i], l[i+1:]), x.A, x.B) {
			return false
		}
	}
	return true
}

// R3: what is handed in stays, and answers share nothing.
func TestMemory(t *testing.T) {
	l := edges{{A: 2, B: 3, W: 9}, {A: 1, B: 2, W: 5}}
	nodes := []int{3, 1, 2, 5}
	least, _ := span.Least(l)
	least[0].W = 77
	parts, _ := span.Parts(nodes, l)
	_ = append(parts[0], 88)
	parts[0][0] = 99
	if parts[1][0] != 5 || nodes[1] != 1 || l[0].W != 9 || l[1].W != 5 {
		t.Error("memory is shared")
	}
}
