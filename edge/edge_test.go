package edge_test

import (
	"math"
	"math/rand"
	"slices"
	"testing"

	"withy/api"
	"withy/edge"
)

const top = api.MaxCount

// Ed1: which numbers are nodes.
func TestNode(t *testing.T) {
	for n, want := range map[int]bool{0: false, 1: true, 64: true, 65: false, -1: false, math.MinInt: false, math.MaxInt: false} {
		if edge.Node(n) != want {
			t.Errorf("Node(%d)", n)
		}
	}
}

// Ed1: which edges may be, and that Of makes them in any order.
func TestCheckOf(t *testing.T) {
	for _, c := range []struct {
		e    api.Edge
		want api.Errno
	}{
		{api.Edge{A: 1, B: 2}, api.OK},
		{api.Edge{A: 63, B: 64, W: top}, api.OK},
		{api.Edge{A: 1, B: 2, W: -1}, api.ErrArg},
		{api.Edge{A: 1, B: 2, W: top + 1}, api.ErrArg},
		{api.Edge{A: 2, B: 2}, api.ErrArg},
		{api.Edge{A: 0, B: 2}, api.ErrArg},
		{api.Edge{A: 1, B: 65}, api.ErrArg},
		{api.Edge{A: -1, B: 1}, api.ErrArg},
		{api.Edge{}, api.ErrArg},
	} {
		if got := edge.Check(c.e); got != c.want {
			t.Errorf("Check(%v): error %d", c.e, got)
		}
		want := c.e
		if c.want != api.OK {
			want = api.Edge{}
		}
		if got, e := edge.Of(c.e.A, c.e.B, c.e.W); got != want || e != c.want {
			t.Errorf("Of(%v) = %v, error %d", c.e, got, e)
		}
		if got, e := edge.Of(c.e.B, c.e.A, c.e.W); got != want || e != c.want {
			t.Errorf("Of(%v), turned, = %v, error %d", c.e, got, e)
		}
	}
	if edge.Check(api.Edge{A: 2, B: 1}) != api.ErrArg {
		t.Error("the lower end comes first")
	}
	if e, _ := edge.Of(3, 1, 7); e != (api.Edge{A: 1, B: 3, W: 7}) {
		t.Error("the chapter's example")
	}
}

// many is n edges, no two of the same ends.
func many(n int) []api.Edge {
	var l []api.Edge
	for a := 1; a <= api.MaxNodes; a++ {
		for b := a + 1; b <= api.MaxNodes; b++ {
			if len(l) < n {
				l = append(l, api.Edge{A: a, B: b, W: (a*31 + b*17) % 5})
			}
		}
	}
	return l
}

// Ed1, Ed2: which edges may be together, and that Sort refuses the others.
func TestTogether(t *testing.T) {
	for _, c := range []struct {
		name string
		l    []api.Edge
		want api.Errno
	}{
		{"none", nil, api.OK},
		{"512", many(512), api.OK},
		{"513", many(513), api.ErrLong},
		{"all", many(2016), api.ErrLong},
		{"one that may not be", append(many(3), api.Edge{A: 4, B: 3}), api.ErrArg},
		{"too many, and one that may not be", append(many(600), api.Edge{}), api.ErrArg},
		{"one twice", append(many(3), many(1)...), api.ErrArg},
		{"one twice, of other weights", []api.Edge{{A: 1, B: 2, W: 3}, {A: 1, B: 2, W: 4}}, api.ErrArg},
		{"too many, and one twice", append(many(600), many(1)...), api.ErrArg},
	} {
		if e := edge.CheckAll(c.l); e != c.want {
			t.Errorf("%s: error %d", c.name, e)
		}
		l, e := edge.Sort(c.l)
		if e != c.want || e != api.OK && len(l) != 0 || e == api.OK && len(l) != len(c.l) {
			t.Errorf("%s: Sort: %d edges, error %d", c.name, len(l), e)
		}
	}
}

// Ed2: the order, by W, then A, then B.
func TestCompare(t *testing.T) {
	rising := []api.Edge{{W: math.MinInt}, {A: 9, B: 9, W: -1}, {A: -1, B: 5}, {A: 1, B: 2}, {A: 1, B: 3}, {A: 2, B: 1}, {A: 1, B: 2, W: 1}, {A: math.MinInt, W: 7}, {A: 2, B: math.MinInt, W: 7}, {W: math.MaxInt}}
	for i, a := range rising {
		for j, b := range rising {
			want := 0
			if i < j {
				want = -1
			} else if i > j {
				want = 1
			}
			if got := edge.Compare(a, b); got != want {
				t.Errorf("Compare(%v, %v) = %d", a, b, got)
			}
		}
	}
}

// Ed2, Ed3: what is sorted is in the one order that there is.
func TestSort(t *testing.T) {
	r := rand.New(rand.NewSource(8))
	l := many(200)
	want, _ := edge.Sort(l)
	for i := 1; i < len(want); i++ {
		if edge.Compare(want[i-1], want[i]) != -1 {
			t.Fatalf("%v ahead of %v", want[i-1], want[i])
		}
	}
	for range 30 {
		r.Shuffle(len(l), func(i, j int) { l[i], l[j] = l[j], l[i] })
		before := slices.Clone(l)
		got, e := edge.Sort(l)
		if e != api.OK || !slices.Equal(got, want) || !slices.Equal(l, before) {
			t.Fatal("another order, or what was handed in was changed")
		}
	}
}

// Ed3: of two unlike edges one is ahead, and what is ahead of what is ahead is ahead.
func TestOrder(t *testing.T) {
	r := rand.New(rand.NewSource(9))
	some := func() api.Edge { return api.Edge{A: r.Intn(3), B: r.Intn(3), W: r.Intn(3)} }
	for range 5000 {
		a, b, c := some(), some(), some()
		if edge.Compare(a, b) != -edge.Compare(b, a) || (edge.Compare(a, b) == 0) != (a == b) {
			t.Fatalf("%v, %v", a, b)
		}
		if edge.Compare(a, b) < 0 && edge.Compare(b, c) < 0 && edge.Compare(a, c) >= 0 {
			t.Fatalf("%v, %v, %v", a, b, c)
		}
	}
}

// Ed2: the other end.
func TestOther(t *testing.T) {
	e := api.Edge{A: 2, B: 5, W: 7}
	if edge.Other(e, 2) != 5 || edge.Other(e, 5) != 2 || edge.Other(e, 7) != 0 || edge.Other(e, 0) != 0 {
		t.Error("the other end of 2-5")
	}
}

// Ed2: all ends that are nodes.
func TestNodes(t *testing.T) {
	l := []api.Edge{{A: 9, B: 3}, {A: 64, B: 65}, {A: 0, B: -2}, {A: 3, B: 9, W: -1}, {A: 1, B: 1}}
	if got := edge.Nodes(l); !slices.Equal(got, []int{1, 3, 9, 64}) {
		t.Errorf("Nodes = %v", got)
	}
	if len(edge.Nodes(nil)) != 0 {
		t.Error("of no edges")
	}
	if got := edge.Nodes(many(2016)); len(got) != 64 || !slices.IsSorted(got) {
		t.Error("of all edges")
	}
}
