package field_test

import (
	"fmt"
	"math"
	"math/rand"
	"reflect"
	"slices"
	"testing"

	"withy/air"
	"withy/api"
	"withy/core"
	"withy/field"
	"withy/frame"
	"withy/link"
	"withy/node"
	"withy/span"
)

const top = api.MaxCount

var wide = api.Limits{Epoch: top, Session: top, Seq: top}

func made(t *testing.T, n int, l api.Limits) *field.Field {
	t.Helper()
	f, e := field.New(n, l)
	if e != api.OK {
		t.Fatalf("New(%d, %v): error %d", n, l, e)
	}
	return f
}

func do(t *testing.T, f *field.Field, ops ...api.Op) {
	t.Helper()
	for _, o := range ops {
		if e := f.Do(o); e != api.OK {
			t.Fatalf("%v: error %d", o, e)
		}
	}
}

func up(a, b, w int) api.Op { return api.Op{Kind: api.OpUp, A: a, B: b, W: w} }
func down(a, b int) api.Op  { return api.Op{Kind: api.OpDown, A: a, B: b} }
func tick(a int) api.Op     { return api.Op{Kind: api.OpTick, A: a} }
func nth(kind, n int) api.Op {
	return api.Op{Kind: kind, N: n}
}

var round = api.Op{Kind: api.OpRound}

// in is what is in the air, as text.
func in(f *field.Field) []string {
	var out []string
	for _, x := range f.Air().Flights {
		d, e := frame.Decode(x.B)
		s := fmt.Sprint(x.From, ">", x.To, " ", []string{"?", "hello", "welcome", "data", "ack", "pulse"}[d.Kind])
		if e == api.OK {
			s += fmt.Sprint(" ", d.Session)
		}
		if x.Bent {
			s += " bent"
		}
		out = append(out, s)
	}
	return out
}

func air3(t *testing.T, f *field.Field, want ...string) {
	t.Helper()
	if got := in(f); !slices.Equal(got, want) {
		t.Errorf("in the air: %q, not %q", got, want)
	}
}

// Fi1: which fields there are.
func TestNew(t *testing.T) {
	for _, n := range []int{1, 16} {
		f := made(t, n, wide)
		if f.Nodes() != n || len(f.Cores()) != n || !air.Same(f.Air(), api.Air{}) || f.Queued() != 0 || !f.Quiet() {
			t.Errorf("a new field of %d", n)
		}
		for id := -1; id < 20; id++ {
			want, _ := core.New(id, top)
			if id > n {
				want = api.Core{}
			}
			if !core.Same(f.Core(id), want) || len(f.Links(id)) != 0 || len(f.Events(id)) != 0 {
				t.Errorf("node %d of %d", id, n)
			}
		}
		for i, c := range f.Cores() {
			if !core.Same(c, f.Core(i+1)) {
				t.Errorf("core %d of %d", i+1, n)
			}
		}
	}
	for _, n := range []int{0, 17, -1, math.MinInt, math.MaxInt} {
		if f, e := field.New(n, wide); e != api.ErrArg || f != nil {
			t.Errorf("New(%d): error %d", n, e)
		}
	}
	for _, l := range []api.Limits{{}, {Epoch: 1, Session: 1}, {Epoch: 1, Seq: 1}, {Session: 1, Seq: 1}, {Epoch: top + 1, Session: 1, Seq: 1}} {
		if f, e := field.New(2, l); e != api.ErrArg || f != nil {
			t.Errorf("New, %v: error %d", l, e)
		}
	}
}

// Of a Field that New did not give: zeros.
func TestNoField(t *testing.T) {
	for _, f := range []*field.Field{nil, {}} {
		for kind := range api.OpKinds + 1 {
			if e := f.Do(api.Op{Kind: kind, A: 1, B: 2}); e != api.ErrArg {
				t.Errorf("Do %d: error %d", kind, e)
			}
		}
		if f.Nodes() != 0 || !core.Same(f.Core(1), api.Core{}) || len(f.Events(1)) != 0 || len(f.Links(1)) != 0 || !air.Same(f.Air(), api.Air{}) || len(f.Cores()) != 0 || f.Queued() != 0 || !f.Quiet() {
			t.Error("zeros")
		}
	}
}

// Fi2: links that there can't be; and acts that do nothing.
func TestNothing(t *testing.T) {
	f := made(t, 3, wide)
	for _, o := range []api.Op{up(1, 1, 5), up(0, 1, 5), up(1, 4, 5), up(4, 1, 5), up(1, 2, -1), up(1, 2, top+1), up(1, 64, 5), up(1, 65, 5), up(-1, 2, 5), up(math.MinInt, math.MaxInt, 0)} {
		if e := f.Do(o); e != api.ErrArg {
			t.Errorf("%v: error %d", o, e)
		}
	}
	if len(f.Links(1)) != 0 {
		t.Error("a port, though the link can't be")
	}
	do(t, f, up(1, 2, 5), tick(0), tick(4), tick(-1), tick(math.MaxInt), api.Op{}, api.Op{Kind: -1}, api.Op{Kind: api.OpKinds}, down(1, 3), down(0, 99), down(1, 1))
	air3(t, f, "1>2 hello 1", "2>1 hello 1")
}

// Fi2: who ticks, and what becomes of what is in the air.
func TestActs(t *testing.T) {
	f := made(t, 3, wide)
	do(t, f, up(3, 1, 5), up(1, 2, 7))
	if got := f.Air().Ups; !slices.Equal(got, []api.Edge{{A: 1, B: 2, W: 7}, {A: 1, B: 3, W: 5}}) {
		t.Errorf("Ups: %v", got)
	}
	for id, want := range map[int][][2]int{1: {{2, 7}, {3, 5}}, 2: {{1, 7}}, 3: {{1, 5}}} {
		var got [][2]int
		for _, l := range f.Links(id) {
			got = append(got, [2]int{l.Peer, l.W})
		}
		if !slices.Equal(got, want) {
			t.Errorf("links of %d: %v", id, got)
		}
	}
	do(t, f, tick(1))
	air3(t, f, "1>2 hello 1", "1>3 hello 1")
	do(t, f, nth(api.OpLate, 0), nth(api.OpTwice, -1), tick(2))
	air3(t, f, "1>3 hello 1", "1>2 hello 1", "1>2 hello 1", "2>1 hello 1")
	do(t, f, nth(api.OpDrop, 1))
	do(t, f, nth(api.OpDeliver, 1))
	air3(t, f, "1>3 hello 1", "2>1 hello 1", "2>1 welcome 1")
	do(t, f, api.Op{Kind: api.OpCut, N: 0, W: 5}, api.Op{Kind: api.OpBurst, N: 1, B: 3, W: 1 << 31})
	air3(t, f, "1>3 ? bent", "2>1 ? bent", "2>1 welcome 1")
	do(t, f, nth(api.OpDeliver, 0), nth(api.OpDeliver, 3), tick(0))
	air3(t, f, "2>1 ? bent", "1>2 data 1", "1>3 hello 1", "2>1 hello 1", "3>1 hello 1")
	do(t, f, down(2, 1))
	air3(t, f, "1>3 hello 1", "3>1 hello 1")
	if len(f.Links(1)) != 2 || len(f.Links(2)) != 1 {
		t.Error("that it is down none is told")
	}
}

// Fi2: a link of another weight: both are told, first the first.
func TestWeigh(t *testing.T) {
	f := made(t, 4, wide)
	do(t, f, up(1, 2, 5), up(1, 3, 1), up(2, 4, 1))
	for range 30 {
		do(t, f, round)
	}
	bound(t, f)
	for len(f.Air().Flights) > 0 {
		do(t, f, nth(api.OpDeliver, 0))
	}
	do(t, f, up(2, 1, 6))
	air3(t, f, "2>4 data 1", "1>3 data 1")
	for id, peer := range map[int]int{1: 2, 2: 1} {
		v := f.Events(id)
		if last := v[len(v)-1]; last.Kind != api.EventDown || last.Peer != peer {
			t.Errorf("node %d heard %v", id, last)
		}
	}
	do(t, f, up(2, 1, 6))
	if len(f.Air().Flights) != 2 {
		t.Error("the same weight again")
	}
	for range 30 {
		do(t, f, round)
	}
	bound(t, f)
}

// bound holds what all have bound against the least forest.
func bound(t *testing.T, f *field.Field) {
	t.Helper()
	var got []api.Edge
	cores := f.Cores()
	for _, c := range cores {
		for _, x := range c.Ties {
			if x.Vow.Bound && c.Id < x.Peer {
				got = append(got, api.Edge{A: c.Id, B: x.Peer, W: x.W})
			}
		}
		if c.Phase != api.PhaseDone {
			t.Errorf("core %d: %v", c.Id, c)
		}
	}
	least, _ := span.Least(f.Air().Ups)
	slices.SortFunc(got, func(a, b api.Edge) int { return a.W*10000 + a.A*100 + a.B - b.W*10000 - b.A*100 - b.B })
	if !slices.Equal(got, least) {
		t.Errorf("bound: %v, not %v", got, least)
	}
}

// The chapter's example; and Fi2: what a round is.
func TestRound(t *testing.T) {
	f, g := made(t, 4, wide), made(t, 4, wide)
	for i := range 60 {
		if i == 0 || i == 20 {
			o := up(1+i/20, 2+i/20, 5)
			do(t, f, o, up(1, 4, 3))
			do(t, g, o, up(1, 4, 3))
		}
		do(t, f, round)
		do(t, g, tick(1), tick(2), tick(3), tick(4))
		for range len(g.Air().Flights) {
			do(t, g, nth(api.OpDeliver, 0))
		}
		same(t, f, g)
	}
	bound(t, f)
	if !f.Quiet() || f.Queued() != 0 {
		t.Error("it is not quiet")
	}
}

func same(t *testing.T, f, g *field.Field) {
	t.Helper()
	if !air.Same(f.Air(), g.Air()) || f.Queued() != g.Queued() || f.Quiet() != g.Quiet() {
		t.Fatal("another air")
	}
	for id := 1; id <= f.Nodes(); id++ {
		if !core.Same(f.Core(id), g.Core(id)) || !slices.EqualFunc(f.Links(id), g.Links(id), link.Same) || !reflect.DeepEqual(f.Events(id), g.Events(id)) {
			t.Fatalf("node %d is another one", id)
		}
	}
}

// Fi1: what waits, and what is quiet.
func TestQuiet(t *testing.T) {
	f := made(t, 2, wide)
	do(t, f, up(1, 2, 5), tick(1), nth(api.OpDeliver, 0))
	if !f.Quiet() {
		t.Error("signs alone are quiet")
	}
	do(t, f, nth(api.OpDeliver, 0))
	air3(t, f, "1>2 data 1")
	if f.Quiet() || f.Queued() != 1 {
		t.Errorf("%d are queued", f.Queued())
	}
	g := made(t, 2, wide)
	do(t, g, up(1, 2, 5), tick(2), nth(api.OpDeliver, 0), nth(api.OpDeliver, 0), nth(api.OpDrop, 0))
	if g.Quiet() || g.Queued() != 1 {
		t.Errorf("%d are queued", g.Queued())
	}
	do(t, g, tick(1), nth(api.OpDeliver, 0), nth(api.OpDeliver, -1))
	if g.Quiet() || g.Queued() != 2 {
		t.Errorf("%d are queued", g.Queued())
	}
	// Lost, and so queued still, though nothing is in the air.
	do(t, f, nth(api.OpDrop, 0))
	if f.Quiet() || f.Queued() != 1 {
		t.Errorf("%d are queued", f.Queued())
	}
	for range 30 {
		do(t, f, round)
	}
	if !f.Quiet() || f.Queued() != 0 {
		t.Errorf("%d are queued: %q", f.Queued(), in(f))
	}
	// Data in the air, though nothing waits any more; bent, it is no data.
	do(t, f, up(1, 2, 6))
	for !slices.Contains(in(f), "1>2 data 2") {
		do(t, f, tick(1), nth(api.OpDeliver, 0), nth(api.OpDeliver, -1))
	}
	at := slices.Index(in(f), "1>2 data 2")
	do(t, f, nth(api.OpTwice, at))
	for f.Queued() > 0 {
		if air := in(f); air[len(air)-1] != "1>2 data 2" {
			t.Fatalf("%q", air)
		}
		n := len(in(f)) - 1
		do(t, f, tick(0))
		for range n {
			do(t, f, nth(api.OpDeliver, 0))
		}
		do(t, f, nth(api.OpLate, 0))
	}
	for len(in(f)) > 1 {
		do(t, f, nth(api.OpDeliver, 0))
	}
	air3(t, f, "1>2 data 2")
	if f.Quiet() {
		t.Error("data is in the air")
	}
	do(t, f, nth(api.OpCut, 0))
	if !f.Quiet() {
		t.Error("what is bent is no data")
	}
}

// Fi3: whatever is done each core is as its events make it; the same acts have the same end.
func TestWhatever(t *testing.T) {
	r := rand.New(rand.NewSource(35))
	for range 40 {
		n := 1 + r.Intn(5)
		l := wide
		if r.Intn(2) == 0 {
			l = api.Limits{Epoch: 1 + r.Intn(30), Session: 1 + r.Intn(9), Seq: 1 + r.Intn(9)}
		}
		f, g := made(t, n, l), made(t, n, l)
		for range 250 {
			o := api.Op{Kind: 1 + r.Intn(api.OpKinds), A: r.Intn(n + 1), B: 1 + r.Intn(n), N: r.Intn(30) - 10, W: r.Intn(50)}
			if r.Intn(3) > 0 {
				o.Kind = api.OpDeliver
			}
			if e := f.Do(o); e != g.Do(o) || e != api.OK && o.Kind != api.OpUp {
				t.Fatalf("%v: error %d", o, e)
			}
			if air.Check(f.Air()) != api.OK {
				t.Fatalf("%v: the air may not be", o)
			}
		}
		same(t, f, g)
		for id := 1; id <= n; id++ {
			c, _ := core.New(id, l.Epoch)
			for _, v := range f.Events(id) {
				c, _, _ = core.Step(c, v)
			}
			if !core.Same(c, f.Core(id)) {
				t.Fatalf("core %d is %v, not %v", id, f.Core(id), c)
			}
		}
	}
}

// Fi3: what is quiet stays so, as long as nothing is lost.
func TestStaysQuiet(t *testing.T) {
	f := made(t, 5, wide)
	for a := 1; a <= 5; a++ {
		for b := a + 1; b <= 5; b++ {
			do(t, f, up(a, b, a*b))
		}
	}
	for range 60 {
		do(t, f, round)
	}
	bound(t, f)
	for range 100 {
		do(t, f, tick(0))
		for _, x := range f.Air().Flights {
			if d, _ := frame.Decode(x.B); d.Kind == api.FrameData {
				t.Fatal("data goes")
			}
		}
		do(t, f, round)
		if !f.Quiet() {
			t.Fatal("it is not quiet any more")
		}
	}
}

// R3: what is told is new memory.
func TestMemory(t *testing.T) {
	f, g := made(t, 2, wide), made(t, 2, wide)
	for _, x := range []*field.Field{f, g} {
		do(t, x, up(1, 2, 5), tick(0), nth(api.OpDeliver, 0), nth(api.OpDeliver, 0), nth(api.OpDeliver, 0), nth(api.OpDeliver, 0))
	}
	a := f.Air()
	a.Flights[0].B[3] ^= 1
	a.Ups[0].W = 77
	f.Links(1)[0].Line.Sender.Queue[0][0] ^= 1
	f.Core(1).Ties[0].W = 77
	f.Cores()[0].Ties[0].W = 77
	f.Events(1)[0].W = 77
	same(t, f, g)
	if n, e := node.New(1, wide); e != api.OK || !core.Same(n.Core(), made(t, 1, wide).Core(1)) {
		t.Error("a field's nodes are layer 25's")
	}
}
