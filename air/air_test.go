package air_test

import (
	"bytes"
	"math"
	"math/rand"
	"slices"
	"testing"

	"withy/air"
	"withy/api"
	"withy/bend"
	"withy/edge"
)

const top = api.MaxCount

func flight(from, to int, b string) api.Flight { return api.Flight{From: from, To: to, B: []byte(b)} }

func bent(f api.Flight) api.Flight { f.Bent = true; return f }

// ups are links between three nodes and one more.
func ups() []api.Edge {
	return []api.Edge{{A: 1, B: 2, W: 5}, {A: 1, B: 3, W: 1}, {A: 2, B: 3, W: 9}, {A: 2, B: 64}}
}

func of(f ...api.Flight) api.Air { return api.Air{Flights: f, Ups: ups()} }

func abc() api.Air {
	return of(flight(1, 2, "a"), flight(2, 1, "b"), bent(flight(3, 1, "c")))
}

// many is n links that are up, in order.
func many(n int) []api.Edge {
	var l []api.Edge
	for a := 1; a <= 64; a++ {
		for b := a + 1; b <= 64 && len(l) < n; b++ {
			l = append(l, api.Edge{A: a, B: b, W: a + b})
		}
	}
	return l
}

// Ai1: which airs may be, and what all tell of others.
func TestCheck(t *testing.T) {
	full := of()
	for range api.MaxAir {
		full.Flights = append(full.Flights, flight(1, 2, ""))
	}
	over := of(append(full.Flights, flight(1, 2, ""))...)
	for i, c := range []struct {
		a    api.Air
		want api.Errno
	}{
		{api.Air{}, api.OK},
		{abc(), api.OK},
		{full, api.OK},
		{api.Air{Ups: many(512)}, api.OK},
		{over, api.ErrArg},
		{api.Air{Ups: many(513)}, api.ErrArg},
		{api.Air{Ups: []api.Edge{{A: 1, B: 3}, {A: 1, B: 2}}}, api.ErrArg},
		{api.Air{Ups: []api.Edge{{A: 2, B: 3}, {A: 1, B: 4}}}, api.ErrArg},
		{api.Air{Ups: []api.Edge{{A: 1, B: 2}, {A: 1, B: 2, W: 1}}}, api.ErrArg},
		{api.Air{Ups: []api.Edge{{A: 2, B: 1}}}, api.ErrArg},
		{api.Air{Ups: []api.Edge{{A: 1, B: 2, W: -1}}}, api.ErrArg},
		{of(flight(1, 1, "")), api.ErrArg},
		{of(flight(0, 1, "")), api.ErrArg},
		{of(flight(1, 65, "")), api.ErrArg},
		{of(flight(-1, math.MaxInt, "")), api.ErrArg},
		{of(flight(1, 2, ""), flight(3, 64, "")), api.ErrArg},
		{of(flight(1, 4, "")), api.ErrArg},
		{api.Air{Flights: []api.Flight{flight(1, 2, "")}}, api.ErrArg},
	} {
		if e := air.Check(c.a); e != c.want {
			t.Errorf("%d: error %d", i, e)
		}
		if c.want == api.OK {
			continue
		}
		if a, e := air.Put(c.a, flight(1, 2, "x")); e != api.ErrArg || !air.Same(a, api.Air{}) {
			t.Errorf("%d: Put: error %d", i, e)
		}
		for kind := range api.OpKinds + 1 {
			a, f, is, e := air.Do(c.a, api.Op{Kind: kind, A: 1, B: 2})
			if e != api.ErrArg || !air.Same(a, api.Air{}) || is || f.From != 0 || f.To != 0 || len(f.B) != 0 || f.Bent {
				t.Errorf("%d: Do %d: error %d", i, kind, e)
			}
		}
	}
	if a, e := air.Put(full, flight(1, 2, "x")); e != api.OK || !air.Same(a, full) {
		t.Errorf("Put into a full one: error %d", e)
	}
	if a, _, _, e := air.Do(full, api.Op{Kind: api.OpTwice}); e != api.OK || !air.Same(a, full) {
		t.Errorf("twice in a full one: error %d", e)
	}
	full.Flights = full.Flights[1:]
	if a, _ := air.Put(full, flight(1, 2, "x")); len(a.Flights) != api.MaxAir {
		t.Error("Put of the last one")
	}
	if a, _, _, _ := air.Do(full, api.Op{Kind: api.OpTwice}); len(a.Flights) != api.MaxAir {
		t.Error("twice, the last one")
	}
}

// Ai1: what goes.
func TestPut(t *testing.T) {
	for _, f := range []api.Flight{flight(1, 2, "x"), flight(64, 2, ""), bent(flight(3, 1, "y")), flight(2, 1, string(make([]byte, 20000)))} {
		if a, e := air.Put(abc(), f); e != api.OK || !air.Same(a, of(append(abc().Flights, f)...)) {
			t.Errorf("Put(%v): error %d", f, e)
		}
	}
	for _, f := range []api.Flight{flight(1, 1, "x"), flight(0, 1, "x"), flight(1, 65, "x"), flight(3, 64, "x"), flight(4, 5, "x"), flight(math.MinInt, 1, "x"), flight(1, math.MaxInt, "")} {
		if a, e := air.Put(abc(), f); e != api.OK || !air.Same(a, abc()) {
			t.Errorf("Put(%v): error %d", f, e)
		}
	}
}

// Ai1: weights, and how many flights.
func TestUpOn(t *testing.T) {
	for _, c := range []struct {
		x, y, w int
		is      bool
	}{
		{1, 2, 5, true}, {2, 1, 5, true}, {64, 2, 0, true}, {3, 2, 9, true},
		{1, 64, 0, false}, {1, 1, 0, false}, {0, 0, 0, false}, {1, 65, 0, false}, {math.MinInt, math.MaxInt, 0, false},
	} {
		if w, is := air.Up(abc(), c.x, c.y); w != c.w || is != c.is {
			t.Errorf("Up(%d, %d) = %d, %v", c.x, c.y, w, is)
		}
	}
	a := of(flight(1, 2, "a"), flight(2, 1, "b"), flight(1, 2, "c"))
	if air.On(a, 1, 2) != 2 || air.On(a, 2, 1) != 1 || air.On(a, 1, 3) != 0 || air.On(a, 0, 0) != 0 || air.On(a, -1, 99) != 0 {
		t.Error("On")
	}
}

// Ai2: what becomes of flights.
func TestFlights(t *testing.T) {
	a, b, c := flight(1, 2, "a"), flight(2, 1, "b"), bent(flight(3, 1, "c"))
	for i, x := range []struct {
		o    api.Op
		want api.Air
		told api.Flight
		is   bool
	}{
		{api.Op{Kind: api.OpDeliver}, of(b, c), a, true},
		{api.Op{Kind: api.OpDeliver, N: 4}, of(a, c), b, true},
		{api.Op{Kind: api.OpDeliver, N: -1}, of(a, b), c, true},
		{api.Op{Kind: api.OpDrop, N: 1}, of(a, c), api.Flight{}, false},
		{api.Op{Kind: api.OpDrop, N: -3}, of(b, c), api.Flight{}, false},
		{api.Op{Kind: api.OpTwice, N: 2}, of(a, b, c, c), api.Flight{}, false},
		{api.Op{Kind: api.OpTwice, N: 3}, of(a, b, c, a), api.Flight{}, false},
		{api.Op{Kind: api.OpLate, N: 0}, of(b, c, a), api.Flight{}, false},
		{api.Op{Kind: api.OpLate, N: 2}, of(a, b, c), api.Flight{}, false},
		{api.Op{Kind: api.OpCut, N: 1}, of(a, bent(flight(2, 1, "")), c), api.Flight{}, false},
		{api.Op{Kind: api.OpCut, N: 1, W: 1}, of(a, bent(b), c), api.Flight{}, false},
		{api.Op{Kind: api.OpCut, N: 2}, of(a, b, c), api.Flight{}, false},
		{api.Op{Kind: api.OpBurst, N: 0, B: 7, W: 1 << 31}, of(bent(flight(1, 2, "`")), b, c), api.Flight{}, false},
		{api.Op{Kind: api.OpBurst, N: 0, B: 7, W: 1<<40 + 1<<31}, of(bent(flight(1, 2, "`")), b, c), api.Flight{}, false},
		{api.Op{Kind: api.OpBurst, N: 0, B: -1, W: math.MinInt | 1<<31}, of(bent(flight(1, 2, "`")), b, c), api.Flight{}, false},
		{api.Op{Kind: api.OpBurst, N: 0, B: 0, W: -1}, of(bent(flight(1, 2, "\x9e")), b, c), api.Flight{}, false},
		{api.Op{Kind: api.OpBurst, N: 0, B: 0, W: 0}, of(bent(a), b, c), api.Flight{}, false},
		{api.Op{Kind: api.OpBurst, N: 2, W: -1}, of(a, b, c), api.Flight{}, false},
		{api.Op{Kind: api.OpTick}, of(a, b, c), api.Flight{}, false},
		{api.Op{Kind: api.OpRound}, of(a, b, c), api.Flight{}, false},
		{api.Op{}, of(a, b, c), api.Flight{}, false},
		{api.Op{Kind: -1, A: 1, B: 2}, of(a, b, c), api.Flight{}, false},
		{api.Op{Kind: api.OpKinds, A: 1, B: 2}, of(a, b, c), api.Flight{}, false},
	} {
		got, f, is, e := air.Do(abc(), x.o)
		if e != api.OK || !air.Same(got, x.want) || is != x.is || !air.Same(api.Air{Flights: []api.Flight{f}}, api.Air{Flights: []api.Flight{x.told}}) {
			t.Errorf("%d: %v, %v, %v, error %d", i, got, f, is, e)
		}
	}
	for kind := range api.OpKinds + 1 {
		if got, _, is, e := air.Do(of(), api.Op{Kind: kind, N: 5}); e != api.OK || is || !air.Same(got, of()) {
			t.Errorf("Do %d of nothing: error %d", kind, e)
		}
	}
}

// Ai2: links come up and go down.
func TestLinks(t *testing.T) {
	do := func(a api.Air, kind, x, y, w int) api.Air {
		t.Helper()
		got, f, is, e := air.Do(a, api.Op{Kind: kind, A: x, B: y, W: w})
		if e != api.OK || is || f.From != 0 || air.Check(got) != api.OK {
			t.Errorf("%d, %d: error %d", x, y, e)
		}
		return got
	}
	for _, c := range []struct {
		kind, x, y, w int
		ups           []api.Edge
		flights       string
	}{
		{api.OpUp, 3, 64, 7, slices.Insert(ups(), 4, api.Edge{A: 3, B: 64, W: 7}), "abc"},
		{api.OpUp, 64, 1, 7, slices.Insert(ups(), 2, api.Edge{A: 1, B: 64, W: 7}), "abc"},
		{api.OpUp, 2, 1, 7, slices.Replace(ups(), 0, 1, api.Edge{A: 1, B: 2, W: 7}), "abc"},
		{api.OpUp, 1, 2, 5, ups(), "abc"},
		{api.OpUp, 1, 1, 5, ups(), "abc"},
		{api.OpUp, 0, 1, 5, ups(), "abc"},
		{api.OpUp, 1, 65, 5, ups(), "abc"},
		{api.OpUp, 1, 2, -1, ups(), "abc"},
		{api.OpUp, 1, 2, top + 1, ups(), "abc"},
		{api.OpUp, 1, 2, top, slices.Replace(ups(), 0, 1, api.Edge{A: 1, B: 2, W: top}), "abc"},
		{api.OpDown, 2, 1, 0, ups()[1:], "c"},
		{api.OpDown, 1, 2, 77, ups()[1:], "c"},
		{api.OpDown, 1, 3, 0, slices.Delete(ups(), 1, 2), "ab"},
		{api.OpDown, 1, 64, 0, ups(), "abc"},
		{api.OpDown, 1, 1, 0, ups(), "abc"},
		{api.OpDown, 0, 99, 0, ups(), "abc"},
	} {
		got := do(abc(), c.kind, c.x, c.y, c.w)
		text := ""
		for _, f := range got.Flights {
			text += string(f.B)
		}
		if !slices.Equal(got.Ups, c.ups) || text != c.flights {
			t.Errorf("%d of %d, %d: %v, %q", c.kind, c.x, c.y, got.Ups, text)
		}
	}
	most := api.Air{Ups: many(512)}
	if got := do(most, api.OpUp, 63, 64, 1); !air.Same(got, most) {
		t.Error("there are 512 others")
	}
	if got := do(most, api.OpUp, 1, 2, 77); len(got.Ups) != 512 || got.Ups[0].W != 77 {
		t.Error("there are 511 others")
	}
	a := do(api.Air{}, api.OpUp, 2, 1, 5)
	a, _ = air.Put(a, flight(1, 2, "x"))
	if w, is := air.Up(a, 1, 2); w != 5 || !is || len(a.Flights) != 1 {
		t.Error("the chapter's example: up")
	}
	if !air.Same(do(a, api.OpDown, 1, 2, 0), api.Air{}) {
		t.Error("the chapter's example: down")
	}
}

// Ai1: which airs are alike.
func TestSame(t *testing.T) {
	for i, b := range []api.Air{of(), {Ups: ups()[1:]}, of(abc().Flights[:2]...), of(flight(1, 2, "a"), flight(2, 1, "b"), flight(3, 1, "c")), of(flight(2, 1, "a"), flight(2, 1, "b"), bent(flight(3, 1, "c"))), of(flight(1, 3, "a"), flight(2, 1, "b"), bent(flight(3, 1, "c"))), of(flight(3, 2, "a"), flight(2, 1, "b"), bent(flight(3, 1, "c"))), of(flight(1, 2, "x"), flight(2, 1, "b"), bent(flight(3, 1, "c")))} {
		if air.Same(abc(), b) || air.Same(b, abc()) {
			t.Errorf("%d is the same", i)
		}
	}
	if !air.Same(abc(), abc()) || !air.Same(api.Air{}, api.Air{Flights: []api.Flight{}, Ups: []api.Edge{}}) {
		t.Error("alike, but not the same")
	}
}

// Ai3: whatever is done, the air may be, what is told was put, and is bent once at most.
func TestWhatever(t *testing.T) {
	r := rand.New(rand.NewSource(26))
	for range 100 {
		var a api.Air
		put := map[string]bool{}
		for i := range 300 {
			if r.Intn(3) == 0 {
				f := flight(1+r.Intn(4), 1+r.Intn(4), string([]byte{byte(i), byte(i >> 8), 77}))
				put[string(f.B)] = true
				a, _ = air.Put(a, f)
			}
			o := api.Op{Kind: r.Intn(api.OpKinds + 1), A: 1 + r.Intn(4), B: 1 + r.Intn(4), N: r.Intn(40) - 20, W: r.Intn(9)}
			before := clone(a)
			next, f, is, e := air.Do(a, o)
			if e != api.OK || air.Check(next) != api.OK || !air.Same(a, before) {
				t.Fatalf("%v: error %d", o, e)
			}
			if is && !f.Bent && !put[string(f.B)] {
				t.Fatalf("%v was not put", f)
			}
			if is && f.Bent && !bentOf(f.B, put) {
				t.Fatalf("%v is not what was put, bent once", f)
			}
			for _, u := range next.Ups {
				if edge.Check(u) != api.OK {
					t.Fatalf("%v is up", u)
				}
			}
			a = next
		}
	}
}

// bentOf tells whether bytes are, cut or bent once in 32 bits, some that were put.
func bentOf(b []byte, put map[string]bool) bool {
	for p := range put {
		if n := bend.Unlike(b, []byte(p)); n >= 0 || bytes.HasPrefix([]byte(p), b) {
			return true
		}
	}
	return false
}

func clone(a api.Air) api.Air {
	var out api.Air
	out.Ups = slices.Clone(a.Ups)
	for _, f := range a.Flights {
		f.B = bytes.Clone(f.B)
		out.Flights = append(out.Flights, f)
	}
	return out
}

// R3: answers share nothing with what was handed in, nor with each other.
func TestMemory(t *testing.T) {
	spoil := func(b []byte) {
		full := b[:cap(b)]
		for i := range full {
			full[i] = 'X'
		}
	}
	for kind := range api.OpKinds + 1 {
		a := abc()
		keep := clone(a)
		got, f, _, _ := air.Do(a, api.Op{Kind: kind, A: 1, B: 2, N: 0, W: 1})
		want := clone(got)
		spoil(f.B)
		if !air.Same(got, want) {
			t.Errorf("Do %d: what came shares memory", kind)
		}
		for i := range got.Flights {
			want = clone(got)
			spoil(got.Flights[i].B)
			for k := range got.Flights {
				if k != i && !bytes.Equal(got.Flights[k].B, want.Flights[k].B) {
					t.Errorf("Do %d: flights share memory", kind)
				}
			}
		}
		for i := range got.Ups {
			got.Ups[i].W = 99
		}
		if !air.Same(a, keep) {
			t.Errorf("Do %d: memory is shared", kind)
		}
	}
	a, f := abc(), flight(1, 2, "zz")
	keep := clone(a)
	got, _ := air.Put(a, f)
	for i := range got.Flights {
		spoil(got.Flights[i].B)
	}
	if !air.Same(a, keep) || string(f.B) != "zz" {
		t.Error("Put: memory is shared")
	}
}
