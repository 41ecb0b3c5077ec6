package sky_test

import (
	"math/rand"
	"slices"
	"testing"

	"withy/air"
	"withy/api"
	"withy/sky"
)

func flight(from, to int, b ...byte) api.Flight { return api.Flight{From: from, To: to, B: b} }

// A sky that acts change in place is, act by act, what layer 20 says of airs.
func TestAsAir(t *testing.T) {
	r := rand.New(rand.NewSource(42))
	for range 60 {
		s, a := sky.Of(api.Air{}), api.Air{}
		for i := range 400 {
			if r.Intn(2) == 0 {
				f := flight(r.Intn(6), r.Intn(6), byte(i), 1, 2)
				s.Put(f)
				a, _ = air.Put(a, f)
			}
			o := api.Op{Kind: r.Intn(api.OpKinds + 1), A: r.Intn(6), B: r.Intn(6), N: r.Intn(40) - 20, W: r.Intn(9)}
			got, is := s.Do(o)
			next, want, wantIs, e := air.Do(a, o)
			if e != api.OK || is != wantIs || !air.Same(api.Air{Flights: []api.Flight{got}}, api.Air{Flights: []api.Flight{want}}) {
				t.Fatalf("%v: %v, not %v", o, got, want)
			}
			a = next
			if !air.Same(s.Air(), a) || s.Len() != len(a.Flights) || air.Check(a) != api.OK {
				t.Fatalf("%v: %v, not %v", o, s.Air(), a)
			}
		}
		if !air.Same(s.End(), a) {
			t.Fatal("its end")
		}
	}
}

// As many flights as may be, and links.
func TestMost(t *testing.T) {
	s := sky.Of(api.Air{Ups: []api.Edge{{A: 1, B: 2, W: 3}}})
	for range api.MaxAir + 3 {
		s.Put(flight(2, 1))
	}
	s.Do(api.Op{Kind: api.OpTwice})
	if s.Len() != api.MaxAir {
		t.Errorf("%d flights", s.Len())
	}
	for a := 1; a <= 64; a++ {
		for b := a + 1; b <= 64; b++ {
			s.Do(api.Op{Kind: api.OpUp, A: b, B: a, W: 9})
		}
	}
	if ups := s.Air().Ups; len(ups) != api.MaxEdges || ups[0].W != 9 || !slices.IsSortedFunc(ups, sky.ByEnds) {
		t.Errorf("%d links", len(ups))
	}
	s.Do(api.Op{Kind: api.OpDown, A: 2, B: 1})
	if s.Len() != 0 || len(s.Air().Ups) != api.MaxEdges-1 {
		t.Errorf("%d flights on a link that is down", s.Len())
	}
	if sky.TableOf(s.Air().Ups).Carries(flight(1, 2)) || !sky.TableOf(s.Air().Ups).Carries(flight(3, 1)) || sky.TableOf(nil).Carries(flight(0, 65)) {
		t.Error("the table")
	}
}

// R3: a sky shares nothing with what was handed in, nor with what it tells.
func TestMemory(t *testing.T) {
	a := api.Air{Flights: []api.Flight{flight(1, 2, 7), flight(2, 1, 8)}, Ups: []api.Edge{{A: 1, B: 2, W: 3}}}
	s := sky.Of(a)
	f := flight(1, 2, 9)
	s.Put(f)
	told := s.Air()
	f.B[0], told.Flights[0].B[0], told.Ups[0].W, a.Flights[1].B[0] = 77, 77, 77, 77
	_ = append(told.Flights[1].B, 77)
	want := api.Air{Flights: []api.Flight{flight(1, 2, 7), flight(2, 1, 8), flight(1, 2, 9)}, Ups: []api.Edge{{A: 1, B: 2, W: 3}}}
	if !air.Same(s.Air(), want) {
		t.Errorf("%v", s.Air())
	}
}
