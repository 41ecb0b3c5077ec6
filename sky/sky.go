// Package sky is the air of shared/doc/20-air.md as one object, that acts change in place: an air would be copied anew by each of them. Layer 20 makes its answers by it, layer 26 keeps one.
package sky

import (
	"cmp"
	"slices"

	"withy/api"
	"withy/bend"
	"withy/edge"
	"withy/fresh"
	"withy/modulo"
)

// row is, of a node, which others its links that are up lead to.
type row [api.MaxNodes + 1]bool

// Table is which links are up, both ways, row by row.
type Table [api.MaxNodes + 1]row

// TableOf is the table of edges that may be together.
func TableOf(ups []api.Edge) *Table {
	var t Table
	for _, e := range ups {
		t.set(e.A, e.B, true)
	}
	return &t
}

// set lets the link of two nodes be up, or not.
func (t *Table) set(a, b int, is bool) {
	t[a][b] = is
	t[b][a] = is
}

// Carries tells whether a flight's ends are two nodes whose link is up.
func (t *Table) Carries(f api.Flight) bool {
	return edge.Node(f.From) && edge.Node(f.To) && t[f.From][f.To]
}

// ByEnds is how links that are up are ordered: by A, then B.
func ByEnds(a, b api.Edge) int { return cmp.Or(cmp.Compare(a.A, b.A), cmp.Compare(a.B, b.B)) }

// Sky is an air that may be.
type Sky struct {
	flights []api.Flight
	ups     []api.Edge
	table   *Table
}

// Of is a sky of what an air that may be has.
func Of(a api.Air) *Sky {
	return &Sky{flights: copied(a.Flights), ups: fresh.List(a.Ups), table: TableOf(a.Ups)}
}

// copied is new flights, with room for one more.
func copied(flights []api.Flight) []api.Flight {
	if len(flights) == 0 {
		return nil
	}
	size := 0
	for i := range flights {
		size += len(flights[i].B)
	}
	// One block of memory, a piece of it for each flight: there may be many of them.
	block := make([]byte, size)
	out := make([]api.Flight, len(flights), len(flights)+1)
	for i, f := range flights {
		n := copy(block, f.B)
		f.B = block[:n:n]
		block = block[n:]
		out[i] = f
	}
	return out
}

// Air is what a sky has, as an air.
func (s *Sky) Air() api.Air { return api.Air{Flights: copied(s.flights), Ups: fresh.List(s.ups)} }

// End is the same, of a sky that is not asked any more: its memory is given away.
func (s *Sky) End() api.Air { return api.Air{Flights: s.flights, Ups: s.ups} }

// Len is how many flights there are.
func (s *Sky) Len() int { return len(s.flights) }

// Put lets a flight go.
func (s *Sky) Put(f api.Flight) {
	if len(s.flights) < api.MaxAir && s.table.Carries(f) {
		f.B = fresh.List(f.B)
		s.flights = append(s.flights, f)
	}
}

// Do does an act; a flight that comes.
func (s *Sky) Do(o api.Op) (api.Flight, bool) {
	switch o.Kind {
	case api.OpUp:
		s.raise(o)
	case api.OpDown:
		s.lower(o)
	}
	if len(s.flights) == 0 {
		return api.Flight{}, false
	}
	at := modulo.Of(o.N, len(s.flights))
	switch o.Kind {
	case api.OpDeliver:
		return s.remove(at), true
	case api.OpDrop:
		s.remove(at)
	case api.OpTwice:
		s.Put(s.flights[at])
	case api.OpLate:
		f := s.remove(at)
		s.flights = append(s.flights, f)
	case api.OpCut, api.OpBurst:
		bendOne(&s.flights[at], o)
	}
	return api.Flight{}, false
}

// remove takes a flight away.
func (s *Sky) remove(at int) api.Flight {
	f := s.flights[at]
	if at == 0 { // the first one goes most often, and none need be moved for that
		s.flights[0] = api.Flight{}
		s.flights = s.flights[1:]
	} else {
		s.flights = slices.Delete(s.flights, at, at+1)
	}
	return f
}

// bendOne bends a flight, unless it is bent already.
func bendOne(f *api.Flight, o api.Op) {
	if f.Bent {
		return
	}
	f.Bent = true
	if o.Kind == api.OpCut {
		f.B = bend.Cut(f.B, o.W)
	} else {
		f.B = bend.Burst(f.B, o.B, uint32(o.W))
	}
}

// raise lets the link of an act be up.
func (s *Sky) raise(o api.Op) {
	e, err := edge.Of(o.A, o.B, o.W)
	if err != api.OK {
		return
	}
	at, is := slices.BinarySearchFunc(s.ups, e, ByEnds)
	if is {
		s.ups[at] = e
		return
	}
	if len(s.ups) < api.MaxEdges {
		s.ups = slices.Insert(s.ups, at, e)
		s.table.set(e.A, e.B, true)
	}
}

// lower lets the link of an act be up no more, and what is on it be gone.
func (s *Sky) lower(o api.Op) {
	e := api.Edge{A: min(o.A, o.B), B: max(o.A, o.B)}
	at, is := slices.BinarySearchFunc(s.ups, e, ByEnds)
	if !is {
		return
	}
	s.ups = slices.Delete(s.ups, at, at+1)
	s.table.set(e.A, e.B, false)
	s.flights = slices.DeleteFunc(s.flights, func(f api.Flight) bool { return !s.table.Carries(f) })
}
