// Package weather is what acts do to what is on its way, alike for all that may be on a way.
package weather

import (
	"slices"

	"withy/api"
	"withy/modulo"
)

// Blow is a way behind an act on the N-th thing on it, and what comes to the other end by that; false: nothing does. Of a way with nothing on it nothing is done.
func Blow[T any](way []T, o api.Op) ([]T, T, bool) {
	var none T
	if len(way) == 0 {
		return nil, none, false
	}
	at := modulo.Of(o.N, len(way))
	it, others := way[at], slices.Concat(way[:at], way[at+1:])
	switch o.Kind {
	case api.OpDeliver:
		return others, it, true
	case api.OpDrop:
		return others, none, false
	case api.OpTwice:
		return slices.Concat(way, []T{it}), none, false
	case api.OpLate:
		return append(others, it), none, false
	}
	return slices.Clone(way), none, false
}
