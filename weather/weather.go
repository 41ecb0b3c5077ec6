// Package weather is what acts do to what is on its way, alike for all that may be on a way.
package weather

import (
	"slices"

	"withy/api"
	"withy/modulo"
)

// Blow does an act to the N-th thing on a way; true: it comes to the other end. Of a way with nothing on it nothing is done. The way that was handed in is used up.
func Blow[T any](way []T, o api.Op) ([]T, T, bool) {
	var none T
	if len(way) == 0 {
		return way, none, false
	}
	at := modulo.Of(o.N, len(way))
	it := way[at]
	switch o.Kind {
	case api.OpDeliver:
		return slices.Delete(way, at, at+1), it, true
	case api.OpDrop:
		return slices.Delete(way, at, at+1), none, false
	case api.OpTwice:
		return append(way, it), none, false
	case api.OpLate:
		return append(slices.Delete(way, at, at+1), it), none, false
	}
	return way, none, false
}
