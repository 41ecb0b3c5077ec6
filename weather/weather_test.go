package weather_test

import (
	"testing"

	"withy/api"
	"withy/weather"
)

// What acts do to the N-th thing, N modulo how many there are.
func TestBlow(t *testing.T) {
	for _, c := range []struct {
		way, want string
		kind, n   int
		it        byte
		comes     bool
	}{
		{"abc", "bc", api.OpDeliver, 0, 'a', true},
		{"abc", "ab", api.OpDeliver, 2, 'c', true},
		{"abc", "ac", api.OpDeliver, 4, 'b', true},
		{"abc", "ab", api.OpDeliver, -1, 'c', true},
		{"a", "", api.OpDeliver, 7, 'a', true},
		{"abc", "ac", api.OpDrop, 1, 0, false},
		{"abc", "abcb", api.OpTwice, 1, 0, false},
		{"abc", "acb", api.OpLate, 1, 0, false},
		{"abc", "abc", api.OpLate, 2, 0, false},
		{"abc", "abc", api.OpTick, 1, 0, false},
		{"abc", "abc", api.OpCut, 1, 0, false},
		{"abc", "abc", 0, 1, 0, false},
		{"", "", api.OpDeliver, 1, 0, false},
		{"", "", api.OpDrop, -1, 0, false},
		{"", "", api.OpTwice, 0, 0, false},
		{"", "", api.OpLate, 0, 0, false},
	} {
		room := []byte(c.way + "xyz")
		way, it, comes := weather.Blow(room[:len(c.way)], api.Op{Kind: c.kind, N: c.n})
		if string(way) != c.want || it != c.it || comes != c.comes {
			t.Errorf("%v: %q, %q, %v", c, way, it, comes)
		}
		for i := range way {
			way[i] = '!'
		}
		if string(room) != c.way+"xyz" {
			t.Errorf("%v: what was handed in was changed: %q", c, room)
		}
	}
}
