package tower_test

import (
	"fmt"
	"math"
	"math/rand"
	"reflect"
	"slices"
	"testing"

	"withy/api"
	"withy/field"
	"withy/tower"
)

const top = api.MaxCount

func up(peer, session int) api.Event {
	return api.Event{Kind: api.EventUp, Peer: peer, W: peer, Session: session}
}

func heard(peer, kind int) api.Event {
	return api.Event{Kind: api.EventWord, Peer: peer, Word: api.Word{Kind: kind}}
}

// text is ways as text: peer, session, what was told, what was heard.
func text(ways []api.Way) string {
	kinds := func(l []api.Word) string {
		s := ""
		for _, w := range l {
			s += fmt.Sprint(w.Kind)
		}
		return s
	}
	s := ""
	for _, w := range ways {
		s += fmt.Sprint("[", w.Peer, "/", w.Session, " told ", kinds(w.Told), " heard ", kinds(w.Heard), "]")
	}
	return s
}

// To1: ways by hand.
func TestWays(t *testing.T) {
	down := func(peer int) api.Event { return api.Event{Kind: api.EventDown, Peer: peer} }
	for _, c := range []struct {
		name   string
		events []api.Event
		want   string
	}{
		{"no events", nil, ""},
		{"a link", []api.Event{up(2, 7)}, "[2/7 told 4 heard ]"},
		{"a word without a tie", []api.Event{heard(2, 4), up(2, 7)}, "[2/7 told 4 heard ]"},
		{"a word", []api.Event{up(2, 7), heard(2, 4)}, "[2/7 told 41 heard 4]"},
		{"refused ones", []api.Event{up(2, 7), up(3, 0), up(1, 1), up(2, 0), {}, heard(2, 0), {Kind: 9}, heard(2, 4)}, "[2/7 told 41 heard 4]"},
		{"two links", []api.Event{up(3, 7), up(2, 1), heard(3, 6)}, "[3/7 told 45 heard 6][2/1 told 4 heard ]"},
		{"down, and up again", []api.Event{up(2, 7), heard(2, 4), down(2), heard(2, 5), up(2, 8), heard(2, 5)}, "[2/7 told 41 heard 4][2/8 told 46 heard 5]"},
		{"up again at once", []api.Event{up(2, 7), heard(2, 5), up(2, 8), heard(2, 5), heard(2, 5)}, "[2/7 told 46 heard 5][2/8 told 466 heard 55]"},
		{"over", []api.Event{up(2, 7), heard(2, 4), {Kind: api.EventOver}, heard(2, 1), heard(2, 5)}, "[2/7 told 4176 heard 45]"},
	} {
		ways, e := tower.Ways(1, top, c.events)
		if e != api.OK || text(ways) != c.want {
			t.Errorf("%s: %s, error %d", c.name, text(ways), e)
		}
	}
	for _, x := range [][2]int{{0, 9}, {65, 9}, {1, 0}, {1, top + 1}, {-1, -1}, {math.MaxInt, math.MinInt}} {
		if ways, e := tower.Ways(x[0], x[1], []api.Event{up(2, 1)}); e != api.ErrArg || len(ways) != 0 {
			t.Errorf("Ways%v: error %d", x, e)
		}
	}
	// The limit is the core's: at its end it tells no vow.
	if ways, e := tower.Ways(1, 1, []api.Event{up(2, 7)}); e != api.OK || text(ways) != "[2/7 told  heard ]" {
		t.Errorf("limit 1: %s, error %d", text(ways), e)
	}
}

// To1: what stands in a word that was heard, and told, is all there.
func TestWhole(t *testing.T) {
	wave := api.Word{Kind: api.WordWave, Eid: api.Eid{Epoch: 9, Root: 2}}
	events := []api.Event{up(2, 7), heard(2, 4), {Kind: api.EventWord, Peer: 2, Word: wave}}
	ways, _ := tower.Ways(1, top, events)
	if len(ways) != 1 || len(ways[0].Heard) != 2 || !reflect.DeepEqual(ways[0].Heard[1], wave) {
		t.Fatalf("%v", ways)
	}
	echo := ways[0].Told[len(ways[0].Told)-1]
	if echo.Kind != api.WordEcho || echo.Eid != wave.Eid || !slices.Equal(echo.View.Nodes, []int{1}) || len(echo.View.Links) != 1 {
		t.Errorf("%v", echo)
	}
}

func way(peer, session int, told, heard string) api.Way {
	words := func(s string) []api.Word {
		var l []api.Word
		for _, c := range s {
			l = append(l, api.Word{Kind: api.WordWave, Eid: api.Eid{Epoch: int(c), Root: 1}})
		}
		return l
	}
	return api.Way{Peer: peer, Session: session, Told: words(told), Heard: words(heard)}
}

// To1: what fits.
func TestFits(t *testing.T) {
	others := []api.Way{way(1, 5, "abc", ""), way(3, 5, "xyz", ""), way(1, 6, "", ""), way(1, 5, "zzz", ""), way(3, 7, "abc", "")}
	for i, c := range []struct {
		ways []api.Way
		want bool
	}{
		{nil, true},
		{[]api.Way{way(2, 5, "", "")}, true},
		{[]api.Way{way(2, 5, "q", "a")}, true},
		{[]api.Way{way(2, 5, "", "abc")}, true},
		{[]api.Way{way(2, 5, "", "abcd")}, false},
		{[]api.Way{way(2, 5, "", "b")}, false},
		{[]api.Way{way(2, 5, "", "zzz")}, false},
		{[]api.Way{way(2, 5, "", "xyz")}, false},
		{[]api.Way{way(2, 6, "", "a")}, false},
		{[]api.Way{way(2, 6, "", "")}, true},
		{[]api.Way{way(2, 7, "", "a")}, false},
		{[]api.Way{way(2, 7, "", "")}, true},
		{[]api.Way{way(4, 7, "", "zz")}, true},
		{[]api.Way{way(2, 5, "", "ab"), way(4, 1, "", "q"), way(2, 6, "", "q")}, false},
		{[]api.Way{way(2, 5, "", "ab"), way(2, 5, "", "a"), way(4, 6, "", "q")}, true},
	} {
		if got := tower.Fits(1, c.ways, 2, others); got != c.want {
			t.Errorf("%d: %v", i, got)
		}
	}
	if !tower.Fits(1, []api.Way{way(2, 1, "", "")}, 2, nil) || tower.Fits(1, []api.Way{way(2, 1, "", "a")}, 2, nil) {
		t.Error("no others")
	}
	if tower.Fits(9, []api.Way{way(2, 5, "", "a")}, 2, others) {
		t.Error("of another peer")
	}
}

// To1: what rises.
func TestRising(t *testing.T) {
	for i, c := range []struct {
		ways []api.Way
		want bool
	}{
		{nil, true},
		{[]api.Way{way(2, 5, "", ""), way(3, 1, "", ""), way(2, 6, "", ""), way(3, 9, "", "")}, true},
		{[]api.Way{way(2, 5, "", ""), way(2, 5, "", "")}, false},
		{[]api.Way{way(2, 5, "", ""), way(3, 5, "", ""), way(2, 4, "", "")}, false},
		{[]api.Way{way(2, -5, "", ""), way(2, 0, "", ""), way(-2, math.MinInt, "", ""), way(-2, math.MaxInt, "", "")}, true},
		{[]api.Way{way(2, 0, "", ""), way(2, 0, "", "")}, false},
		{[]api.Way{way(2, 1, "", ""), way(2, 7, "", ""), way(2, 6, "", "")}, false},
	} {
		if got := tower.Rising(c.ways); got != c.want {
			t.Errorf("%d: %v", i, got)
		}
	}
}

// some is an act of any kind.
func some(r *rand.Rand, n int) api.Op {
	kinds := []int{api.OpTick, api.OpTick, api.OpDeliver, api.OpDeliver, api.OpDeliver, api.OpDeliver, api.OpDrop, api.OpTwice, api.OpLate, api.OpCut, api.OpBurst, api.OpUp, api.OpUp, api.OpDown, api.OpRound}
	o := api.Op{Kind: kinds[r.Intn(len(kinds))], A: 1 + r.Intn(n), B: 1 + r.Intn(n), N: r.Intn(60), W: r.Intn(6)}
	if o.Kind == api.OpTick && r.Intn(2) == 0 {
		o.A = 0
	}
	if o.Kind == api.OpBurst {
		o.B, o.W = r.Intn(600), r.Int()
	}
	return o
}

// To2, P5: whatever was done: the ways rise, and fit.
func TestTower(t *testing.T) {
	r := rand.New(rand.NewSource(36))
	words := 0
	for range 120 {
		n := 2 + r.Intn(4)
		l := api.Limits{Epoch: top, Session: top, Seq: top}
		if r.Intn(3) == 0 {
			l = api.Limits{Epoch: 20 + r.Intn(50), Session: 3 + r.Intn(9), Seq: 5 + r.Intn(20)}
		}
		f, _ := field.New(n, l)
		for range 700 {
			f.Do(some(r, n))
		}
		var ways [][]api.Way
		for id := 1; id <= n; id++ {
			w, e := tower.Ways(id, l.Epoch, f.Events(id))
			if e != api.OK || !tower.Rising(w) {
				t.Fatalf("ways of %d: error %d", id, e)
			}
			for _, x := range w {
				words += len(x.Heard)
			}
			ways = append(ways, w)
		}
		for a := range ways {
			for b := range ways {
				if a != b && !tower.Fits(a+1, ways[a], b+1, ways[b]) {
					t.Fatalf("%s does not fit %s", text(ways[a]), text(ways[b]))
				}
			}
		}
	}
	if words < 1000 {
		t.Errorf("just %d words were heard", words)
	}
}

// R3: ways are new memory.
func TestMemory(t *testing.T) {
	events := []api.Event{up(2, 7), heard(2, 4), {Kind: api.EventWord, Peer: 2, Word: api.Word{Kind: api.WordEcho, Eid: api.Eid{Epoch: 9, Root: 2}, View: api.View{Nodes: []int{2}}}}}
	ways, _ := tower.Ways(1, top, events)
	ways[0].Heard[1].View.Nodes[0] = 77
	if events[2].Word.View.Nodes[0] != 2 {
		t.Error("memory is shared")
	}
}
