package take_test

import (
	"bytes"
	"fmt"
	"math"
	"math/rand"
	"slices"
	"testing"

	"withy/api"
	"withy/take"
)

const top = api.MaxCount

// Ta1: which takers may be, what they take, and what they owe.
func TestGet(t *testing.T) {
	for _, c := range []struct {
		t    api.Taker
		seq  int
		want api.Taker
		is   bool
		e    api.Errno
	}{
		{api.Taker{}, 0, api.Taker{Next: 1, Owes: true}, true, api.OK},
		{api.Taker{Next: 5, Owes: true}, 5, api.Taker{Next: 6, Owes: true}, true, api.OK},
		{api.Taker{Next: 5}, 4, api.Taker{Next: 5, Owes: true}, false, api.OK},
		{api.Taker{Next: 5}, 6, api.Taker{Next: 5, Owes: true}, false, api.OK},
		{api.Taker{Next: 5}, math.MinInt, api.Taker{Next: 5, Owes: true}, false, api.OK},
		{api.Taker{Next: top - 1}, top - 1, api.Taker{Next: top, Owes: true}, true, api.OK},
		{api.Taker{Next: top}, top, api.Taker{Next: top, Owes: true}, false, api.OK},
		{api.Taker{Next: -1, Owes: true}, -1, api.Taker{}, false, api.ErrArg},
		{api.Taker{Next: top + 1}, 0, api.Taker{}, false, api.ErrArg},
	} {
		if e := take.Check(c.t); e != c.e {
			t.Errorf("Check(%v): error %d", c.t, e)
		}
		if got, is, e := take.Get(c.t, c.seq); got != c.want || is != c.is || e != c.e {
			t.Errorf("Get(%v, %d) = %v, %v, error %d", c.t, c.seq, got, is, e)
		}
	}
}

// Ta1: acks.
func TestAck(t *testing.T) {
	for _, c := range []struct {
		t, want api.Taker
		next    int
		owed    bool
	}{
		{api.Taker{Next: 5, Owes: true}, api.Taker{Next: 5}, 5, true},
		{api.Taker{Owes: true}, api.Taker{}, 0, true},
		{api.Taker{Next: 5}, api.Taker{Next: 5}, 0, false},
		{api.Taker{Next: -1, Owes: true}, api.Taker{Next: -1, Owes: true}, 0, false},
		{api.Taker{Next: top + 1, Owes: true}, api.Taker{Next: top + 1, Owes: true}, 0, false},
	} {
		if got, next, owed := take.Ack(c.t); got != c.want || next != c.next || owed != c.owed {
			t.Errorf("Ack(%v) = %v, %d, %v", c.t, got, next, owed)
		}
	}
}

func op(kind, a, n int) api.Op { return api.Op{Kind: kind, A: a, N: n} }

func texts(s ...string) [][]byte {
	var out [][]byte
	for _, x := range s {
		out = append(out, []byte(x))
	}
	return out
}

// Ta2: by hand.
func TestCarry(t *testing.T) {
	tick := op(api.OpTick, 0, 0)
	come := func(a, n int) api.Op { return op(api.OpDeliver, a, n) }
	xy := texts("x", "y")
	for _, c := range []struct {
		name    string
		weather []api.Op
		taken   [][]byte
		held    int
	}{
		{"nothing", nil, nil, 2},
		{"the chapter's", []api.Op{tick, come(1, 1)}, nil, 2},
		{"in order", []api.Op{tick, come(1, 0), come(1, 0)}, xy, 2},
		{"the other order", []api.Op{tick, come(1, 1), come(1, 0)}, xy[:1], 2},
		{"acked", []api.Op{tick, come(1, 0), come(1, 0), tick, come(2, 0)}, xy, 0},
		{"the first acked", []api.Op{tick, come(1, 0), tick, come(2, 0)}, xy[:1], 1},
		{"not yet acked", []api.Op{tick, come(1, 0), come(1, 0), come(2, 0)}, xy, 2},
		{"an ack lost", []api.Op{tick, come(1, 0), come(1, 0), tick, op(api.OpDrop, 2, 0), come(2, 0)}, xy, 2},
		{"once, though doubled", []api.Op{tick, op(api.OpTwice, 1, 0), come(1, 0), come(1, 0), come(1, 0)}, xy, 2},
		{"late", []api.Op{tick, op(api.OpLate, 1, 0), come(1, 0), come(1, 0)}, xy[:1], 2},
		{"late twice", []api.Op{tick, op(api.OpLate, 1, 0), op(api.OpLate, 1, 0), come(1, 0), come(1, 0)}, xy, 2},
		{"lost", []api.Op{tick, op(api.OpDrop, 1, 0), come(1, 0)}, nil, 2},
		{"lost, and sent again", []api.Op{tick, op(api.OpDrop, 1, 0), op(api.OpDrop, 1, 0), tick, tick, tick, come(1, 0), tick, come(1, 0), come(1, 0)}, xy, 2},
		{"below 0", []api.Op{tick, come(1, -2), come(1, -1)}, xy, 2},
		{"no such way", []api.Op{tick, come(0, 0), come(3, 0), come(-1, 0)}, nil, 2},
		{"no such act", []api.Op{op(0, 1, 0), op(api.OpCut, 1, 0), tick, op(api.OpRound, 1, 0), op(api.OpBurst, 1, 0), come(1, 0)}, xy[:1], 2},
		{"a tick of any A", []api.Op{op(api.OpTick, 2, 7), come(1, 0)}, xy[:1], 2},
		{"an elder ack comes late", []api.Op{tick, come(1, 0), tick, come(1, 0), tick, come(2, 1), come(2, 0)}, xy, 0},
	} {
		taken, held, e := take.Carry(xy, c.weather)
		if e != api.OK || held != c.held || !slices.EqualFunc(taken, c.taken, bytes.Equal) {
			t.Errorf("%s: %q, %d held, error %d", c.name, taken, held, e)
		}
	}
}

// Ta2: sixteen go at once, the others when these were acked.
func TestWindow(t *testing.T) {
	var all [][]byte
	for i := range 20 {
		all = append(all, []byte(fmt.Sprint(i)))
	}
	weather := []api.Op{op(api.OpTick, 0, 0)}
	for range 20 {
		weather = append(weather, op(api.OpDeliver, 1, 0))
	}
	if taken, held, _ := take.Carry(all, weather); len(taken) != 16 || held != 20 {
		t.Errorf("%d taken, %d held", len(taken), held)
	}
	weather = append(weather, op(api.OpTick, 0, 0), op(api.OpDeliver, 2, 0), op(api.OpTick, 0, 0), op(api.OpDeliver, 1, 0))
	if taken, held, _ := take.Carry(all, weather); len(taken) != 17 || held != 4 {
		t.Errorf("%d taken, %d held", len(taken), held)
	}
}

// Ta2: what is too long.
func TestLong(t *testing.T) {
	many := make([][]byte, 65)
	acts := make([]api.Op, 1001)
	for i, c := range []struct {
		payloads [][]byte
		weather  []api.Op
		want     api.Errno
	}{
		{many[:64], acts[:1000], api.OK},
		{many, nil, api.ErrLong},
		{nil, acts, api.ErrLong},
		{[][]byte{make([]byte, 64)}, nil, api.OK},
		{[][]byte{nil, make([]byte, 65)}, nil, api.ErrLong},
	} {
		taken, held, e := take.Carry(c.payloads, c.weather)
		if e != c.want || len(taken) != 0 || e != api.OK && held != 0 || e == api.OK && held != len(c.payloads) {
			t.Errorf("%d: %d held, error %d", i, held, e)
		}
	}
}

// Ta3: in whatever weather what is taken is a beginning, and the sender holds what was not; rounds end it.
func TestWeather(t *testing.T) {
	r := rand.New(rand.NewSource(19))
	kinds := []int{api.OpTick, api.OpDeliver, api.OpDeliver, api.OpDrop, api.OpTwice, api.OpLate}
	for range 300 {
		var all [][]byte
		for i := range r.Intn(24) {
			all = append(all, []byte(fmt.Sprint(i, r.Intn(3))))
		}
		var weather []api.Op
		for range r.Intn(300) {
			weather = append(weather, op(kinds[r.Intn(len(kinds))], r.Intn(4), r.Intn(100)-50))
		}
		taken, held, e := take.Carry(all, weather)
		if e != api.OK || len(taken) > len(all) || !slices.EqualFunc(taken, all[:len(taken)], bytes.Equal) || held < len(all)-len(taken) {
			t.Fatalf("%q of %q taken, %d held, error %d", taken, all, held, e)
		}
	}
}

// Ta3: rounds, in each of which all comes, end it.
func TestRounds(t *testing.T) {
	r := rand.New(rand.NewSource(20))
	for n := range 7 {
		var all [][]byte
		for i := range n {
			all = append(all, []byte{byte(i)})
		}
		var weather []api.Op
		for range 60 {
			weather = append(weather, op(1+r.Intn(5), 1+r.Intn(2), r.Intn(50)))
		}
		// More than are on the ways come: of none nothing comes.
		for range 6*n + 16 {
			weather = append(weather, op(api.OpTick, 0, 0))
			for range 12 {
				weather = append(weather, op(api.OpDeliver, 1, r.Intn(9)), op(api.OpDeliver, 2, r.Intn(9)))
			}
		}
		weather = weather[:min(len(weather), 1000)]
		if taken, held, e := take.Carry(all, weather); e != api.OK || held != 0 || !slices.EqualFunc(taken, all, bytes.Equal) {
			t.Errorf("%d: %d taken, %d held, error %d", n, len(taken), held, e)
		}
	}
}

// R3: what is told shares nothing with the payloads.
func TestMemory(t *testing.T) {
	all := texts("ab", "cd")
	taken, _, _ := take.Carry(all, []api.Op{op(api.OpTick, 0, 0), op(api.OpDeliver, 1, 0), op(api.OpDeliver, 1, 0)})
	taken[0][0] = 'x'
	_ = append(taken[0], "yyy"...)
	if string(all[0]) != "ab" || string(taken[1]) != "cd" {
		t.Error("memory is shared")
	}
}
