package beat_test

import (
	"math"
	"math/rand"
	"testing"

	"withy/api"
	"withy/beat"
)

// Be1: of each beat that may be, and of others.
func TestBeat(t *testing.T) {
	for quiet := -2; quiet < 9; quiet++ {
		for since := -2; since < 5; since++ {
			b := api.Beat{Quiet: quiet, Since: since}
			if quiet < 0 || quiet > 5 || since < 0 || since > 1 {
				refused(t, b)
				continue
			}
			if e := beat.Check(b); e != api.OK {
				t.Errorf("Check(%v): error %d", b, e)
			}
			if got, e := beat.Heard(b); e != api.OK || got != (api.Beat{Since: since}) {
				t.Errorf("Heard(%v) = %v, error %d", b, got, e)
			}
			want := api.Beat{Quiet: quiet + 1, Since: since + 1}
			if quiet == 5 {
				want.Quiet = 0
			}
			if since == 1 {
				want.Since = 0
			}
			if got, due, silence, e := beat.Tick(b); e != api.OK || got != want || due != (since == 1) || silence != (quiet == 5) {
				t.Errorf("Tick(%v) = %v, %v, %v, error %d", b, got, due, silence, e)
			}
		}
	}
	refused(t, api.Beat{Quiet: math.MaxInt})
	refused(t, api.Beat{Since: math.MinInt})
}

func refused(t *testing.T, b api.Beat) {
	t.Helper()
	if e := beat.Check(b); e != api.ErrArg {
		t.Errorf("Check(%v): error %d", b, e)
	}
	if got, e := beat.Heard(b); e != api.ErrArg || got != (api.Beat{}) {
		t.Errorf("Heard(%v) = %v, error %d", b, got, e)
	}
	if got, due, silence, e := beat.Tick(b); e != api.ErrArg || got != (api.Beat{}) || due || silence {
		t.Errorf("Tick(%v) = %v, error %d", b, got, e)
	}
}

// Be2: pulses and silence of signs.
func TestCount(t *testing.T) {
	yes, no := true, false
	for i, c := range []struct {
		signs          []bool
		pulses, silent int
	}{
		{nil, 0, 0},
		{make([]bool, 1), 0, 0},
		{make([]bool, 5), 2, 0},
		{make([]bool, 6), 3, 1},
		{make([]bool, 11), 5, 1},
		{make([]bool, 12), 6, 2},
		{[]bool{no, no, no, no, no, yes, no, no, no, no, no}, 5, 1},
		{[]bool{no, no, no, no, no, yes, no, no, no, no}, 5, 0},
		{[]bool{yes, no, no, no, no, no}, 3, 1},
	} {
		if p, s := beat.Count(c.signs); p != c.pulses || s != c.silent {
			t.Errorf("%d: %d pulses, %d silent", i, p, s)
		}
	}
}

// Be3: who hears a sign at least every five ticks is never told silence; who hears none, at each sixth.
func TestSilence(t *testing.T) {
	r := rand.New(rand.NewSource(24))
	for range 200 {
		var signs []bool
		for range 50 {
			signs = append(signs, make([]bool, r.Intn(5))...)
			signs = append(signs, true)
		}
		if p, s := beat.Count(signs); s != 0 || p != len(signs)/2 {
			t.Fatalf("%v: %d pulses, %d silent", signs, p, s)
		}
	}
	for n := range 60 {
		if p, s := beat.Count(make([]bool, n)); s != n/6 || p != n/2 {
			t.Errorf("%d ticks: %d pulses, %d silent", n, p, s)
		}
	}
}
