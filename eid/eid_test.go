package eid_test

import (
	"math"
	"testing"

	"withy/api"
	"withy/eid"
)

const top = api.MaxCount

// Ei1: which names may be.
func TestCheck(t *testing.T) {
	for e, want := range map[api.Eid]api.Errno{
		{}:                              api.OK,
		{Epoch: 1, Root: 1}:             api.OK,
		{Epoch: top, Root: 64}:          api.OK,
		{Epoch: 0, Root: 1}:             api.ErrArg,
		{Epoch: 1, Root: 0}:             api.ErrArg,
		{Epoch: -1, Root: 1}:            api.ErrArg,
		{Epoch: top + 1, Root: 1}:       api.ErrArg,
		{Epoch: 1, Root: 65}:            api.ErrArg,
		{Epoch: 1, Root: -1}:            api.ErrArg,
		{Epoch: math.MinInt, Root: 1}:   api.ErrArg,
		{Epoch: 1, Root: math.MaxInt}:   api.ErrArg,
		{Epoch: 0, Root: math.MinInt}:   api.ErrArg,
		{Epoch: math.MaxInt, Root: top}: api.ErrArg,
	} {
		if got := eid.Check(e); got != want {
			t.Errorf("%v: error %d", e, got)
		}
	}
}

// Ei1: the order, by Epoch, then Root, of any.
func TestOrder(t *testing.T) {
	rising := []api.Eid{{Epoch: math.MinInt, Root: 9}, {Epoch: -1}, {Root: math.MinInt}, {}, {Root: 1}, {Epoch: 1, Root: -4}, {Epoch: 1}, {Epoch: 1, Root: 64}, {Epoch: 2}, {Epoch: math.MaxInt, Root: math.MinInt}, {Epoch: math.MaxInt, Root: math.MaxInt}}
	for i, a := range rising {
		for j, b := range rising {
			want, greater := 0, a
			if i < j {
				want, greater = -1, b
			} else if i > j {
				want = 1
			}
			if got := eid.Compare(a, b); got != want {
				t.Errorf("Compare(%v, %v) = %d", a, b, got)
			}
			if got := eid.Max(a, b); got != greater {
				t.Errorf("Max(%v, %v) = %v", a, b, got)
			}
		}
	}
}

// Ei1: the next name, and why there is none.
func TestAfter(t *testing.T) {
	for _, c := range []struct {
		top, limit, root int
		want             api.Eid
		e                api.Errno
	}{
		{4, 9, 3, api.Eid{Epoch: 5, Root: 3}, api.OK},
		{0, 1, 1, api.Eid{Epoch: 1, Root: 1}, api.OK},
		{8, 9, 64, api.Eid{Epoch: 9, Root: 64}, api.OK},
		{9, 9, 3, api.Eid{}, api.ErrOver},
		{10, 9, 3, api.Eid{}, api.ErrOver},
		{top - 1, top, 3, api.Eid{Epoch: top, Root: 3}, api.OK},
		{top, top, 3, api.Eid{}, api.ErrOver},
		{top + 1, top, 3, api.Eid{}, api.ErrArg},
		{-1, 9, 3, api.Eid{}, api.ErrArg},
		{4, 0, 3, api.Eid{}, api.ErrArg},
		{4, -1, 3, api.Eid{}, api.ErrArg},
		{4, top + 1, 3, api.Eid{}, api.ErrArg},
		{4, 9, 0, api.Eid{}, api.ErrArg},
		{4, 9, 65, api.Eid{}, api.ErrArg},
		{9, 9, 0, api.Eid{}, api.ErrArg},
		{math.MaxInt, math.MinInt, 1, api.Eid{}, api.ErrArg},
	} {
		if got, e := eid.After(c.top, c.limit, c.root); got != c.want || e != c.e {
			t.Errorf("After(%d, %d, %d) = %v, error %d", c.top, c.limit, c.root, got, e)
		}
	}
}

// Ei2: it is above all names of epochs to top.
func TestAbove(t *testing.T) {
	for at := range 20 {
		for root := 1; root <= api.MaxNodes; root++ {
			e, err := eid.After(at, 20, root)
			if err != api.OK || eid.Check(e) != api.OK {
				t.Fatalf("After(%d): error %d", at, err)
			}
			for epoch := range at + 1 {
				if eid.Compare(api.Eid{Epoch: epoch, Root: api.MaxNodes}, e) >= 0 {
					t.Fatalf("%v is not above epoch %d", e, epoch)
				}
			}
		}
	}
}
