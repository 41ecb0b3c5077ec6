package fresh_test

import (
	"reflect"
	"testing"

	"withy/fresh"
)

// R3: what is told is alike, and shares nothing.
func TestLists(t *testing.T) {
	room := []int{1, 2, 3}
	l := fresh.List(room[:2])
	_ = append(l, 9)
	if !reflect.DeepEqual(l, []int{1, 2}) || room[2] != 3 {
		t.Error("List")
	}
	l[0] = 9
	if room[0] != 1 {
		t.Error("List shares memory")
	}
	in := [][]int{{1, 2}, nil, {3}}
	out := fresh.Lists(in)
	if !reflect.DeepEqual(out, in) {
		t.Errorf("Lists: %v", out)
	}
	out[0][0], out[2] = 9, nil
	if in[0][0] != 1 || len(in[2]) != 1 {
		t.Error("Lists shares memory")
	}
	if fresh.List([]int{}) != nil || fresh.Lists[int](nil) != nil {
		t.Error("of none")
	}
	if got := fresh.All([]int{1, 2}, func(n int) int { return -n }); !reflect.DeepEqual(got, []int{-1, -2}) {
		t.Errorf("All: %v", got)
	}
}
