package join_test

import (
	"math"
	"math/rand"
	"testing"

	"withy/api"
	"withy/join"
)

// Jo1: how many numbers there may be.
func TestNew(t *testing.T) {
	for n, want := range map[int]api.Errno{0: api.OK, 1: api.OK, 4096: api.OK, 4097: api.ErrArg, -1: api.ErrArg, math.MinInt: api.ErrArg, math.MaxInt: api.ErrArg} {
		j, e := join.New(n)
		if e != want || (j == nil) != (e != api.OK) || e == api.OK && j.Sets() != n {
			t.Errorf("New(%d): error %d", n, e)
		}
	}
}

// Jo1: the chapter's example.
func TestExample(t *testing.T) {
	j, _ := join.New(4)
	if !j.Unite(1, 2) || !j.Unite(3, 4) || !j.Unite(4, 1) || j.Unite(2, 3) || j.Least(3) != 1 || j.Sets() != 1 || j.Size(2) != 4 {
		t.Error("the chapter's example")
	}
}

// Jo1: numbers that it has not; a number with itself.
func TestNone(t *testing.T) {
	j, _ := join.New(3)
	for _, n := range []int{0, -1, 4, math.MinInt, math.MaxInt} {
		if j.Unite(n, 1) || j.Unite(1, n) || j.Unite(n, n) || j.Same(n, n) || j.Same(1, n) || j.Same(n, 1) || j.Least(n) != 0 || j.Size(n) != 0 {
			t.Errorf("of %d", n)
		}
	}
	if j.Unite(2, 2) || !j.Same(2, 2) || j.Sets() != 3 || j.Size(2) != 1 || j.Least(2) != 2 {
		t.Error("of a number and itself")
	}
}

// Of a Join that New did not give.
func TestNoJoin(t *testing.T) {
	for _, j := range []*join.Join{nil, {}} {
		if j.Unite(1, 2) || j.Unite(0, 0) || j.Same(0, 0) || j.Same(1, 1) || j.Least(1) != 0 || j.Sets() != 0 || j.Size(1) != 0 {
			t.Error("as of no numbers")
		}
	}
}

// sets is the plainest joiner: each number's set is the least number of it.
type sets []int

func (s sets) unite(a, b int) bool {
	x, y := s[a], s[b]
	for i := range s {
		if s[i] == x || s[i] == y {
			s[i] = min(x, y)
		}
	}
	return x != y
}

// Jo1, Jo2: against the plain one; each true makes Sets one less; the order does not matter.
func TestFollows(t *testing.T) {
	r := rand.New(rand.NewSource(10))
	for range 60 {
		n := 1 + r.Intn(30)
		j, _ := join.New(n)
		s := make(sets, n+1)
		for i := range s {
			s[i] = i
		}
		var pairs [][2]int
		for range r.Intn(2 * n) {
			a, b := 1+r.Intn(n), 1+r.Intn(n)
			pairs = append(pairs, [2]int{a, b})
			before, want := j.Sets(), s.unite(a, b)
			if j.Unite(a, b) != want || want != (j.Sets() == before-1) || !want && j.Sets() != before {
				t.Fatalf("Unite(%d, %d)", a, b)
			}
		}
		other, _ := join.New(n)
		r.Shuffle(len(pairs), func(i, k int) { pairs[i], pairs[k] = pairs[k], pairs[i] })
		for _, p := range pairs {
			other.Unite(p[1], p[0])
		}
		alike(t, j, s)
		alike(t, other, s)
	}
}

func alike(t *testing.T, j *join.Join, s sets) {
	t.Helper()
	n := len(s) - 1
	size, count := map[int]int{}, 0
	for i := 1; i <= n; i++ {
		size[s[i]]++
		if s[i] == i {
			count++
		}
	}
	if j.Sets() != count {
		t.Fatalf("Sets = %d, not %d", j.Sets(), count)
	}
	for a := 1; a <= n; a++ {
		if j.Least(a) != s[a] || j.Size(a) != size[s[a]] {
			t.Fatalf("of %d: least %d, size %d", a, j.Least(a), j.Size(a))
		}
		for b := 1; b <= n; b++ {
			if j.Same(a, b) != (s[a] == s[b]) {
				t.Fatalf("Same(%d, %d)", a, b)
			}
		}
	}
}

// Jo1: as many as there may be, joined from the top.
func TestGreat(t *testing.T) {
	j, _ := join.New(4096)
	for i := 4095; i > 0; i-- {
		if !j.Unite(i, i+1) {
			t.Fatal(i)
		}
	}
	if j.Sets() != 1 || j.Least(4096) != 1 || j.Size(2048) != 4096 {
		t.Error("all are one")
	}
}
