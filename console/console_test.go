package console_test

import (
	"fmt"
	"math/rand"
	"strings"
	"testing"

	"withy/api"
	"withy/calm"
	"withy/census"
	"withy/console"
	"withy/field"
	"withy/span"
)

// plays holds what a script tells against lines.
func plays(t *testing.T, script []string, want ...string) {
	t.Helper()
	told := ""
	for _, l := range want {
		told += l + "\n"
	}
	for _, end := range []string{"", "\n"} {
		if got := console.Play(strings.Join(script, "\n") + end); got != told {
			t.Errorf("%q told %q, not %q", script, got, told)
		}
	}
	c := console.New()
	got := ""
	for _, l := range script {
		got += c.Line(l)
	}
	if got != told {
		t.Errorf("%q told, line by line, %q, not %q", script, got, told)
	}
}

func lines(s ...string) []string { return s }

// The ten examples of the whole.
func TestExamples(t *testing.T) {
	three := lines("field 3", "up 1 2 5", "up 2 3 1", "up 1 3 2", "rounds 60")
	plays(t, lines("field 1", "? leader 1"), "leader 1")
	plays(t, lines("field 2", "? next 1 2"), "! 9")
	plays(t, lines("field 2", "up 1 2 5", "rounds 40", "? bound"), "1 2 5", "bound 1")
	plays(t, append(three, "? next 1 2"), "next 3")
	plays(t, append(three, "down 1 3", "rounds 60", "? next 1 2"), "next 2")
	plays(t, lines("field 2", "up 1 2 5", "rounds 40", "down 1 2", "rounds 40", "? next 1 2"), "! 9")
	plays(t, lines("field 2", "up 1 2 5", "? ups", "? flights"), "1 2 5", "ups 1", "flights 0")
	plays(t, lines("field 17"), "! 1")
	plays(t, lines("narrow 2 1 9 9", "up 1 2 3", "rounds 9", "? leader 1"), "! 10")
	plays(t, lines("tick 0"), "! 4")
}

// The chapter's example.
func TestSettle(t *testing.T) {
	f, _ := field.New(3, api.Limits{Epoch: api.MaxCount, Session: api.MaxCount, Seq: api.MaxCount})
	f.Do(api.Op{Kind: api.OpUp, A: 1, B: 2, W: 5})
	f.Do(api.Op{Kind: api.OpUp, A: 2, B: 3, W: 1})
	f.Do(api.Op{Kind: api.OpUp, A: 1, B: 3, W: 2})
	n, _ := calm.Settle(f)
	plays(t, lines("field 3", "up 1 2 5", "up 2 3 1", "up 1 3 2", "settle", "? bound"), fmt.Sprint("settled ", n), "2 3 1", "1 3 2", "bound 2")
	plays(t, lines("field 3", "settle"), "settled 0")
	plays(t, lines("narrow 2 1 9 9", "up 1 2 3", "settle"), fmt.Sprint("restless ", calm.Enough(2, 1, 0)))
}

// Cn1: lines that can't be read, with a field and without.
func TestUnread(t *testing.T) {
	long := "#" + strings.Repeat("x", 200)
	bad := lines(
		" ", "  ", "x", "Field 2", "field", "field ", " field 2", "field  2", "field 2 ", "field 2 3", "field x", "field -1", "field +1",
		"field 01", "field 00", "field 1000000000", "field 0000000001", "field 99999999999999999999", "field 2\r", "field\t2", "field 2.0", "field 0x2", "field ２", "field \xff", "field 2\x00",
		"narrow 2 1 9", "narrow 2 1 9 9 9", "narrow", "up 1 2", "up 1 2 3 4", "down 1", "down 1 2 3", "tick", "tick 1 2", "deliver", "deliver 1 2", "drop", "twice", "late", "late x",
		"cut 1", "cut 1 2 3", "burst 1 2", "burst 1 2 3 4", "rounds", "rounds 1 2", "settle 1", "settle ", "round", "?", "? ", "? x", "?bound", "? bound 1", "? ups ", "? flights 1", "? queued 1",
		"? leader", "? leader 1 2", "? leader x", "? next 1", "? next 1 2 3", "? core", "? core 1 2", "?  bound", "? settle", "? field 2", "bound", "leader 1", "? ? bound", long, " #", strings.Repeat("1", 201),
	)
	for _, l := range bad {
		plays(t, lines(l), "! 5")
		plays(t, lines("field 2", l, "? flights"), "! 5", "flights 0")
	}
}

// Cn1: what tells nothing.
func TestNothing(t *testing.T) {
	plays(t, nil)
	plays(t, lines("", "#", "# field 17", "#x", "", "#"+strings.Repeat("x", 199)))
	plays(t, lines("", "field 2", "", "# ? ups", "? ups"), "ups 0")
}

// Cn1: ahead of a field that was done.
func TestAhead(t *testing.T) {
	all := lines("up 1 2 3", "down 1 2", "tick 1", "deliver 0", "drop 0", "twice 0", "late 0", "cut 0 0", "burst 0 0 0", "rounds 1", "rounds 0", "rounds 201", "settle", "? bound", "? ups", "? flights", "? queued", "? leader 1", "? next 1 2", "? core 1", "? leader 0")
	for _, l := range all {
		plays(t, lines(l), "! 4")
		plays(t, lines("field 0", l), "! 1", "! 4")
		plays(t, lines("narrow 2 0 1 1", l), "! 1", "! 4")
	}
}

// Cn1: fields, and those that are refused.
func TestField(t *testing.T) {
	for _, l := range lines("field 0", "field 17", "field 999999999", "narrow 0 1 1 1", "narrow 17 1 1 1", "narrow 2 0 1 1", "narrow 2 1 0 1", "narrow 2 1 1 0") {
		plays(t, lines(l), "! 1")
		plays(t, lines("field 2", "up 1 2 5", l, "? ups"), "! 1", "1 2 5", "ups 1")
	}
	plays(t, lines("field 2", "up 1 2 5", "field 3", "? ups", "? core 3"), "ups 0", "core 1 3 4 0")
	plays(t, lines("field 16", "? core 16", "narrow 16 1 1 1", "? core 16", "? core 17"), "core 1 16 4 0", "core 1 16 4 0", "! 4")
	plays(t, lines("narrow 2 999999999 999999999 999999999", "? leader 2"), "leader 2")
	// Session: at its end a node is over.
	plays(t, lines("narrow 2 99 1 99", "up 1 2 5", "rounds 20", "? bound", "up 1 2 6", "rounds 20", "? leader 1", "? core 1"), "1 2 5", "bound 1", "! 10", "core 0 0 0 0")
	// Seq: each session has just two payloads.
	plays(t, lines("narrow 2 99 99 2", "up 1 2 5", "rounds 10", "? bound"), "bound 0")
}

// Cn1: acts, one by one.
func TestActs(t *testing.T) {
	start := lines("field 3", "up 2 1 5", "tick 1")
	then := func(more ...string) []string { return append(start[:len(start):len(start)], more...) }
	plays(t, then("? flights", "tick 2", "? flights", "tick 0", "? flights", "tick 3", "tick 4", "tick 999999999", "? flights"), "flights 1", "flights 2", "flights 4", "flights 4")
	plays(t, then("drop 0", "? flights", "drop 0", "? flights"), "flights 0", "flights 0")
	plays(t, then("twice 0", "twice 7", "? flights"), "flights 3")
	plays(t, then("deliver 0", "? flights", "deliver 0", "? flights", "? queued", "? core 1"), "flights 1", "flights 1", "queued 1", "core 2 1 3 1")
	// What is cut or bent is heard by none.
	plays(t, then("cut 0 5", "deliver 0", "? flights"), "flights 0")
	plays(t, then("burst 0 0 1", "deliver 0", "? flights"), "flights 0")
	plays(t, then("burst 0 0 0", "deliver 0", "? flights"), "flights 1")
	plays(t, then("tick 2", "cut 1 0", "burst 1 0 999", "deliver 1", "? flights", "deliver 0", "? flights"), "flights 1", "flights 1")
	plays(t, then("tick 2", "burst 1 0 999", "deliver 1", "? flights", "deliver 0", "? flights"), "flights 1", "flights 1")
	plays(t, then("tick 2", "burst 1 2 0", "deliver 1", "? flights"), "flights 2")
	plays(t, then("tick 2", "cut 0 19", "deliver 1", "? flights", "deliver 0", "? flights"), "flights 2", "flights 2")
	// What of a burst lies beyond the end is not there.
	plays(t, then("burst 0 151 1", "deliver 0", "? flights"), "flights 1")
	plays(t, then("burst 0 152 999999999", "deliver 0", "? flights"), "flights 0")
	plays(t, then("tick 2", "late 0", "deliver 0", "drop 0", "deliver 0", "? core 2", "? core 1"), "core 2 2 3 1", "core 1 1 4 0")
	plays(t, then("down 1 2", "? flights", "? ups", "down 1 2", "down 1 9", "down 0 0"), "flights 0", "ups 0")
	plays(t, then("up 1 1 5", "up 0 1 5", "up 1 4 5", "up 3 2 0", "up 1 2 999999999", "? ups"), "! 1", "! 1", "! 1", "1 2 999999999", "2 3 0", "ups 2")
	plays(t, then("rounds 0", "rounds 201", "rounds 999999999", "rounds 1", "rounds 200", "? bound"), "! 1", "! 1", "! 1", "1 2 5", "bound 1")
}

// Cn1: how many rounds are done.
func TestRounds(t *testing.T) {
	f, _ := field.New(4, api.Limits{Epoch: api.MaxCount, Session: api.MaxCount, Seq: api.MaxCount})
	script := lines("field 4")
	for _, u := range [][3]int{{1, 2, 5}, {2, 3, 4}, {3, 4, 7}, {1, 4, 1}} {
		f.Do(api.Op{Kind: api.OpUp, A: u[0], B: u[1], W: u[2]})
		script = append(script, fmt.Sprint("up ", u[0], " ", u[1], " ", u[2]))
	}
	for _, n := range []int{1, 2, 3, 1, 5, 7} {
		for range n {
			f.Do(api.Op{Kind: api.OpRound})
		}
		script = append(script, fmt.Sprint("rounds ", n))
		want := lines(fmt.Sprint("flights ", len(f.Air().Flights)), fmt.Sprint("queued ", f.Queued()))
		for id := 1; id <= 4; id++ {
			c := f.Core(id)
			want = append(want, fmt.Sprint("core ", c.Eid.Epoch, " ", c.Eid.Root, " ", c.Phase, " ", len(c.Ties)))
		}
		plays(t, append(script[:len(script):len(script)], "? flights", "? queued", "? core 1", "? core 2", "? core 3", "? core 4"), want...)
	}
}

// Cn1: questions of nodes.
func TestQuestions(t *testing.T) {
	at := lines("field 4", "up 1 2 5", "up 2 3 1", "up 1 3 2", "rounds 80")
	then := func(more ...string) []string { return append(at[:len(at):len(at)], more...) }
	plays(t, then("? leader 0", "? leader 5", "? next 0 1", "? next 5 1", "? core 0", "? core 5", "? next 9 0"), "! 4", "! 4", "! 4", "! 4", "! 4", "! 4", "! 4")
	plays(t, then("? next 1 0", "? next 1 65", "? next 1 64", "? next 1 4", "? next 1 1", "? next 2 1", "? leader 4"), "! 1", "! 1", "! 9", "! 9", "next 1", "next 3", "leader 4")
	plays(t, lines("field 2", "up 1 2 5", "tick 0", "deliver 0", "deliver 0", "deliver 0", "deliver 0", "? leader 1", "? next 1 2", "? core 1"), "! 8", "! 8", "core 2 1 3 1")
}

// Cn1: what stands behind a newline is not looked at; and a script that is too long.
func TestLong(t *testing.T) {
	c := console.New()
	if s := c.Line("field 2\n? ups") + c.Line("? ups\nx\x00") + c.Line("\n? ups") + c.Line("? ups\n"+strings.Repeat("x", 999)); s != "ups 0\nups 0\n" {
		t.Errorf("%q", s)
	}
	most := strings.Repeat("#\n", api.MaxText/2)
	if s := console.Play(most); s != "" {
		t.Errorf("%q", s)
	}
	if s := console.Play(most + "\n"); s != "! 3\n" {
		t.Errorf("%q", s)
	}
	edge := "? leader 00000" + strings.Repeat("x", 186)
	if s := c.Line(edge[:200]) + c.Line(edge+"x"); s != "! 5\n! 5\n" {
		t.Errorf("%q", s)
	}
}

// Of a Console that New did not give: nothing.
func TestNoConsole(t *testing.T) {
	for _, c := range []*console.Console{nil, {}} {
		for _, l := range lines("field 2", "? ups", "x", strings.Repeat("x", 300), "") {
			if s := c.Line(l); s != "" {
				t.Errorf("%q told %q", l, s)
			}
		}
	}
	a, b := console.New(), console.New()
	a.Line("field 2")
	if s := b.Line("? ups"); s != "! 4\n" {
		t.Errorf("consoles share a field: %q", s)
	}
}

// some is a line of any act.
func some(r *rand.Rand, n int) string {
	a, b := 1+r.Intn(n), 1+r.Intn(n)
	return []string{
		"tick 0", "tick 0", fmt.Sprint("tick ", a), fmt.Sprint("deliver ", r.Intn(60)), fmt.Sprint("deliver ", r.Intn(60)), fmt.Sprint("deliver ", r.Intn(60)),
		fmt.Sprint("drop ", r.Intn(60)), fmt.Sprint("twice ", r.Intn(60)), fmt.Sprint("late ", r.Intn(60)), fmt.Sprint("cut ", r.Intn(60), " ", r.Intn(60)),
		fmt.Sprint("burst ", r.Intn(60), " ", r.Intn(999), " ", r.Intn(999999999)), fmt.Sprint("up ", a, " ", b, " ", r.Intn(9)), fmt.Sprint("up ", a, " ", b, " ", r.Intn(9)), fmt.Sprint("down ", a, " ", b), "rounds 1",
	}[r.Intn(15)]
}

// P1 to P4: whatever a script does, and then settle.
func TestWhole(t *testing.T) {
	r := rand.New(rand.NewSource(41))
	for range 60 {
		n := 1 + r.Intn(6)
		c := console.New()
		c.Line(fmt.Sprint("field ", n))
		for range 200 {
			c.Line(some(r, n))
			if e := edges(t, c.Line("? bound")); !span.Forest(e) {
				t.Fatalf("no forest: %v", e)
			}
		}
		if s := c.Line("settle"); !strings.HasPrefix(s, "settled ") {
			t.Fatalf("%q", s)
		}
		ups := edges(t, c.Line("? ups"))
		least, _ := span.Least(ups)
		if got := edges(t, c.Line("? bound")); fmt.Sprint(got) != fmt.Sprint(least) {
			t.Fatalf("%v, not %v", got, least)
		}
		whole(t, c, n, ups)
		before := c.Line("? core 1")
		c.Line("rounds 50")
		if s := c.Line("? queued") + c.Line("settle") + c.Line("? core 1"); s != "queued 0\nsettled 0\n"+before {
			t.Fatalf("it does not stay at rest: %q", s)
		}
	}
	if !census.Safe(nil) {
		t.Error("nothing is a forest")
	}
}

// whole holds all answers against the links that are up.
func whole(t *testing.T, c *console.Console, n int, ups []api.Edge) {
	t.Helper()
	for a := 1; a <= n; a++ {
		for b := 1; b <= n; b++ {
			linked := span.Linked(ups, a, b)
			if same := c.Line(fmt.Sprint("? leader ", a)) == c.Line(fmt.Sprint("? leader ", b)); same != linked {
				t.Fatalf("leaders of %d and %d", a, b)
			}
			at, steps := a, 0
			for ; linked && at != b && steps < n; steps++ {
				if _, e := fmt.Sscanf(c.Line(fmt.Sprint("? next ", at, " ", b)), "next %d\n", &at); e != nil {
					t.Fatalf("from %d to %d: at %d: %v", a, b, at, e)
				}
			}
			if linked && at != b {
				t.Fatalf("from %d to %d: one does not come there", a, b)
			}
			if s := c.Line(fmt.Sprint("? next ", a, " ", b)); !linked && s != "! 9\n" {
				t.Fatalf("from %d to %d: %q", a, b, s)
			}
		}
	}
}

// edges is the edges that lines tell.
func edges(t *testing.T, s string) []api.Edge {
	t.Helper()
	var out []api.Edge
	for _, l := range strings.Split(s, "\n") {
		var e api.Edge
		if _, err := fmt.Sscanf(l, "%d %d %d", &e.A, &e.B, &e.W); err == nil {
			out = append(out, e)
		}
	}
	if !strings.HasSuffix(s, fmt.Sprint(" ", len(out), "\n")) {
		t.Fatalf("%q", s)
	}
	return out
}
