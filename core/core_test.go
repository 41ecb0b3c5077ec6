package core_test

import (
	"fmt"
	"math"
	"math/rand"
	"slices"
	"testing"

	"withy/api"
	"withy/core"
	"withy/eid"
	"withy/view"
	"withy/word"
)

const top = api.MaxCount

var (
	bound  = api.Vow{Bound: true}
	open   = api.Vow{Mine: api.VowOpen}
	recant = api.Vow{Mine: api.VowRecant}
	theirs = api.Vow{Theirs: true}
)

func made(t *testing.T, id, limit int) api.Core {
	t.Helper()
	c, e := core.New(id, limit)
	if e != api.OK {
		t.Fatalf("New(%d, %d): error %d", id, limit, e)
	}
	return c
}

func up(peer, w, session int) api.Event {
	return api.Event{Kind: api.EventUp, Peer: peer, W: w, Session: session}
}

func down(peer int) api.Event { return api.Event{Kind: api.EventDown, Peer: peer} }

func heard(peer int, w api.Word) api.Event {
	return api.Event{Kind: api.EventWord, Peer: peer, Word: w}
}

func kind(peer, k int) api.Event { return heard(peer, api.Word{Kind: k}) }

func wave(epoch, root int) api.Word {
	return api.Word{Kind: api.WordWave, Eid: api.Eid{Epoch: epoch, Root: root}}
}

// step lets a core hear an event, and holds what it tells against lines.
func step(t *testing.T, c api.Core, v api.Event, want ...string) api.Core {
	t.Helper()
	before := fmt.Sprint(c)
	next, outs, e := core.Step(c, v)
	if e != api.OK {
		t.Fatalf("%v: error %d", v, e)
	}
	var got []string
	for _, o := range outs {
		got = append(got, line(o))
		if word.Check(o.Word) != api.OK {
			t.Errorf("%v: told %v, that may not be", v, o)
		}
	}
	if !slices.Equal(got, want) {
		t.Errorf("%v: told %q, not %q", v, got, want)
	}
	if fmt.Sprint(c) != before {
		t.Errorf("%v: what was handed in was changed", v)
	}
	return next
}

// line is what was told, as text.
func line(o api.Out) string {
	w := o.Word
	s := fmt.Sprint(o.To, " ", []string{"", "wave", "echo", "choice", "vow", "recant", "free", "part"}[w.Kind])
	if w.Eid != (api.Eid{}) {
		s += fmt.Sprint(" ", w.Eid.Epoch, ".", w.Eid.Root)
	}
	if w.Choice.Kind != 0 {
		s += fmt.Sprint(" ", []string{"", "done", "grant", "evict"}[w.Choice.Kind])
	}
	if w.Choice.Kind > api.ChoiceDone {
		s += fmt.Sprint(" ", w.Choice.A, "-", w.Choice.B, "/", w.Choice.Session)
	}
	if len(w.View.Nodes) > 0 {
		s += fmt.Sprint(" ", w.View.Nodes)
		for _, k := range w.View.Links {
			s += fmt.Sprint(" ", k.Node, "-", k.Peer, ":", k.W, "/", k.Session)
			if k.Marked {
				s += "*"
			}
		}
	}
	return s
}

func is(t *testing.T, c api.Core, epoch, root, parent, phase int, wait ...int) {
	t.Helper()
	if c.Eid != (api.Eid{Epoch: epoch, Root: root}) || c.Parent != parent || c.Phase != phase || !slices.Equal(c.Wait, wait) || c.Over {
		t.Errorf("%v of %d.%d, parent %d, phase %d, waits for %v, over %v", c.Id, c.Eid.Epoch, c.Eid.Root, c.Parent, c.Phase, c.Wait, c.Over)
	}
	if c.Top != max(c.Top, epoch) {
		t.Errorf("Top is %d", c.Top)
	}
}

func vows(t *testing.T, c api.Core, want ...api.Vow) {
	t.Helper()
	var got []api.Vow
	for _, x := range c.Ties {
		got = append(got, x.Vow)
	}
	if !slices.Equal(got, want) {
		t.Errorf("vows: %v, not %v", got, want)
	}
}

// Co1: a new core, and which there can't be.
func TestNew(t *testing.T) {
	c := made(t, 3, 9)
	want := api.Core{Id: 3, Eid: api.Eid{Epoch: 1, Root: 3}, Top: 1, Phase: api.PhaseDone, Table: api.View{Nodes: []int{3}}, Limit: 9}
	if !core.Same(c, want) {
		t.Errorf("the chapter's example: %v", c)
	}
	if !view.Same(core.Own(c), api.View{Nodes: []int{3}}) {
		t.Error("its own view")
	}
	made(t, 64, top)
	made(t, 1, 1)
	for _, x := range [][2]int{{0, 9}, {65, 9}, {-1, 9}, {3, 0}, {3, -1}, {3, top + 1}, {math.MinInt, math.MaxInt}} {
		if c, e := core.New(x[0], x[1]); e != api.ErrArg || !core.Same(c, api.Core{}) {
			t.Errorf("New%v: error %d", x, e)
		}
	}
}

// Co2: events that may not be.
func TestRefused(t *testing.T) {
	c := step(t, made(t, 3, 99), up(4, 5, 6), "4 vow")
	for i, v := range []api.Event{
		{}, {Kind: -1}, {Kind: 5}, {Kind: math.MaxInt},
		up(0, 5, 6), up(65, 5, 6), up(3, 5, 6), up(-1, 5, 6), up(4, -1, 6), up(4, top+1, 6), up(4, 5, 0), up(4, 5, -1), up(4, 5, top+1),
		heard(4, api.Word{}), heard(9, api.Word{}), heard(4, api.Word{Kind: api.WordWave}), heard(4, api.Word{Kind: api.WordKinds}),
	} {
		if got, outs, e := core.Step(c, v); e != api.ErrArg || len(outs) != 0 || !core.Same(got, api.Core{}) {
			t.Errorf("%d: error %d", i, e)
		}
	}
}

// Co2: links that may just be.
func TestEdges(t *testing.T) {
	for _, v := range []api.Event{up(4, 0, 1), up(64, top, top), up(1, 0, top)} {
		c, _, e := core.Step(made(t, 3, 99), v)
		if e != api.OK || len(c.Ties) != 1 || c.Ties[0] != (api.Tie{Peer: v.Peer, W: v.W, Session: v.Session, Vow: open}) {
			t.Errorf("%v: %v, error %d", v, c.Ties, e)
		}
	}
}

// Co2: of peers that it has no tie to: nothing.
func TestNoTie(t *testing.T) {
	c := step(t, made(t, 3, 99), up(4, 5, 6), "4 vow")
	for _, peer := range []int{5, 3, 0, -1, 65, math.MaxInt} {
		if got := step(t, c, down(peer)); !core.Same(got, c) {
			t.Errorf("down %d", peer)
		}
		for k := api.WordVow; k < api.WordKinds; k++ {
			if got := step(t, c, kind(peer, k)); !core.Same(got, c) {
				t.Errorf("%d of %d", k, peer)
			}
		}
		if got := step(t, c, heard(peer, wave(9, 9))); !core.Same(got, c) {
			t.Errorf("a wave of %d", peer)
		}
	}
}

// Co2: links come up, and go; each time it begins; it grants the least.
func TestLinks(t *testing.T) {
	c := step(t, made(t, 3, 99), up(5, 5, 1), "5 vow")
	is(t, c, 2, 3, 0, api.PhaseHeld)
	c = step(t, c, up(4, 7, 2), "5 recant")
	is(t, c, 3, 3, 0, api.PhaseWave)
	vows(t, c, api.Vow{}, recant)
	if want := (api.View{Nodes: []int{3}, Links: []api.Known{{Node: 3, Peer: 4, W: 7, Session: 2}, {Node: 3, Peer: 5, W: 5, Session: 1}}}); !view.Same(core.Own(c), want) {
		t.Errorf("its own view: %v", core.Own(c))
	}
	c = step(t, c, up(6, 1, 9))
	is(t, c, 4, 3, 0, api.PhaseWave)
	c = step(t, c, kind(5, api.WordFree), "6 vow")
	is(t, c, 4, 3, 0, api.PhaseHeld)
	vows(t, c, api.Vow{}, api.Vow{}, open)
	c = step(t, c, up(6, 8, 10), "5 vow")
	is(t, c, 5, 3, 0, api.PhaseHeld)
	vows(t, c, api.Vow{}, open, api.Vow{})
	if c.Ties[2] != (api.Tie{Peer: 6, W: 8, Session: 10}) {
		t.Errorf("the tie: %v", c.Ties[2])
	}
	c = step(t, c, down(5), "4 vow")
	is(t, c, 6, 3, 0, api.PhaseHeld)
	c = step(t, c, down(4), "6 vow")
	c = step(t, c, down(6))
	is(t, c, 8, 3, 0, api.PhaseDone)
	if len(c.Ties) != 0 || !view.Same(c.Table, api.View{Nodes: []int{3}}) {
		t.Errorf("alone again: %v", c)
	}
}

// both is two cores that bound an edge, and have done so since.
func both(t *testing.T) (api.Core, api.Core) {
	t.Helper()
	a := step(t, made(t, 1, 99), up(2, 5, 7), "2 vow")
	b := step(t, made(t, 2, 99), up(1, 5, 7), "1 vow")
	a = step(t, a, kind(2, api.WordVow), "2 wave 3.1")
	is(t, a, 3, 1, 0, api.PhaseWave, 2)
	vows(t, a, bound)
	b = step(t, b, kind(1, api.WordVow), "1 wave 3.2")
	b = step(t, b, heard(1, wave(3, 1)))
	is(t, b, 3, 2, 0, api.PhaseWave, 1)
	a = step(t, a, heard(2, wave(3, 2)), "2 echo 3.2 [1] 1-2:5/7*")
	is(t, a, 3, 2, 2, api.PhaseEcho)
	b = step(t, b, heard(1, api.Word{Kind: api.WordEcho, Eid: api.Eid{Epoch: 3, Root: 2}, View: core.Own(a)}), "1 choice 3.2 done [1 2] 1-2:5/7* 2-1:5/7*")
	is(t, b, 3, 2, 0, api.PhaseDone)
	a = step(t, a, heard(2, api.Word{Kind: api.WordChoice, Eid: api.Eid{Epoch: 3, Root: 2}, Choice: api.Choice{Kind: api.ChoiceDone}, View: b.Table}))
	is(t, a, 3, 2, 2, api.PhaseDone)
	if !view.Same(a.Table, b.Table) || len(a.Table.Nodes) != 2 {
		t.Errorf("tables: %v, %v", a.Table, b.Table)
	}
	return a, b
}

// Co2: two bind an edge, and know all.
func TestBoth(t *testing.T) {
	a, _ := both(t)
	// Words of another name, phase or parent turn nothing.
	for _, w := range []api.Word{
		wave(3, 2), wave(3, 1), wave(2, 64),
		{Kind: api.WordEcho, Eid: api.Eid{Epoch: 3, Root: 2}, View: api.View{Nodes: []int{2}}},
		{Kind: api.WordChoice, Eid: api.Eid{Epoch: 3, Root: 2}, Choice: api.Choice{Kind: api.ChoiceDone}, View: api.View{Nodes: []int{9}}},
		{Kind: api.WordFree},
	} {
		if got := step(t, a, heard(2, w)); !core.Same(got, a) {
			t.Errorf("%v turned it", w)
		}
	}
	if got := step(t, a, kind(2, api.WordRecant), "2 free"); !core.Same(got, a) {
		t.Error("a recant of no vow")
	}
}

// Co2: a part of the peer's, and an edge that it binds itself by a vow that it heard.
func TestPartGrant(t *testing.T) {
	a, b := both(t)
	a = step(t, a, kind(2, api.WordPart), "2 vow")
	is(t, a, 4, 1, 0, api.PhaseHeld)
	vows(t, a, open)
	b = step(t, b, up(9, 1, 1), "1 wave 4.2")
	is(t, b, 4, 2, 0, api.PhaseWave, 1)
	b = step(t, b, down(1), "9 vow")
	b = step(t, b, up(1, 5, 8), "9 recant")
	b = step(t, b, kind(1, api.WordVow))
	vows(t, b, theirs, recant)
	is(t, b, 6, 2, 0, api.PhaseWave)
	b = step(t, b, down(9), "1 vow", "1 wave 8.2")
	is(t, b, 8, 2, 0, api.PhaseWave, 1)
	vows(t, b, bound)
}

// Co2: waves come and go on, over bound edges, by later names alone.
func TestWave(t *testing.T) {
	c := made(t, 5, 99)
	for i, peer := range []int{2, 7, 9} {
		// One after the other is lighter, and so it is granted.
		c, _, _ = core.Step(c, up(peer, 10-i, peer))
		c, _, _ = core.Step(c, kind(peer, api.WordVow))
		c = drain(t, c)
	}
	c, _, _ = core.Step(c, up(8, 50, 8))
	vows(t, c, bound, bound, api.Vow{}, bound)
	e := c.Eid.Epoch
	is(t, c, e, 5, 0, api.PhaseWave, 2, 7, 9)
	if got := step(t, c, heard(8, wave(e+5, 1))); !core.Same(got, c) {
		t.Error("a wave over an edge that is not bound")
	}
	if got := step(t, c, heard(7, wave(e, 4))); !core.Same(got, c) {
		t.Error("a wave of an earlier name")
	}
	if got := step(t, c, heard(7, wave(e, 5))); !core.Same(got, c) {
		t.Error("a wave of its own name")
	}
	c = step(t, c, heard(7, wave(e, 6)), fmt.Sprint("2 wave ", e, ".6"), fmt.Sprint("9 wave ", e, ".6"))
	is(t, c, e, 6, 7, api.PhaseWave, 2, 9)
	name := api.Eid{Epoch: e, Root: 6}
	echo := func(n int) api.Word {
		return api.Word{Kind: api.WordEcho, Eid: name, View: api.View{Nodes: []int{n}}}
	}
	if got := step(t, c, heard(7, echo(7))); !core.Same(got, c) {
		t.Error("an echo of its parent")
	}
	other := echo(9)
	other.Eid.Epoch--
	if got := step(t, c, heard(9, other)); !core.Same(got, c) {
		t.Error("an echo of another name")
	}
	c = step(t, c, heard(9, echo(9)))
	is(t, c, e, 6, 7, api.PhaseWave, 2)
	if got := step(t, c, heard(9, echo(9))); !core.Same(got, c) {
		t.Error("an echo once more")
	}
	// An echo that can't be merged is heard, but what it knows is left out.
	late := step(t, c, heard(2, echo(9)), fmt.Sprintf("7 echo %d.6 [5 9] 5-2:10/2* 5-7:9/7* 5-8:50/8 5-9:8/9*", e))
	is(t, late, e, 6, 7, api.PhaseEcho)
	// Nor can be what is merged with its own, if a peer says that it is this node: then its own is told alone.
	odd := step(t, c, heard(2, echo(5)), fmt.Sprintf("7 echo %d.6 [5] 5-2:10/2* 5-7:9/7* 5-8:50/8 5-9:8/9*", e))
	is(t, odd, e, 6, 7, api.PhaseEcho)
	c = step(t, c, heard(2, echo(2)), fmt.Sprintf("7 echo %d.6 [2 5 9] 5-2:10/2* 5-7:9/7* 5-8:50/8 5-9:8/9*", e))
	is(t, c, e, 6, 7, api.PhaseEcho)
	choices(t, c)
}

// drain lets a core that waits for echoes have them, and choose.
func drain(t *testing.T, c api.Core) api.Core {
	t.Helper()
	for len(c.Wait) > 0 {
		var e api.Errno
		peer := c.Wait[0]
		c, _, e = core.Step(c, heard(peer, api.Word{Kind: api.WordEcho, Eid: c.Eid, View: api.View{Nodes: []int{peer}}}))
		if e != api.OK {
			t.Fatalf("error %d", e)
		}
	}
	return c
}

// choices lets node 5, that echoed to 7, hear its root's choices.
func choices(t *testing.T, c api.Core) {
	t.Helper()
	e := c.Eid.Epoch
	say := func(k, a, b, session int) api.Word {
		return api.Word{Kind: api.WordChoice, Eid: c.Eid, Choice: api.Choice{Kind: k, A: a, B: b, Session: session}}
	}
	if got := step(t, c, heard(2, say(api.ChoiceGrant, 5, 8, 8))); !core.Same(got, c) {
		t.Error("a choice of another one than the parent")
	}
	other := say(api.ChoiceGrant, 5, 8, 8)
	other.Eid.Root++
	if got := step(t, c, heard(7, other)); !core.Same(got, c) {
		t.Error("a choice of another name")
	}
	on := func(what string) []string {
		return []string{fmt.Sprintf("2 choice %d.6 %s", e, what), fmt.Sprintf("9 choice %d.6 %s", e, what)}
	}
	for _, x := range []struct{ k, a, b, session int }{{api.ChoiceGrant, 7, 8, 8}, {api.ChoiceGrant, 5, 8, 9}, {api.ChoiceGrant, 5, 1, 8}, {api.ChoiceEvict, 2, 5, 2}, {api.ChoiceEvict, 5, 9, 8}, {api.ChoiceEvict, 5, 8, 8}, {api.ChoiceGrant, 5, 9, 9}} {
		name := []string{"", "", "grant", "evict"}[x.k]
		got := step(t, c, heard(7, say(x.k, x.a, x.b, x.session)), on(fmt.Sprintf("%s %d-%d/%d", name, x.a, x.b, x.session))...)
		is(t, got, e, 6, 7, api.PhaseHeld)
		vows(t, got, bound, bound, api.Vow{}, bound)
	}
	got := step(t, c, heard(7, say(api.ChoiceGrant, 5, 8, 8)), append(on("grant 5-8/8"), "8 vow")...)
	is(t, got, e, 6, 7, api.PhaseHeld)
	vows(t, got, bound, bound, open, bound)
	if again := step(t, got, heard(7, say(api.ChoiceGrant, 5, 8, 8))); !core.Same(again, got) {
		t.Error("a choice once more")
	}
	evict := append(on("evict 5-9/9"), "9 part", fmt.Sprintf("2 wave %d.5", e+1), fmt.Sprintf("7 wave %d.5", e+1))
	got = step(t, c, heard(7, say(api.ChoiceEvict, 5, 9, 9)), evict...)
	is(t, got, e+1, 5, 0, api.PhaseWave, 2, 7)
	vows(t, got, bound, bound, api.Vow{}, api.Vow{})

	willing := step(t, c, kind(8, api.WordVow))
	grant := append(on("grant 5-8/8"), "8 vow", fmt.Sprintf("2 wave %d.5", e+1), fmt.Sprintf("7 wave %d.5", e+1), fmt.Sprintf("8 wave %d.5", e+1), fmt.Sprintf("9 wave %d.5", e+1))
	got = step(t, willing, heard(7, say(api.ChoiceGrant, 5, 8, 8)), grant...)
	is(t, got, e+1, 5, 0, api.PhaseWave, 2, 7, 8, 9)

	done := say(api.ChoiceDone, 0, 0, 0)
	done.View = api.View{Nodes: []int{4, 44}}
	got = step(t, c, heard(7, done), on("done [4 44]")...)
	is(t, got, e, 6, 7, api.PhaseDone)
	if !view.Same(got.Table, done.View) {
		t.Errorf("Table: %v", got.Table)
	}
}

// Co2: a wave while a vow is open: it is recanted, and the echo waits till it is free, or bound.
func TestRecant(t *testing.T) {
	_, b := both(t)
	b = step(t, b, up(9, 1, 1), "1 wave 4.2")
	b = step(t, b, heard(1, api.Word{Kind: api.WordEcho, Eid: b.Eid, View: api.View{Nodes: []int{1}}}), "1 choice 4.2 grant 2-9/1", "9 vow")
	is(t, b, 4, 2, 0, api.PhaseHeld)
	b = step(t, b, heard(1, wave(6, 1)), "9 recant")
	is(t, b, 6, 1, 1, api.PhaseWave)
	if b.Top != 6 {
		t.Errorf("Top is %d", b.Top)
	}
	free := step(t, b, kind(9, api.WordFree), "1 echo 6.1 [2] 2-1:5/7* 2-9:1/1")
	is(t, free, 6, 1, 1, api.PhaseEcho)
	tied := step(t, b, kind(9, api.WordVow), "1 wave 7.2", "9 wave 7.2")
	is(t, tied, 7, 2, 0, api.PhaseWave, 1, 9)
	vows(t, tied, bound, api.Vow{Bound: true, Owed: 1})
	tied = step(t, tied, kind(9, api.WordFree))
	vows(t, tied, bound, bound)
	// A later wave, while it is not yet free: nothing is said to 9 again.
	again := step(t, b, heard(1, wave(8, 1)))
	is(t, again, 8, 1, 1, api.PhaseWave)
	vows(t, again, bound, recant)
}

// Co2: a view whose bound edges are no forest: no choice, and it is held.
func TestHeld(t *testing.T) {
	_, b := both(t)
	b = step(t, b, up(9, 1, 1), "1 wave 4.2")
	circle := api.View{Nodes: []int{1, 3, 4}}
	for _, x := range [][2]int{{1, 2}, {1, 3}, {1, 4}, {3, 1}, {3, 4}, {4, 1}, {4, 3}} {
		circle.Links = append(circle.Links, api.Known{Node: x[0], Peer: x[1], W: 1, Session: 1, Marked: true})
	}
	b = step(t, b, heard(1, api.Word{Kind: api.WordEcho, Eid: b.Eid, View: circle}))
	is(t, b, 4, 2, 0, api.PhaseHeld)
}

// Co2: over, at the end of its epochs, or when it is told so.
func TestOver(t *testing.T) {
	a, b := both(t)
	_ = a
	b = step(t, b, up(9, 1, 1), "1 wave 4.2")
	b = step(t, b, heard(1, api.Word{Kind: api.WordEcho, Eid: b.Eid, View: api.View{Nodes: []int{1}}}), "1 choice 4.2 grant 2-9/1", "9 vow")
	b = step(t, b, api.Event{Kind: api.EventOver}, "1 part", "9 recant")
	over := api.Core{Id: 2, Top: 4, Limit: 99, Over: true, Ties: []api.Tie{{Peer: 1, W: 5, Session: 7}, {Peer: 9, W: 1, Session: 1, Vow: recant}}}
	if !core.Same(b, over) {
		t.Errorf("over: %v", b)
	}
	if got := step(t, b, api.Event{Kind: api.EventOver}); !core.Same(got, b) {
		t.Error("over once more")
	}
	for _, w := range []api.Word{
		wave(9, 9), {Kind: api.WordEcho, Eid: api.Eid{Epoch: 4, Root: 2}, View: api.View{Nodes: []int{1}}},
		{Kind: api.WordChoice, Eid: api.Eid{Epoch: 4, Root: 2}, Choice: api.Choice{Kind: api.ChoiceDone}, View: api.View{Nodes: []int{1}}},
		{Kind: api.WordPart},
	} {
		if got := step(t, b, heard(1, w)); !core.Same(got, b) {
			t.Errorf("%v turned it", w)
		}
	}
	if _, _, e := core.Step(b, heard(1, api.Word{})); e != api.ErrArg {
		t.Error("no word")
	}
	got := step(t, b, kind(9, api.WordVow), "9 part")
	vows(t, got, api.Vow{}, api.Vow{Owed: 1})
	got = step(t, b, kind(9, api.WordFree))
	vows(t, got, api.Vow{}, api.Vow{})
	got = step(t, got, kind(9, api.WordVow))
	vows(t, got, api.Vow{}, theirs)
	got = step(t, got, kind(9, api.WordRecant), "9 free")
	got = step(t, got, up(4, 1, 1))
	got = step(t, got, up(9, 2, 2))
	got = step(t, got, down(1))
	want := api.Core{Id: 2, Top: 4, Limit: 99, Over: true, Ties: []api.Tie{{Peer: 4, W: 1, Session: 1}, {Peer: 9, W: 2, Session: 2}}}
	if !core.Same(got, want) {
		t.Errorf("links, over: %v", got)
	}
}

// Co2: the end of the epochs: what was granted is parted at once.
func TestLimit(t *testing.T) {
	c := step(t, made(t, 1, 2), up(2, 5, 7), "2 vow")
	is(t, c, 2, 1, 0, api.PhaseHeld)
	got := step(t, c, kind(2, api.WordVow), "2 part")
	if !got.Over || got.Ties[0].Vow != (api.Vow{}) || got.Eid != (api.Eid{}) || got.Top != 2 {
		t.Errorf("%v", got)
	}
	got = step(t, c, up(3, 1, 1), "2 recant")
	if !got.Over || got.Ties[0].Vow != recant {
		t.Errorf("%v", got)
	}
	// Waves beyond its limit are heard; but then it can't begin any more.
	c = step(t, made(t, 1, 3), up(2, 5, 7), "2 vow")
	c = step(t, c, kind(2, api.WordVow), "2 wave 3.1")
	c = step(t, c, heard(2, wave(7, 2)), "2 echo 7.2 [1] 1-2:5/7*")
	is(t, c, 7, 2, 2, api.PhaseEcho)
	c = step(t, c, down(2))
	if !c.Over || c.Top != 7 {
		t.Errorf("%v", c)
	}
	grants := step(t, made(t, 1, 2), up(2, 5, 7), "2 vow")
	grants = step(t, grants, kind(2, api.WordRecant), "2 free")
	if grants.Over {
		t.Error("over too early")
	}
}

// Co1: which cores are alike.
func TestSame(t *testing.T) {
	_, b := both(t)
	turns := []func(c *api.Core){
		func(c *api.Core) { c.Id++ }, func(c *api.Core) { c.Eid.Root++ }, func(c *api.Core) { c.Eid.Epoch++ },
		func(c *api.Core) { c.Top++ }, func(c *api.Core) { c.Parent++ }, func(c *api.Core) { c.Phase++ },
		func(c *api.Core) { c.Limit++ }, func(c *api.Core) { c.Over = true }, func(c *api.Core) { c.Wait = []int{1} },
		func(c *api.Core) { c.Got = api.View{Nodes: []int{1}} }, func(c *api.Core) { c.Table = api.View{} },
		func(c *api.Core) { c.Ties = nil }, func(c *api.Core) { c.Ties = []api.Tie{c.Ties[0]}; c.Ties[0].Vow.Owed++ },
	}
	for i, turn := range turns {
		x := b
		turn(&x)
		if core.Same(b, x) || core.Same(x, b) {
			t.Errorf("%d is the same", i)
		}
	}
	a := made(t, 1, 9)
	x := a
	x.Wait, x.Got, x.Ties = []int{}, api.View{Nodes: []int{}, Links: []api.Known{}}, []api.Tie{}
	if !core.Same(a, x) || !core.Same(b, b) {
		t.Error("alike, but not the same")
	}
}

// some is an event of small numbers.
func some(r *rand.Rand, c api.Core) api.Event {
	peer := 1 + r.Intn(5)
	name := api.Eid{Epoch: max(1, c.Eid.Epoch+r.Intn(4)-1), Root: 1 + r.Intn(5)}
	if r.Intn(2) == 0 && !c.Over {
		name = c.Eid
	}
	v := api.View{Nodes: []int{1 + r.Intn(5)}}
	switch r.Intn(12) {
	case 0:
		return up(peer, r.Intn(3), 1+r.Intn(3))
	case 1:
		return down(peer)
	case 2, 3:
		return heard(peer, api.Word{Kind: api.WordWave, Eid: name})
	case 4, 5:
		return heard(peer, api.Word{Kind: api.WordEcho, Eid: name, View: v})
	case 6:
		return heard(peer, api.Word{Kind: api.WordChoice, Eid: name, Choice: api.Choice{Kind: api.ChoiceDone}, View: v})
	case 7:
		return heard(peer, api.Word{Kind: api.WordChoice, Eid: name, Choice: api.Choice{Kind: 2 + r.Intn(2), A: c.Id, B: peer, Session: 1 + r.Intn(3)}})
	}
	return kind(peer, api.WordVow+r.Intn(4))
}

// Co3: whatever it hears: its name only grows, till it is over; then nothing is bound.
func TestWhatever(t *testing.T) {
	r := rand.New(rand.NewSource(28))
	overs := 0
	for range 400 {
		c := made(t, 1+r.Intn(5), 40)
		for range 300 {
			v := some(r, c)
			if r.Intn(2000) == 0 {
				v = api.Event{Kind: api.EventOver}
			}
			next, outs, e := core.Step(c, v)
			if e != api.OK {
				continue
			}
			again, outs2, _ := core.Step(c, v)
			if !core.Same(next, again) || len(outs) != len(outs2) {
				t.Fatal("not the same twice")
			}
			if c.Over && !next.Over || !next.Over && eid.Compare(next.Eid, c.Eid) < 0 || next.Top < c.Top {
				t.Fatalf("%v became %v", c, next)
			}
			for i, x := range next.Ties {
				if next.Over && x.Vow.Bound || i > 0 && next.Ties[i-1].Peer >= x.Peer {
					t.Fatalf("%v became %v", c, next)
				}
			}
			for _, o := range outs {
				if word.Check(o.Word) != api.OK {
					t.Fatalf("told %v", o)
				}
			}
			c = next
		}
		if c.Over {
			overs++
		}
	}
	if overs == 0 || overs == 400 {
		t.Errorf("%d are over", overs)
	}
}

// R1: cores that no call made: calls end, and none panics.
func TestOdd(t *testing.T) {
	r := rand.New(rand.NewSource(29))
	for range 3000 {
		c := api.Core{Id: r.Intn(9) - 1, Phase: r.Intn(6), Parent: r.Intn(4), Limit: r.Intn(5) - 1, Top: r.Intn(5) - 1, Eid: api.Eid{Epoch: r.Intn(3), Root: r.Intn(3)}}
		for range r.Intn(4) {
			c.Ties = append(c.Ties, api.Tie{Peer: r.Intn(5) - 1, W: r.Intn(3) - 1, Session: r.Intn(3) - 1, Vow: api.Vow{Mine: r.Intn(5) - 1, Bound: r.Intn(2) == 0, Theirs: r.Intn(2) == 0}})
			c.Wait = append(c.Wait, r.Intn(5))
			c.Got.Nodes = append(c.Got.Nodes, r.Intn(5))
		}
		core.Own(c)
		for range 4 {
			next, _, _ := core.Step(c, some(r, c))
			if next.Id != 0 {
				c = next
			}
		}
	}
}

// R3: answers share nothing with what was handed in, nor with each other.
func TestMemory(t *testing.T) {
	_, b := both(t)
	b = step(t, b, up(9, 1, 1), "1 wave 4.2")
	v := heard(1, api.Word{Kind: api.WordEcho, Eid: b.Eid, View: api.View{Nodes: []int{1}}})
	before := fmt.Sprint(b)
	next, _, _ := core.Step(b, v)
	next.Ties[0].W, next.Got.Nodes[0] = 77, 77
	if fmt.Sprint(b) != before || v.Word.View.Nodes[0] != 1 {
		t.Error("memory is shared")
	}
	own := core.Own(b)
	own.Links[0].W = 77
	if fmt.Sprint(b) != before {
		t.Error("Own shares memory")
	}
	c := made(t, 1, 9)
	c, _, _ = core.Step(c, up(2, 1, 1))
	c, _, _ = core.Step(c, kind(2, api.WordVow))
	c, outs, _ := core.Step(c, heard(2, api.Word{Kind: api.WordEcho, Eid: c.Eid, View: api.View{Nodes: []int{2}}}))
	after := fmt.Sprint(c)
	outs[0].Word.View.Nodes[0] = 77
	if fmt.Sprint(c) != after || c.Phase != api.PhaseDone {
		t.Error("what is told shares memory with the core")
	}
}
