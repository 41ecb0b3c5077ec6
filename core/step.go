package core

import (
	"slices"

	"withy/api"
	"withy/choose"
	"withy/eid"
	"withy/fresh"
	"withy/view"
	"withy/vow"
)

// step is a core that hears an event, and what it told by that.
type step struct {
	api.Core
	told []api.Out
}

// say tells a peer a word.
func (s *step) say(to int, w api.Word) {
	s.told = append(s.told, api.Out{To: to, Word: fresh.Word(w)})
}

// tie is where the tie to a peer stands; below 0: there is none.
func (s *step) tie(peer int) int {
	return slices.IndexFunc(s.Ties, func(t api.Tie) bool { return t.Peer == peer })
}

// turn turns a tie's vow, and tells its peer what that says.
func (s *step) turn(at int, by func(api.Vow) (api.Vow, api.Told, api.Errno)) api.Told {
	v, told, err := by(s.Ties[at].Vow)
	if err != api.OK {
		return api.Told{}
	}
	s.Ties[at].Vow = v
	for _, kind := range told.Words {
		s.say(s.Ties[at].Peer, api.Word{Kind: kind})
	}
	return told
}

// begin begins a fragment of a new name, if there is one.
func (s *step) begin() {
	if s.Over {
		return
	}
	name, err := eid.After(max(s.Top, s.Eid.Epoch), s.Limit, s.Id)
	if err != api.OK {
		s.end()
		return
	}
	s.adopt(name, 0)
}

// adopt takes a name over, tells it on, and asks to be free of all vows.
func (s *step) adopt(name api.Eid, parent int) {
	s.Eid = name
	s.Top = max(s.Top, name.Epoch)
	s.Parent = parent
	s.Phase = api.PhaseWave
	s.Got, s.Table, s.Wait = api.View{}, api.View{}, nil
	for _, peer := range s.children() {
		s.Wait = append(s.Wait, peer)
		s.say(peer, api.Word{Kind: api.WordWave, Eid: s.Eid})
	}
	for i := range s.Ties {
		s.turn(i, vow.Recant)
	}
	s.settle()
}

// children is the bound peers but the parent.
func (s *step) children() []int {
	var out []int
	for _, t := range s.Ties {
		if t.Vow.Bound && t.Peer != s.Parent {
			out = append(out, t.Peer)
		}
	}
	return out
}

// settle tells what is known, or chooses, once nothing is to come any more.
func (s *step) settle() {
	if s.Over || s.Phase != api.PhaseWave || len(s.Wait) > 0 || s.hasVow() {
		return
	}
	v, err := view.Merge(Own(s.Core), s.Got)
	if err != api.OK {
		v = Own(s.Core)
	}
	if s.Parent != 0 {
		s.say(s.Parent, api.Word{Kind: api.WordEcho, Eid: s.Eid, View: v})
		s.Phase = api.PhaseEcho
		return
	}
	c, err := choose.Choose(v)
	if err != api.OK {
		s.Phase = api.PhaseHeld
		return
	}
	s.do(c, v)
}

// hasVow tells whether a vow of one's own is open, or recanted and not yet free.
func (s *step) hasVow() bool {
	return slices.ContainsFunc(s.Ties, func(t api.Tie) bool { return t.Vow.Mine != api.VowNone })
}

// do does a choice, of a view, and tells it on.
func (s *step) do(c api.Choice, v api.View) {
	w := api.Word{Kind: api.WordChoice, Eid: s.Eid, Choice: c}
	if c.Kind == api.ChoiceDone {
		w.View = v
	}
	for _, peer := range s.children() {
		s.say(peer, w)
	}
	if c.Kind == api.ChoiceDone {
		s.Phase = api.PhaseDone
		s.Table = fresh.View(v)
		return
	}
	s.Phase = api.PhaseHeld
	at := s.tie(c.B)
	if c.A != s.Id || at < 0 || s.Ties[at].Session != c.Session {
		return
	}
	s.doOwn(c.Kind, at)
}

// doOwn does a choice that is one's own to do, of a tie.
func (s *step) doOwn(kind, at int) {
	switch kind {
	case api.ChoiceGrant:
		if s.turn(at, vow.Grant).Bound {
			s.begin()
		}
	case api.ChoiceEvict:
		if s.turn(at, vow.Part).Parted {
			s.begin()
		}
	}
}

// hearVow hears a word of a vow.
func (s *step) hearVow(at, kind int) {
	told := s.turn(at, func(v api.Vow) (api.Vow, api.Told, api.Errno) { return vow.Hear(v, kind) })
	switch {
	case told.Bound && s.Over:
		s.turn(at, vow.Part)
	case told.Bound || told.Parted:
		s.begin()
	case told.Freed:
		s.settle()
	}
}

// end lets all be: from now on the core is over.
func (s *step) end() {
	if s.Over {
		return
	}
	for i, t := range s.Ties {
		if t.Vow.Bound {
			s.turn(i, vow.Part)
		} else {
			s.turn(i, vow.Recant)
		}
	}
	s.Eid, s.Parent, s.Phase = api.Eid{}, 0, 0
	s.Wait, s.Got, s.Table = nil, api.View{}, api.View{}
	s.Over = true
}
