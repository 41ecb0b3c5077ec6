package node

import (
	"slices"

	"withy/api"
	"withy/core"
	"withy/frame"
	"withy/link"
	"withy/word"
)

// act is something that a node does: what goes by it, and what came about and is not yet heard.
type act struct {
	node   *Node
	out    []api.Flight
	events []api.Event
}

// turn lets a port's link be another one, whose news are told, and heard.
func (a *act) turn(at int, l api.Link, news api.News) {
	a.node.links[at] = l
	a.send(l.Peer, news.Frames)
	if news.Down {
		a.events = append(a.events, api.Event{Kind: api.EventDown, Peer: l.Peer})
	}
	if news.Session != 0 {
		a.events = append(a.events, api.Event{Kind: api.EventUp, Peer: l.Peer, W: l.W, Session: news.Session})
	}
	for _, b := range news.Came {
		if w, err := word.Decode(b); err == api.OK {
			a.events = append(a.events, api.Event{Kind: api.EventWord, Peer: l.Peer, Word: w})
		}
	}
	a.hearAll()
}

// send lets frames go to a peer.
func (a *act) send(to int, frames []api.Frame) {
	for _, f := range frames {
		if b, err := frame.Encode(f); err == api.OK {
			a.out = append(a.out, api.Flight{From: a.node.core.Id, To: to, B: b})
		}
	}
}

// hearAll lets the core hear what came about, and what comes about by that.
func (a *act) hearAll() {
	for len(a.events) > 0 {
		v := a.events[0]
		a.events = a.events[1:]
		c, outs, err := core.Step(a.node.core, v)
		if err != api.OK {
			continue
		}
		a.node.core = c
		a.node.heard = append(a.node.heard, v)
		for _, o := range outs {
			a.tell(o)
		}
	}
}

// tell pushes a word on the link to its peer; if it can't go there any more, that is closed.
func (a *act) tell(o api.Out) {
	at, is := a.node.at(o.To)
	b, err := word.Encode(o.Word)
	if !is || err != api.OK {
		return
	}
	l, err := link.Push(a.node.links[at], b, a.node.limits.Seq)
	switch err {
	case api.OK:
		a.node.links[at] = l
	case api.ErrFull, api.ErrOver:
		a.node.links[at], _, _ = link.Close(a.node.links[at], a.node.limits.Session)
		a.events = append(a.events, api.Event{Kind: api.EventDown, Peer: o.To})
	}
}

// end ends an act: what is over is told, what waits goes.
func (a *act) end() []api.Flight {
	isOver := func(l api.Link) bool { return l.Line.Hand.Over }
	if !a.node.core.Over && slices.ContainsFunc(a.node.links, isOver) {
		a.events = append(a.events, api.Event{Kind: api.EventOver})
		a.hearAll()
	}
	for at, l := range a.node.links {
		l, news, _ := link.Flush(l)
		a.node.links[at] = l
		a.send(l.Peer, news.Frames)
	}
	return a.out
}
