package fresh

import "withy/api"

// View is a new view.
func View(v api.View) api.View { return api.View{Nodes: List(v.Nodes), Links: List(v.Links)} }

// Word is a new word.
func Word(w api.Word) api.Word {
	w.View = View(w.View)
	return w
}

// Core is a new core.
func Core(c api.Core) api.Core {
	c.Ties = List(c.Ties)
	c.Wait = List(c.Wait)
	c.Got = View(c.Got)
	c.Table = View(c.Table)
	return c
}

// Event is a new event.
func Event(v api.Event) api.Event {
	v.Word = Word(v.Word)
	return v
}

// Link is a new link.
func Link(l api.Link) api.Link {
	l.Line.Sender.Queue = Lists(l.Line.Sender.Queue)
	return l
}
