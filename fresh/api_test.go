package fresh_test

import (
	"reflect"
	"testing"

	"withy/api"
	"withy/fresh"
)

// R3: views, words and cores are alike, and share nothing.
func TestApi(t *testing.T) {
	some := func() api.View { return api.View{Nodes: []int{1, 2}, Links: []api.Known{{Node: 1, Peer: 2}}} }
	w := api.Word{Kind: api.WordEcho, Eid: api.Eid{Epoch: 1, Root: 2}, Choice: api.Choice{A: 1}, View: some()}
	got := fresh.Word(w)
	if !reflect.DeepEqual(got, w) {
		t.Errorf("%v", got)
	}
	got.View.Nodes[0], got.View.Links[0].W = 9, 9
	if !reflect.DeepEqual(w.View, some()) {
		t.Error("Word shares memory")
	}
	c := api.Core{Id: 1, Top: 2, Ties: []api.Tie{{Peer: 2}}, Wait: []int{2}, Got: some(), Table: some()}
	other := fresh.Core(c)
	if !reflect.DeepEqual(other, c) {
		t.Errorf("%v", other)
	}
	other.Ties[0].W, other.Wait[0], other.Got.Nodes[0], other.Table.Links[0].W = 9, 9, 9, 9
	if c.Ties[0].W != 0 || c.Wait[0] != 2 || !reflect.DeepEqual(c.Got, some()) || !reflect.DeepEqual(c.Table, some()) {
		t.Error("Core shares memory")
	}
}

// R3: events and links, too.
func TestMore(t *testing.T) {
	v := api.Event{Kind: api.EventWord, Peer: 2, Word: api.Word{View: api.View{Nodes: []int{1}}}}
	gotV := fresh.Event(v)
	l := api.Link{Peer: 2, Line: api.Line{Sender: api.Sender{Queue: [][]byte{{1}}}}}
	gotL := fresh.Link(l)
	if !reflect.DeepEqual(gotV, v) || !reflect.DeepEqual(gotL, l) {
		t.Error("not alike")
	}
	gotV.Word.View.Nodes[0], gotL.Line.Sender.Queue[0][0] = 9, 9
	if v.Word.View.Nodes[0] != 1 || l.Line.Sender.Queue[0][0] != 1 {
		t.Error("memory is shared")
	}
}
