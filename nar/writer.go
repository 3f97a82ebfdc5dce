package nar

import (
	"strings"

	"whisk/api"
	"whisk/wire"
)

// writer lays the bytes of nodes that may be.
type writer struct {
	laid strings.Builder
	has  map[int]func(n api.Node) // by Kind, what lays all that such a node has behind it
}

func newWriter() *writer {
	w := &writer{}
	w.has = map[int]func(n api.Node){
		api.KindFile: w.file,
		api.KindDir:  w.dir,
		api.KindLink: w.link,
	}
	return w
}

// node lays all of n but its Name.
func (w *writer) node(n api.Node) {
	w.num(uint64(n.Kind))
	w.has[n.Kind](n)
}

func (w *writer) file(n api.Node) {
	if n.Exec {
		w.num(isExec)
	} else {
		w.num(notExec)
	}
	w.text(n.Data)
}

func (w *writer) dir(n api.Node) {
	w.num(uint64(len(n.Kids)))
	for _, kid := range n.Kids {
		w.text(kid.Name)
		w.node(kid)
	}
}

func (w *writer) link(n api.Node) {
	w.text(n.Data)
}

func (w *writer) num(n uint64) {
	w.laid.WriteString(wire.PutNum("", n))
}

func (w *writer) text(t string) {
	w.laid.WriteString(wire.PutText("", t))
}
