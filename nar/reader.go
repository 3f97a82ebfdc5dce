package nar

import (
	"whisk/api"
	"whisk/wire"
)

// reader takes nodes from their bytes, and panics where there is none.
type reader struct {
	left  *wire.Reader
	level int                        // in so many nodes it is, one in another
	has   map[uint64]func() api.Node // by Kind, what takes all that such a node has behind it
}

func newReader(s string) *reader {
	r := &reader{left: wire.NewReader(s)}
	r.has = map[uint64]func() api.Node{
		api.KindFile: r.file,
		api.KindDir:  r.dir,
		api.KindLink: r.link,
	}
	return r
}

// node takes a node, all but its Name.
func (r *reader) node() api.Node {
	r.level++
	must(r.level <= api.MaxDeep) // a tree has no more, though bytes could say thousands
	take, known := r.has[r.num()]
	must(known)
	n := take()
	r.level--
	return n
}

func (r *reader) file() api.Node {
	exec := r.num()
	must(exec == isExec || exec == notExec)
	return api.Node{Kind: api.KindFile, Exec: exec == isExec, Data: r.text()}
}

func (r *reader) dir() api.Node {
	n := api.Node{Kind: api.KindDir}
	// Kids are not made room for ahead: the number may say more of them than there are bytes.
	for range r.num() {
		name := r.text()
		kid := r.node()
		kid.Name = name
		n.Kids = append(n.Kids, kid)
	}
	return n
}

func (r *reader) link() api.Node {
	return api.Node{Kind: api.KindLink, Data: r.text()}
}

func (r *reader) num() uint64 {
	n := r.left.Num()
	must(r.left.OK())
	return n
}

func (r *reader) text() string {
	t := r.left.Text()
	must(r.left.OK())
	return t
}

// misread is what is panicked with where bytes are no tree's.
type misread struct{}

// must gives up, unless this holds.
func must(holds bool) {
	if !holds {
		panic(misread{})
	}
}
