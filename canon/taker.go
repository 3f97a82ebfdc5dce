package canon

import (
	"iter"
	"strings"

	"whisk/api"
	"whisk/fs"
)

const (
	stroke   = "/" // between a path's names; alone, the root
	execBits = 0o111
)

// taker takes what lies in a file system as nodes.
type taker struct {
	from *fs.Fs
	as   map[int]take // by Kind
}

// take answers the node, without a Name, of an inode that lies at the path.
type take func(path string, one api.Inode) (api.Node, api.Errno)

func newTaker(f *fs.Fs) *taker {
	t := &taker{from: f}
	t.as = map[int]take{
		api.KindFile: func(_ string, one api.Inode) (api.Node, api.Errno) {
			return api.Node{Kind: api.KindFile, Exec: one.Mode&execBits != 0, Data: one.Data}, api.OK
		},
		api.KindDir: func(path string, _ api.Inode) (api.Node, api.Errno) {
			n := api.Node{Kind: api.KindDir}
			for kid, e := range t.kids(path) {
				if e != api.OK {
					return api.Node{}, e
				}
				n.Kids = append(n.Kids, kid)
			}
			return n, api.OK
		},
		api.KindLink: func(_ string, one api.Inode) (api.Node, api.Errno) {
			return api.Node{Kind: api.KindLink, Data: one.Data}, api.OK
		},
	}
	return t
}

// node takes what lies at the path, without a Name.
func (t *taker) node(path string) (api.Node, api.Errno) {
	one, e := t.from.Stat(stroke, path, false)
	if e != api.OK {
		return api.Node{}, e
	}
	return t.as[one.Kind](path, one)
}

// kids tells what lies in the directory at the path, as nodes with their Names, or the error of taking it.
func (t *taker) kids(path string) iter.Seq2[api.Node, api.Errno] {
	return func(yield func(kid api.Node, e api.Errno) bool) {
		names, e := t.from.List(stroke, path)
		if e != api.OK {
			yield(api.Node{}, e)
			return
		}
		// The path is not made plain: how long it is decides what lies too far down to be reached.
		ahead := strings.TrimSuffix(path, stroke) + stroke
		for _, name := range names {
			kid, e := t.node(ahead + name)
			kid.Name = name
			if !yield(kid, e) {
				return
			}
		}
	}
}
