package fs

import (
	"whisk/api"
	"whisk/tree"
)

// Lay lays a tree, with all that it has.
func (f *Fs) Lay(path string, n api.Node) api.Errno {
	if f.isNone() {
		return api.ErrNil
	}
	if e := tree.Check(n); e != api.OK {
		return e
	}
	return f.at(stroke, path, false, func(p place) api.Errno {
		switch {
		case p.isThere():
			return api.ErrThere
		case p.isTooDeep(levelsOf(n)):
			return api.ErrLong
		case !f.hasRoom(n):
			return api.ErrFull
		}
		f.lay(p.dir(), p.name(), n)
		return api.OK
	})
}

// lay makes a node, and all that it has. Whether there is room was asked: nothing fails halfway.
func (f *Fs) lay(dir int, name string, n api.Node) {
	ino, _ := f.Make(dir, name, n.Kind, modeOf(n), n.Data)
	for _, kid := range n.Kids {
		f.lay(ino, kid.Name, kid)
	}
}

// hasRoom tells whether there is room for all of a tree.
func (f *Fs) hasRoom(n api.Node) bool {
	inodes, bytes := tree.Size(n)
	used, quota := f.Used(), f.Quota()
	return inodes <= quota.Inodes-used.Inodes && bytes <= quota.Bytes-used.Bytes
}

// levelsOf answers how many directories of a tree lie in one another; 0, if it is none.
func levelsOf(n api.Node) int {
	if n.Kind != api.KindDir {
		return 0
	}
	below := 0
	for _, kid := range n.Kids {
		below = max(below, levelsOf(kid))
	}
	return 1 + below
}

// modeOf answers the mode that a node is laid with.
func modeOf(n api.Node) int {
	switch {
	case n.Kind == api.KindDir:
		return dirMode
	case n.Kind == api.KindLink:
		return linkMode
	case n.Exec:
		return execMode
	}
	return fileMode
}
