package canon_test

import (
	"slices"
	"strings"
	"testing"

	"whisk/api"
	"whisk/fs"
)

// The chapter's words once more, said plainly of the table's inodes, not of paths.

// counts tells whether one of these names counts for something.
func counts(names []string) bool {
	return slices.ContainsFunc(names, func(name string) bool { return name != "" && name != "." })
}

// lies answers which inode lies at a path, not followed, of which Stat has no error.
func lies(f *fs.Fs, path string) int {
	at := 1
	for names := strings.Split(path, "/"); len(names) > 0; {
		name := names[0]
		names = names[1:]
		switch name {
		case "", ".":
			continue
		case "..":
			at = f.Up(at)
			continue
		}
		ino, _ := f.Find(at, name)
		one, _ := f.Node(ino)
		if one.Kind != 3 || !counts(names) {
			at = ino
			continue
		}
		if one.Data[0] == '/' {
			at = 1
		}
		names = append(strings.Split(one.Data, "/"), names...)
	}
	return at
}

// wordNode answers the tree that an inode is, and how many bytes more than the inode's own path the longest one of its Kids' has.
func wordNode(f *fs.Fs, ino int) (n api.Node, more int) {
	one, _ := f.Node(ino)
	n = api.Node{Kind: one.Kind, Data: one.Data}
	n.Exec = one.Kind == 1 && (one.Mode/64%2 == 1 || one.Mode/8%2 == 1 || one.Mode%2 == 1)
	for _, name := range f.Names(ino) {
		kid, _ := f.Find(ino, name)
		m, below := wordNode(f, kid)
		m.Name = name
		n.Kids = append(n.Kids, m)
		more = max(more, 1+len(name)+below)
	}
	return n, more
}

// size answers how many nodes, bytes and levels a tree has.
func size(n api.Node) (nodes, bytes, levels int) {
	nodes, bytes = 1, len(n.Data)
	for _, kid := range n.Kids {
		a, b, c := size(kid)
		nodes, bytes, levels = nodes+a, bytes+b, max(levels, c)
	}
	return nodes, bytes, levels + 1
}

// wordOf answers what Of should.
func wordOf(f *fs.Fs, path string) (api.Node, api.Errno) {
	if _, e := f.Stat("/", path, false); e != 0 {
		return api.Node{}, e
	}
	n, more := wordNode(f, lies(f, path))
	if more > 0 && path[len(path)-1] == '/' {
		more--
	}
	nodes, bytes, levels := size(n)
	if len(path)+more > 255 || nodes > 2000 || bytes > 100000 || levels > 12 {
		return api.Node{}, 3
	}
	return n, 0
}

// path answers one of which some names may be there.
func (s *source) path() string {
	path := s.among("", "", "/")
	for range s.below(7) {
		path += s.among("a", "b", "c", "l", "m", "l", "", ".", "..", row(56)) + s.among("/", "/", "/", "//")
	}
	if s.below(3) > 0 {
		path = strings.TrimSuffix(path, "/")
	}
	if s.below(8) == 0 && len(path) < 250 {
		path = strokes(240+s.below(16), path[max(0, len(path)-200):])
	}
	return path
}

// act does something with a file system.
func (s *source) act(f *fs.Fs) {
	path := s.path()
	switch s.below(12) {
	case 0, 1, 2, 3:
		f.Mkdir("/", path)
	case 4, 5:
		f.Write("/", path, s.among("", "hi", row(300), row(30000)), s.below(2) > 0)
	case 6:
		f.Symlink("/", s.path(), path)
	case 7:
		f.Hard("/", path, s.path())
	case 8:
		f.Chmod("/", path, s.below(0o1000))
	case 9:
		f.Rename("/", path, s.path())
	case 10:
		f.Remove("/", path)
	case 11:
		f.Lay(path, s.tree("", 4))
	}
}

// Whatever was done, what is taken is what the words say.
func TestAsTheWordsSay(t *testing.T) {
	from, met := source(3), map[api.Errno]int{}
	nodes, behind := 0, 0
	for range 400 {
		f := system()
		for range 150 {
			from.act(f)
			path := from.path()
			want, e := wordOf(f, path)
			met[e]++
			if e != api.OK {
				isNot(t, f, path, e)
				if _, first := f.Stat("/", path, false); first == api.OK {
					behind++
				}
				continue
			}
			is(t, f, path, want)
			more, _, _ := size(want)
			nodes += more
		}
	}
	for _, e := range []api.Errno{api.OK, api.ErrLong, api.ErrNone, api.ErrNotDir, api.ErrLoop} {
		if met[e] < 300 {
			t.Errorf("%v was met %d times: the paths tell too little", e, met[e])
		}
	}
	if nodes < 50000 || behind < 300 {
		t.Errorf("%d nodes were taken, %d errors met behind the first one: they tell too little", nodes, behind)
	}
}
