package canon_test

import (
	"strconv"
	"strings"
	"testing"

	"whisk/api"
	"whisk/fs"
	"whisk/tree"
)

// P10.2

// source is numbers that hang on the one it begins with alone.
type source uint64

// below answers one below n.
func (s *source) below(n int) int {
	*s = *s*6364136223846793005 + 1442695040888963407
	return int(uint64(*s) >> 33 % uint64(n))
}

// among answers one of these.
func (s *source) among(l ...string) string {
	return l[s.below(len(l))]
}

// tree answers one that may be, at most so deep, all of whose paths are short.
func (s *source) tree(name string, deep int) api.Node {
	switch s.below(4) {
	case 0:
		n := file(name, s.among("", "x", "hi\n", "\x00", "\xff", row(300)))
		n.Exec = s.below(2) > 0
		return n
	case 1:
		return link(name, s.among("a", "../a", "/", ".", "..", "none", "\x01", row(255)))
	}
	n := folder(name)
	for _, kid := range []string{"\x01", " ", "-", "...", "A", "a", "a b", "aa", "b", "\x80", "\xff"} {
		if deep > 1 && s.below(4) == 0 {
			n.Kids = append(n.Kids, s.tree(kid, deep-1))
		}
	}
	return n
}

// What Lay laid is taken just so, wherever it lies.
func TestLaid(t *testing.T) {
	from, inodes := source(1), 0
	for range 1500 {
		n := from.tree("", 1+from.below(9))
		if tree.Check(n) != api.OK {
			continue
		}
		f := system()
		must(t, f.Mkdir("/", "a"), f.Mkdir("/", "a/b"), f.Symlink("/", "a/b", "l"))
		for path, lies := range map[string]string{"/o": "o", "a/o": "/a/o/", "l/o": "/a/b/o"} {
			must(t, f.Lay(path, n))
			is(t, f, path, n)
			is(t, f, lies, n)
		}
		size, _ := tree.Size(n)
		inodes += size
	}
	if inodes < 10000 {
		t.Errorf("%d inodes: the trees tell too little", inodes)
	}
}

// All levels that there may be, and all nodes and bytes, and long names.
func TestLaidLimits(t *testing.T) {
	most := folder("")
	for i := range 1999 {
		most.Kids = append(most.Kids, file(strconv.Itoa(10000+i), ""))
	}
	most.Kids[7].Data = row(100000)
	for _, n := range []api.Node{
		nest(11, "d", file("f", "hi")), // the file system's root is the twelfth
		nest(10, "d", folder("e"), folder("f")),
		most,
		file("", row(100000)),
		link("", row(255)),
		nest(4, row(56), link(row(56), row(255))),
	} {
		f := system()
		must(t, f.Lay("/o", n))
		is(t, f, "/o", n)
	}
}

// mason makes trees in a file system otherwise than Lay does.
type mason struct {
	*source
	*fs.Fs
	t *testing.T
}

// Which bits of a mode there are, but whether some x bit is, how many entries a file has elsewhere, and in which order things were made, changes nothing.
func TestMadeOtherwise(t *testing.T) {
	from := source(2)
	for range 700 {
		n := from.tree("", 1+from.below(6))
		m := mason{&from, system(), t}
		must(t, m.Mkdir("/", "else"))
		m.make("/o", n)
		m.finish("/o", n)
		is(t, m.Fs, "/o", n)
	}
}

// make makes a node, and all that it has.
func (m mason) make(path string, n api.Node) {
	switch n.Kind {
	case api.KindFile:
		m.file(path, n.Data)
	case api.KindLink:
		must(m.t, m.Symlink("/", n.Data, path))
	case api.KindDir:
		must(m.t, m.Mkdir("/", path))
		for _, i := range m.order(len(n.Kids)) {
			kid := n.Kids[i]
			m.make(path+"/"+kid.Name, kid)
			m.pass(path + "/pass")
		}
	}
}

// order answers the numbers below n in some order.
func (m mason) order(n int) []int {
	var l []int
	for i := range n {
		l = append(l, i)
		at := m.below(i + 1)
		l[i], l[at] = l[at], l[i]
	}
	return l
}

// file makes a file: there, or elsewhere; at once, or bit by bit.
func (m mason) file(path, data string) {
	there := path
	if m.below(2) > 0 {
		there = "/else/new"
	}
	half := m.below(len(data) + 1)
	must(m.t, m.Write("/", there, data[:half], false), m.Write("/", there, data[half:], true))
	if there == path {
		return
	}
	if m.below(2) > 0 {
		must(m.t, m.Rename("/", there, path))
		return
	}
	must(m.t, m.Hard("/", there, path), m.Remove("/", there))
}

// pass makes something that goes again.
func (m mason) pass(path string) {
	switch m.below(4) {
	case 0:
		must(m.t, m.Write("/", path, "x", false), m.Remove("/", path))
	case 1:
		must(m.t, m.Mkdir("/", path), m.Symlink("/", "..", path+"/l"), m.Remove("/", path+"/l"), m.Remove("/", path))
	}
}

// finish gives files and directories other modes, and files entries elsewhere.
func (m mason) finish(path string, n api.Node) {
	mode := m.below(0o1000)
	if n.Kind == api.KindFile {
		mode = m.fileMode(n.Exec)
		for range m.below(3) {
			used := m.Names(2) // of /else
			must(m.t, m.Hard("/", path, "/else/"+strconv.Itoa(len(used))))
		}
	}
	if n.Kind != api.KindLink { // whose mode there is no call for
		must(m.t, m.Chmod("/", path, mode))
	}
	for _, kid := range n.Kids {
		m.finish(path+"/"+kid.Name, kid)
	}
}

// fileMode answers a mode that has some x bit, or none.
func (m mason) fileMode(exec bool) int {
	mode := m.below(0o1000) &^ 0o111
	if exec {
		mode |= []int{0o100, 0o010, 0o001, 0o110, 0o101, 0o011, 0o111}[m.below(7)]
	}
	return mode
}

// A file is one that is run just if its mode has some x bit; a directory and a link never are.
func TestModes(t *testing.T) {
	f := system()
	must(t, f.Mkdir("/", "o"), f.Write("/", "o/f", "hi", false), f.Symlink("/", "f", "o/l"))
	for mode := range 0o1000 {
		must(t, f.Chmod("/", "o/l", mode), f.Chmod("/", "o", mode)) // through the link
		one := file("f", "hi")
		one.Exec = strings.ContainsAny(strconv.FormatInt(int64(mode), 8), "1357")
		is(t, f, "/o", folder("", one, link("l", "f")))
		one.Name = ""
		is(t, f, "/o/f", one)
		is(t, f, "/o/l", link("", "f"))
	}
	for mode := range 0o1000 { // of a link, too, which the table alone can give
		ino, _ := f.Find(f.Root(), "o")
		ino, _ = f.Find(ino, "l")
		must(t, f.Table.Chmod(ino, mode))
		is(t, f, "/o/l", link("", "f"))
	}
}

// Each entry of a file is a file of its own.
func TestEntries(t *testing.T) {
	f := system()
	must(t, f.Mkdir("/", "o"), f.Mkdir("/", "o/d"), f.Write("/", "o/f", "hi", false))
	is(t, f, "/o", folder("", folder("d"), file("f", "hi")))
	must(t, f.Hard("/", "o/f", "elsewhere"), f.Hard("/", "elsewhere", "again"))
	is(t, f, "/o", folder("", folder("d"), file("f", "hi")))
	must(t, f.Hard("/", "again", "o/d/g"))
	is(t, f, "/o", folder("", folder("d", file("g", "hi")), file("f", "hi")))
	must(t, f.Write("/", "elsewhere", "ho", false), f.Chmod("/", "again", 0o001))
	is(t, f, "/o", folder("", folder("d", tool("g", "ho")), tool("f", "ho")))
	must(t, f.Remove("/", "o/f"), f.Remove("/", "elsewhere"), f.Remove("/", "again"))
	is(t, f, "/o", folder("", folder("d", tool("g", "ho"))))
	is(t, f, "/o/d/g", tool("", "ho"))
}
