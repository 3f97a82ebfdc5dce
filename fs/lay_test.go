package fs_test

import (
	"strconv"
	"testing"

	"whisk/api"
	"whisk/fs"
	"whisk/tree"
)

// P8.6

// file, tool, link and folder answer a node with this name.
func file(name, data string) api.Node {
	return api.Node{Name: name, Kind: api.KindFile, Data: data}
}

func tool(name, data string) api.Node {
	return api.Node{Name: name, Kind: api.KindFile, Exec: true, Data: data}
}

func link(name, target string) api.Node {
	return api.Node{Name: name, Kind: api.KindLink, Data: target}
}

func folder(name string, kids ...api.Node) api.Node {
	return api.Node{Name: name, Kind: api.KindDir, Kids: kids}
}

// nest answers a tree of so many directories in one another, with these in the last one.
func nest(levels int, kids ...api.Node) api.Node {
	n := folder("", kids...)
	for range levels - 1 {
		n.Name = "d"
		n = folder("", n)
	}
	return n
}

// wood is a tree of all kinds.
func wood() api.Node {
	return folder("",
		file("-", ""),
		folder("a", folder("b", file("x", "1"), tool("y", "22"))),
		folder("empty"),
		file("f", "\x00\xff\n"),
		link("l", "a/b/x"),
		link("m", row(255)),
		tool(row(56), "run"),
	)
}

// taken answers what lies at the path as a tree, and fails the test unless all modes are those of what was laid.
func taken(t *testing.T, f *fs.Fs, path string) api.Node {
	t.Helper()
	one, e := f.Stat("/", path, false)
	must(t, e)
	n := api.Node{Kind: one.Kind, Data: one.Data}
	mode := 0o755
	switch {
	case one.Kind == api.KindLink:
		mode = 0o777
	case one.Kind == api.KindFile && one.Mode == 0o755:
		n.Exec = true
	case one.Kind == api.KindFile:
		mode = 0o644
	}
	if one.Mode != mode || one.Links != 1 {
		t.Errorf("%s is %+v", path, one)
	}
	if one.Kind == api.KindDir {
		names, e := f.List("/", path)
		must(t, e)
		for _, name := range names {
			kid := taken(t, f, path+"/"+name)
			kid.Name = name
			n.Kids = append(n.Kids, kid)
		}
	}
	return n
}

func TestLay(t *testing.T) {
	for _, n := range []api.Node{wood(), folder(""), file("", "hi"), file("", ""), tool("", "run"), link("", "../x"), nest(10, file("f", "hi"))} {
		f := city(t)
		for _, c := range []struct{ path, lies string }{
			{"/new-1", "new-1"},
			{"new-2", "new-2"}, // from the root
			{"a/new/", "a/new"},
			{"../a/./new-2", "a/new-2"},
			{"dir/../new-3", "a/new-3"}, // through links
			{row(56), row(56)},
		} {
			used := f.Used()
			is(t, "Lay "+c.path, f.Lay(c.path, n), api.OK)
			if got := taken(t, f, "/"+c.lies); !tree.Same(got, n) {
				t.Errorf("%+v, not %+v", got, n)
			}
			inodes, bytes := tree.Size(n)
			isUsed(t, f, used.Inodes+inodes, used.Bytes+bytes)
			if n.Kind == api.KindDir {
				isReal(t, f, "/"+c.lies, ".", "/"+c.lies, api.OK)
			}
		}
		isStat(t, f, "/", "a", false, stated(api.KindDir, 0o755, ""), api.OK)
	}
}

// trees that may not be, and why.
var badTrees = []struct {
	n api.Node
	e api.Errno
}{
	{api.Node{}, api.ErrArg},
	{file("named", ""), api.ErrArg},
	{link("", ""), api.ErrArg},
	{link("", row(256)), api.ErrArg},
	{folder("", file("b", ""), file("a", "")), api.ErrArg},
	{folder("", file("..", "")), api.ErrArg},
	{folder("", file("a/b", "")), api.ErrArg},
	{folder("", file(row(57), "")), api.ErrArg},
	{api.Node{Kind: api.KindFile, Kids: []api.Node{file("a", "")}}, api.ErrArg},
	{nest(13), api.ErrLong},
	{nest(12, file("f", "")), api.ErrLong},
	{file("", row(100001)), api.ErrLong},
}

func TestLayOfNoTree(t *testing.T) {
	f := city(t)
	was := shown(t, f)
	for _, c := range badTrees {
		name := "Lay of tree " + strconv.Itoa(c.n.Kind)
		is(t, name, f.Lay("/new", c.n), c.e)
		is(t, name, f.Lay("/a", c.n), c.e) // that is asked ahead of all else
		is(t, name, f.Lay("/", c.n), c.e)
		for _, p := range badPaths {
			is(t, name, f.Lay(p.path, c.n), c.e)
		}
	}
	stays(t, f, was)
}

func TestLayRefused(t *testing.T) {
	f := city(t)
	was := shown(t, f)
	for _, n := range []api.Node{wood(), file("", row(20000)), nest(11)} { // for some of which there is no room
		for _, c := range badPaths {
			if c.cwd == "/" {
				is(t, "Lay "+c.path, f.Lay(c.path, n), c.e)
			}
		}
		for _, path := range thingsThere {
			is(t, "Lay "+path, f.Lay(path, n), api.ErrThere)
		}
	}
	stays(t, f, was)
}

func TestLayDeep(t *testing.T) {
	for _, c := range []struct {
		ahead int // directories in one another, in the last of which it is laid
		n     api.Node
		e     api.Errno
	}{
		{0, nest(11), api.OK},
		{0, nest(11, file("f", "")), api.OK},
		{0, nest(11, link("f", "x")), api.OK},
		{0, nest(12), api.ErrLong},
		{1, nest(10), api.OK},
		{1, nest(11), api.ErrLong},
		{8, wood(), api.OK},
		{9, wood(), api.ErrLong},
		{10, nest(1), api.OK},
		{10, nest(2), api.ErrLong},
		{10, folder("", file("a", ""), link("b", "c")), api.OK}, // files are no directories
		{11, nest(1), api.ErrLong},
		{11, file("", "hi"), api.OK},
		{11, link("", "hi"), api.OK},
	} {
		f, full := system(t, 100, 1000), system(t, c.ahead+1, 1000)
		path := deep(t, f, c.ahead) + "/n"
		was := shown(t, f)
		deep(t, full, c.ahead)
		if is(t, "Lay at "+path, f.Lay(path, c.n), c.e); c.e != api.OK {
			stays(t, f, was)
			is(t, "Lay at "+path, full.Lay(path, c.n), c.e) // said ahead of there being no room
			continue
		}
		is(t, "Lay at "+path, full.Lay(path, c.n), api.ErrFull)
		if !tree.Same(taken(t, f, path), c.n) {
			t.Error("not what was laid at", path)
		}
	}
}

func TestLayWhereThereIsNoRoom(t *testing.T) {
	inodes, bytes := tree.Size(wood())
	for _, c := range []struct {
		inodes, bytes int
		e             api.Errno
	}{
		{inodes + 3, bytes + 2, api.OK},
		{inodes + 2, bytes + 2, api.ErrFull},
		{inodes + 3, bytes + 1, api.ErrFull},
		{3, 2, api.ErrFull},
		{3, bytes + 2, api.ErrFull},
		{inodes + 3, 2, api.ErrFull},
		{1 << 20, 1 << 30, api.OK},
	} {
		f := system(t, c.inodes, c.bytes)
		must(t, f.Mkdir("/", "d"), f.Write("/", "f", "hi", false))
		was := shown(t, f)
		is(t, "Lay", f.Lay("/d/n", wood()), c.e)
		if c.e != api.OK {
			stays(t, f, was)
		}
	}
}

// The greatest trees.
func TestLayMuch(t *testing.T) {
	f := system(t, 4002, 200000)
	n := folder("")
	for i := range 1999 {
		n.Kids = append(n.Kids, file(strconv.Itoa(1000+i), row(50)))
	}
	n.Kids[0].Data = row(100000 - 1998*50)
	must(t, f.Lay("/a", n), f.Lay("/b", n))
	isUsed(t, f, 4001, 200000)
	is(t, "Lay", f.Lay("/c", file("", "x")), api.ErrFull)
	must(t, f.Lay("/c", file("", "")))
	is(t, "Lay", f.Lay("/d", file("", "")), api.ErrFull)
	if !tree.Same(taken(t, f, "/b"), n) {
		t.Error("not what was laid")
	}
}

// The tree that was handed in stays as it was, and what becomes of it changes nothing.
func TestLayKeepsNothing(t *testing.T) {
	f := system(t, 20, 1000)
	n := wood()
	must(t, f.Lay("/n", n))
	if !tree.Same(n, wood()) {
		t.Error("the tree was changed")
	}
	n.Kids[0].Name, n.Kids[0].Data, n.Kids[1].Kids[0].Kids = "z", "other", nil
	if !tree.Same(taken(t, f, "/n"), wood()) {
		t.Error("the tree is kept")
	}
}
