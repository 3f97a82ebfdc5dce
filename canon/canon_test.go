package canon_test

import (
	"reflect"
	"strconv"
	"strings"
	"testing"

	"whisk/api"
	"whisk/canon"
	"whisk/fs"
	"whisk/tree"
)

// file, tool, link and folder answer a node with this name.
func file(name, data string) api.Node {
	return api.Node{Name: name, Kind: api.KindFile, Data: data}
}

func tool(name, data string) api.Node {
	return api.Node{Name: name, Kind: api.KindFile, Exec: true, Data: data}
}

func link(name, target string) api.Node {
	return api.Node{Name: name, Kind: api.KindLink, Data: target}
}

func folder(name string, kids ...api.Node) api.Node {
	return api.Node{Name: name, Kind: api.KindDir, Kids: kids}
}

// nest answers a tree of so many directories in one another, each but the tree itself with this name, and these in the last one.
func nest(levels int, name string, kids ...api.Node) api.Node {
	n := folder("", kids...)
	for range levels - 1 {
		n.Name = name
		n = folder("", n)
	}
	return n
}

// row answers so many bytes x.
func row(size int) string {
	return strings.Repeat("x", size)
}

// strokes answers a path of so many bytes, with as many strokes ahead of these as that takes.
func strokes(size int, path string) string {
	return strings.Repeat("/", size-len(path)) + path
}

// system answers a file system with room for more than a tree may have.
func system() *fs.Fs {
	return fs.New(api.Quota{Inodes: 5000, Bytes: 500000})
}

// must ends the test unless all calls succeeded.
func must(t *testing.T, l ...api.Errno) {
	t.Helper()
	for i, e := range l {
		if e != api.OK {
			t.Fatalf("call %d: %v", i, e)
		}
	}
}

// city is a file system of some directories, files and links.
func city(t *testing.T) *fs.Fs {
	t.Helper()
	f := system()
	must(t,
		f.Mkdir("/", "a"),
		f.Mkdir("/", "a/b"),
		f.Mkdir("/", "a/empty"),
		f.Write("/", "a/b/f", "hi", false),
		f.Write("/", "a/run", "go", false),
		f.Chmod("/", "a/run", 0o700),
		f.Symlink("/", "b/f", "a/to-f"),
		f.Symlink("/", "a/b", "to-b"),
		f.Symlink("/", "nowhere", "to-none"),
		f.Symlink("/", "loop", "loop"),
	)
	return f
}

// cityA answers what lies there at /a, with this name; cityAll what lies there at /.
func cityA(name string) api.Node {
	return folder(name, folder("b", file("f", "hi")), folder("empty"), tool("run", "go"), link("to-f", "b/f"))
}

func cityAll() api.Node {
	return folder("", cityA("a"), link("loop", "loop"), link("to-b", "a/b"), link("to-none", "nowhere"))
}

// show answers n as a text that is not too long.
func show(n api.Node) string {
	s := strconv.Itoa(n.Kind) + ":" + strconv.Quote(n.Name)
	if n.Exec {
		s += "x"
	}
	s += strconv.Quote(n.Data[:min(len(n.Data), 10)])
	for _, kid := range n.Kids[:min(len(n.Kids), 12)] {
		s += "[" + show(kid) + "]"
	}
	return s
}

// is fails the test unless that lies at the path.
func is(t *testing.T, f *fs.Fs, path string, want api.Node) {
	t.Helper()
	if n, e := canon.Of(f, path); e != api.OK || !tree.Same(n, want) {
		t.Errorf("Of(%.300q) = %.1000s, %v, not %.1000s", path, show(n), e, show(want))
	}
}

// isNot fails the test unless this is the error, and nothing else is answered.
func isNot(t *testing.T, f *fs.Fs, path string, want api.Errno) {
	t.Helper()
	if n, e := canon.Of(f, path); e != want || !reflect.DeepEqual(n, api.Node{}) {
		t.Errorf("Of(%.300q) = %.1000s, %v, not %v", path, show(n), e, want)
	}
}

// P10.1

// The chapter's own examples.
func TestExamples(t *testing.T) {
	f := system()
	isNot(t, f, "/o", api.ErrNone)
	must(t,
		f.Mkdir("/", "o"),
		f.Write("/", "o/x", "1", false),
		f.Chmod("/", "o/x", 0o700),
		f.Symlink("/", "x", "o/l"),
		f.Hard("/", "o/x", "o/h"),
	)
	is(t, f, "/o", folder("", tool("h", "1"), link("l", "x"), tool("x", "1")))
}

func TestOf(t *testing.T) {
	f := city(t)
	is(t, f, "/", cityAll())
	is(t, f, "/a", cityA(""))
	is(t, f, "/a/b", folder("", file("f", "hi")))
	is(t, f, "/a/b/f", file("", "hi"))
	is(t, f, "/a/run", tool("", "go"))
	is(t, f, "/a/to-f", link("", "b/f"))
	is(t, f, "/a/empty", folder(""))
	is(t, system(), "/", folder(""))
}

// A path is gone from the root, whether it begins with a stroke or not, and need not be plain.
func TestPaths(t *testing.T) {
	f := city(t)
	for _, path := range []string{
		"a", "/a/", "a/", "//a", "///a///", "./a", "/./a/.", "a/.", "a/./", "../a", "../../a/",
		"a/b/..", "/a/b/../", "a/b/../../a", "to-b/..", "to-b/../", "/to-b/../../a/.",
	} {
		is(t, f, path, cityA(""))
	}
	for _, path := range []string{"//", "///", ".", "..", "/.", "./", "../", "a/..", "/a/../", "to-b/../.."} {
		is(t, f, path, cityAll())
	}
	for _, path := range []string{"to-b/f", "/to-b//f", "to-b/../b/f", "a/b/f/", "a/b/f/."} {
		is(t, f, path, file("", "hi"))
	}
}

// A link at the end is taken as a link, wherever it leads.
func TestLinks(t *testing.T) {
	f := city(t)
	for _, path := range []string{"to-b", "to-b/", "to-b/.", "/to-b//", "a/../to-b", "to-b/../../to-b"} {
		is(t, f, path, link("", "a/b"))
	}
	is(t, f, "to-none", link("", "nowhere"))
	is(t, f, "loop", link("", "loop"))
	is(t, f, "loop/", link("", "loop"))
	must(t,
		f.Symlink("/", "..", "a/b/up"),
		f.Symlink("/", "/", "a/b/root"),
		f.Symlink("/", row(255), "a/b/far"),
		f.Symlink("/", "\xff//.", "a/b/odd"),
	)
	is(t, f, "/a/b", folder("", file("f", "hi"), link("far", row(255)), link("odd", "\xff//."), link("root", "/"), link("up", "..")))
}

// Data is any bytes, and none at all.
func TestData(t *testing.T) {
	f := system()
	must(t, f.Mkdir("/", "o"))
	for _, data := range []string{"", "\x00", "a\x00b", "\n", "\xff\x80", row(100000)} {
		must(t, f.Write("/", "o/f", data, false))
		is(t, f, "/o/f", file("", data))
		is(t, f, "/o", folder("", file("f", data)))
	}
}

// Kids rise by their names, byte by byte.
func TestNames(t *testing.T) {
	names := []string{"\x01", " ", "-", "...", "A", "B", "a", "a b", "a-b", "aa", "b", row(56), "\x80", "\xff", "\xff\x01"}
	f, want := system(), folder("")
	must(t, f.Mkdir("/", "o"))
	for i, name := range names {
		must(t, f.Write("/", "o/"+names[i*4%len(names)], "", false)) // each of them once
		want.Kids = append(want.Kids, file(name, ""))
	}
	is(t, f, "/o", want)
}

func TestErrors(t *testing.T) {
	f := city(t)
	for _, c := range []struct {
		path string
		e    api.Errno
	}{
		{"", api.ErrNone},
		{"/none", api.ErrNone},
		{"none", api.ErrNone},
		{"/a/none", api.ErrNone},
		{"/none/a", api.ErrNone},
		{"/none/..", api.ErrNone},
		{"/a/a", api.ErrNone},
		{"/to-none/x", api.ErrNone},
		{"/to-none/..", api.ErrNone},
		{"/a/run/x", api.ErrNotDir},
		{"/a/run/..", api.ErrNotDir},
		{"/a/to-f/../f", api.ErrNotDir},
		{"/loop/x", api.ErrLoop},
		{"/loop/..", api.ErrLoop},
		{"/" + row(56), api.ErrNone},
		{"/" + row(57), api.ErrLong},
		{"/" + row(57) + "/x", api.ErrLong},
		{"/a/run/" + row(57), api.ErrNotDir},
		{strokes(255, "a/b/none"), api.ErrNone},
		{strokes(256, "a/b/none"), api.ErrLong},
		{strokes(256, "a\x00"), api.ErrLong},
		{strokes(255, "a\x00"), api.ErrArg},
		{"\x00", api.ErrArg},
		{"/none/\x00", api.ErrArg},
		{row(1 << 20), api.ErrLong},
	} {
		isNot(t, f, c.path, c.e)
	}
}

// A file system that is none, whatever the path.
func TestNoFileSystem(t *testing.T) {
	for _, f := range []*fs.Fs{nil, {}, fs.New(api.Quota{})} {
		for _, path := range []string{"", "/", "a", "\x00", row(300)} {
			isNot(t, f, path, api.ErrNil)
		}
	}
}

// A Kid's path is the one that was handed in, just as it is, a stroke, if that does not end with one, and the name: it may be too long, though a shorter one leads there, too.
func TestPathsOfKids(t *testing.T) {
	f := system()
	must(t, f.Mkdir("/", "empty"), f.Mkdir("/", "o"), f.Mkdir("/", "o/d"))
	for _, c := range []struct {
		path string
		want api.Node
		most int // bytes that the path may have
	}{
		{"empty", folder(""), 255},
		{"empty/", folder(""), 255},
		{"o/d", folder(""), 255},
		{"o", folder("", folder("d")), 253},
		{"o/", folder("", folder("d")), 254},
		{"o//", folder("", folder("d")), 254},
		{"o/.", folder("", folder("d")), 253},
		{"o/d/..", folder("", folder("d")), 253},
	} {
		is(t, f, strokes(c.most, c.path), c.want)
		isNot(t, f, strokes(c.most+1, c.path), api.ErrLong)
	}
	must(t, f.Write("/", "o/d/f", "", false))
	is(t, f, strokes(251, "o"), folder("", folder("d", file("f", ""))))
	is(t, f, strokes(252, "o/"), folder("", folder("d", file("f", ""))))
	isNot(t, f, strokes(252, "o"), api.ErrLong)
	isNot(t, f, strokes(253, "o/"), api.ErrLong)
	is(t, f, strokes(253, "o/d"), folder("", file("f", "")))
	isNot(t, f, strokes(254, "o/d"), api.ErrLong)
	must(t, f.Remove("/", "empty"), f.Remove("/", "o/d/f"), f.Remove("/", "o/d"))
	is(t, f, strokes(254, ""), folder("", folder("o")))
	isNot(t, f, strokes(255, ""), api.ErrLong)
}

// What lies far down, in directories with long names, has a path that is too long.
func TestLongNames(t *testing.T) {
	f := system()
	far := "/o" + strings.Repeat("/"+row(56), 4) // 230 bytes
	must(t, f.Lay("/o", nest(5, row(56), file(row(24), ""))))
	is(t, f, far+"/"+row(24), file("", ""))
	is(t, f, "/o", nest(5, row(56), file(row(24), "")))
	isNot(t, f, "//o", api.ErrLong)
	must(t, f.Symlink("/", far, "near"), f.Write("/", "near/"+row(25), "", false))
	isNot(t, f, "/o", api.ErrLong)
	isNot(t, f, far, api.ErrLong)
	is(t, f, "near/../"+row(56), folder("", file(row(24), ""), file(row(25), "")))
}

// What lies behind one that is too long is of no use.
func TestLongNamesAnywhere(t *testing.T) {
	for _, name := range []string{"a", "b", "c"} {
		f := system()
		must(t, f.Lay("/o", folder("", folder("a"), folder("b"), folder("c"))))
		must(t, f.Write("/", "o/"+name+"/f", "", false))
		isNot(t, f, strokes(252, "o"), api.ErrLong)
		is(t, f, strokes(253, "o/"+name), folder("", file("f", "")))
	}
}

// The root lies at the first of 12 levels of directories: files in the last one are too deep for a tree of all.
func TestDepth(t *testing.T) {
	f := system()
	deep := strings.Repeat("/d", 11)
	must(t, f.Lay("/d", nest(11, "d")))
	is(t, f, "/", nest(12, "d"))
	must(t, f.Write("/", deep+"/f", "", false))
	isNot(t, f, "/", api.ErrLong)
	isNot(t, f, deep+strings.Repeat("/..", 11), api.ErrLong)
	is(t, f, "/d", nest(11, "d", file("f", "")))
	must(t, f.Remove("/", deep+"/f"), f.Symlink("/", ".", deep+"/l"))
	isNot(t, f, "/", api.ErrLong)
	is(t, f, "/d", nest(11, "d", link("l", ".")))
}

// The table that a file system embeds makes directories as deep as one likes.
func TestDepthOfTheTable(t *testing.T) {
	f := system()
	dirs := []int{f.Root()}
	for range 200 {
		ino, e := f.Make(dirs[len(dirs)-1], "d", api.KindDir, 0o755, "")
		must(t, e)
		dirs = append(dirs, ino)
	}
	down := func(levels int) string { return strings.Repeat("d/", levels) }
	isNot(t, f, "/", api.ErrLong)
	isNot(t, f, down(110), api.ErrLong)
	must(t, f.Unlink(dirs[199], "d"))
	for i := 198; i >= 24; i-- {
		must(t, f.Unlink(dirs[i], "d"))
	}
	isNot(t, f, "/", api.ErrLong)
	isNot(t, f, down(12), api.ErrLong)
	is(t, f, down(13), nest(12, "d"))
	is(t, f, down(24), folder(""))
}

// A tree has so many nodes, at most; an entry more of a file is one, too.
func TestManyNodes(t *testing.T) {
	f := system()
	want := folder("")
	must(t, f.Mkdir("/", "o"), f.Mkdir("/", "elsewhere"))
	for i := range 1999 {
		name := strconv.Itoa(10000 + i)
		must(t, f.Write("/", "o/"+name, "", false))
		want.Kids = append(want.Kids, file(name, ""))
	}
	is(t, f, "/o", want)
	isNot(t, f, "/", api.ErrLong)
	must(t, f.Hard("/", "o/10000", "elsewhere/h"))
	is(t, f, "/o", want)
	must(t, f.Hard("/", "o/10000", "o/h"))
	isNot(t, f, "/o", api.ErrLong)
	is(t, f, "/o/10000", file("", ""))
	must(t, f.Remove("/", "o/h"), f.Write("/", "o/last", "", false))
	isNot(t, f, "/o", api.ErrLong)
	must(t, f.Remove("/", "o/last"))
	is(t, f, "/o", want)
}

// A tree has so many bytes, at most; those of a file count at each of its entries.
func TestManyBytes(t *testing.T) {
	f := system()
	must(t, f.Mkdir("/", "o"), f.Write("/", "o/f", row(99990), false), f.Symlink("/", row(10), "o/l"))
	is(t, f, "/o", folder("", file("f", row(99990)), link("l", row(10))))
	must(t, f.Write("/", "o/f", "x", true))
	isNot(t, f, "/o", api.ErrLong)
	is(t, f, "/o/f", file("", row(99991)))
	must(t, f.Write("/", "o/f", row(100001), false))
	isNot(t, f, "/o/f", api.ErrLong)
	must(t, f.Remove("/", "o/l"), f.Write("/", "o/f", row(50000), false), f.Hard("/", "o/f", "o/g"), f.Hard("/", "o/f", "h"))
	is(t, f, "/o", folder("", file("f", row(50000)), file("g", row(50000))))
	isNot(t, f, "/", api.ErrLong)
	must(t, f.Write("/", "h", "x", true))
	isNot(t, f, "/o", api.ErrLong)
}

// The call changes nothing, and answers the same again.
func TestChangesNothing(t *testing.T) {
	f := city(t)
	for _, path := range []string{"/", "a", "to-b", "/a/run", "/none", "/loop/x", ""} {
		before := told(f)
		n, e := canon.Of(f, path)
		m, again := canon.Of(f, path)
		if e != again || !tree.Same(n, m) && e == api.OK {
			t.Errorf("Of(%q): %s, %v and %s, %v", path, show(n), e, show(m), again)
		}
		if !reflect.DeepEqual(told(f), before) {
			t.Errorf("Of(%q): changed", path)
		}
	}
}

// told answers all inodes of a file system, by their numbers, and its names.
func told(f *fs.Fs) []any {
	l := []any{f.Used(), f.Quota()}
	for ino := range 5001 {
		if one, ok := f.Node(ino); ok {
			l = append(l, ino, one, f.Names(ino), f.Up(ino))
		}
	}
	return l
}

// What was answered is new: who changes it changes no other answer, nor does what is done with the file system behind it.
func TestIsNew(t *testing.T) {
	f := city(t)
	n, _ := canon.Of(f, "/")
	m, _ := canon.Of(f, "/")
	spoil(n.Kids)
	is(t, f, "/", cityAll())
	must(t, f.Write("/", "a/b/f", "other", false), f.Remove("/", "loop"), f.Rename("/", "a/b", "z"), f.Chmod("/", "a/run", 0))
	if !tree.Same(m, cityAll()) {
		t.Errorf("changed: %s", show(m))
	}
}

// spoil writes over these Kids, and over what there is room for behind them.
func spoil(kids []api.Node) {
	for i := range kids {
		spoil(kids[i].Kids)
		kids[i] = tool("spoilt", "x")
	}
	_ = append(kids, tool("spoilt", "x"))
}
