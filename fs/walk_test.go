package fs_test

import (
	"strconv"
	"strings"
	"testing"

	"whisk/api"
	"whisk/fs"
)

// P8.2, and how a path is gone

// city is a file system with directories in one another, files, and links of all kinds.
func city(t *testing.T) *fs.Fs {
	t.Helper()
	f := system(t, 100, 10000)
	must(t,
		f.Mkdir("/", "a"),
		f.Mkdir("/", "a/b"),
		f.Mkdir("/", "a/b/c"),
		f.Write("/", "a/f", "hi", false),
		f.Write("/", "a/b/g", "ho", false),
		f.Chmod("/", "a/b/g", 0o700),
		f.Mkdir("/", "..."),
		f.Symlink("/", "a/b", "dir"),
		f.Symlink("/", "/a/f", "file"),
		f.Symlink("/a", "b/g", "near"),
		f.Symlink("/a/b", "../f", "up"),
		f.Symlink("/a/b", "../../dir/../near", "far"),
		f.Symlink("/", "none", "gone"),
		f.Symlink("/", "a/none", "new"),
		f.Symlink("/", "new", "newer"),
		f.Symlink("/", "none/x", "lost"),
		f.Symlink("/", "a/f/x", "under"),
		f.Symlink("/", "loop", "loop"),
		f.Symlink("/", "pong", "ping"),
		f.Symlink("/", "ping", "pong"),
		f.Symlink("/", "/", "root"),
		f.Symlink("/a", ".", "self"),
		f.Symlink("/a/b", "..", "above"),
		f.Symlink("/", row(57), "long"),
	)
	return f
}

func TestReal(t *testing.T) {
	f := city(t)
	for _, c := range []struct{ cwd, path, want string }{
		{"/", "/", "/"},
		{"/", "//", "/"},
		{"/", ".", "/"},
		{"/", "..", "/"},
		{"/", "../..", "/"},
		{"/a", "/..", "/"},
		{"/a", "..", "/"},
		{"/a", "../..", "/"},
		{"/a", ".", "/a"},
		{"/a/b/c", "../..", "/a"},
		{"/a/b/c", "../../../../..", "/"},
		{"/", "a", "/a"},
		{"/", "a/", "/a"},
		{"/", "a/.", "/a"},
		{"/", "a//b", "/a/b"},
		{"/", "./a/./b/./", "/a/b"},
		{"/", "//a//b//", "/a/b"},
		{"//a//", "b", "/a/b"},
		{"/a/./..//a", "b", "/a/b"},
		{"/", "a/f", "/a/f"},
		{"/", "a/f/", "/a/f"}, // an empty name counts for nothing
		{"/", "a/f/.", "/a/f"},
		{"/", "...", "/..."},
		{"/", ".../..", "/"},
		{"/", "dir", "/a/b"},
		{"/", "dir/", "/a/b"},
		{"/", "dir/c", "/a/b/c"},
		{"/", "dir/..", "/a"}, // above where one stands
		{"/", "dir/../f", "/a/f"},
		{"/dir", "..", "/a"},
		{"/dir", ".", "/a/b"},
		{"/dir/c/..", "g", "/a/b/g"},
		{"/", "file", "/a/f"},
		{"/a/b", "file", ""},
		{"/", "a/near", "/a/b/g"}, // from where the link lies
		{"/a/b/c", "../../near", "/a/b/g"},
		{"/", "dir/up", "/a/f"},
		{"/", "dir/far", "/a/b/g"},
		{"/", "root", "/"},
		{"/", "root/root/a/self/b", "/a/b"},
		{"/", "a/self", "/a"},
		{"/a/self/self", "self/b", "/a/b"},
		{"/", "dir/above", "/a"},
		{"/dir/above", ".", "/a"},
		{"/dir/above/..", "a/b/above/self", "/a"},
		{"nowhere", "/a/b", "/a/b"}, // where one is counts for nothing
		{"", "/a/b", "/a/b"},
		{"/loop", "/a/b", "/a/b"},
		{"\x00", "/a/b", "/a/b"},
		{row(256), "/a/b", "/a/b"},
	} {
		e := api.OK
		if c.want == "" {
			e = api.ErrNone
		}
		isReal(t, f, c.cwd, c.path, c.want, e)
	}
}

// What lies nowhere is no path's end, though each but the last name is there.
func TestNothingThere(t *testing.T) {
	f := city(t)
	was := shown(t, f)
	for _, c := range []struct{ cwd, path string }{
		{"/", "x"},
		{"/", "/x"},
		{"/a", "x"},
		{"/", "a/b/x"},
		{"/", "a/b/x/"},
		{"/", "a/b/../x"},
		{"/", "dir/x"},
		{"/dir", "x"},
		{"/", "A"},
		{"/", "\xff"},
		{"/", row(56)},
		{"/", "gone"},
		{"/", "new"},
		{"/", "newer"},
	} {
		isReal(t, f, c.cwd, c.path, "", api.ErrNone)
		isStat(t, f, c.cwd, c.path, true, api.Inode{}, api.ErrNone)
		isRead(t, f, c.cwd, c.path, "", api.ErrNone)
		hasNames(t, f, c.cwd, c.path, api.ErrNone)
		is(t, "Chmod", f.Chmod(c.cwd, c.path, 0), api.ErrNone)
		if one, _ := f.Stat(c.cwd, c.path, false); one.Kind == api.KindLink {
			continue
		}
		isStat(t, f, c.cwd, c.path, false, api.Inode{}, api.ErrNone)
		is(t, "Remove", f.Remove(c.cwd, c.path), api.ErrNone)
		is(t, "Rename", f.Rename(c.cwd, c.path, "/y"), api.ErrNone)
		is(t, "Hard", f.Hard(c.cwd, c.path, "/y"), api.ErrNone)
	}
	stays(t, f, was)
}

func TestStat(t *testing.T) {
	f := city(t)
	dir, file, tool := stated(api.KindDir, 0o755, ""), stated(api.KindFile, 0o644, "hi"), stated(api.KindFile, 0o700, "ho")
	link := func(target string) api.Inode { return stated(api.KindLink, 0o777, target) }
	for _, c := range []struct {
		cwd, path       string
		plain, followed api.Inode
	}{
		{"/", "/", dir, dir},
		{"/", "a", dir, dir},
		{"/a/b", "..", dir, dir},
		{"/", "a/f", file, file},
		{"/a", "b/g", tool, tool},
		{"/", "file", link("/a/f"), file},
		{"/", "file/", link("/a/f"), file}, // an empty name counts for nothing
		{"/", "file/.", link("/a/f"), file},
		{"/", "dir", link("a/b"), dir},
		{"/", "dir/up", link("../f"), file},
		{"/", "dir/far", link("../../dir/../near"), tool},
		{"/", "dir/g", tool, tool},
		{"/", "root", link("/"), dir},
		{"/", "a/self/self", link("."), dir},
		{"/dir", ".", dir, dir},
		{"/dir", "above", link(".."), dir},
	} {
		isStat(t, f, c.cwd, c.path, false, c.plain, api.OK)
		isStat(t, f, c.cwd, c.path, true, c.followed, api.OK)
	}
	for path, want := range map[string]string{"gone": "none", "new": "a/none", "lost": "none/x", "loop": "loop", "long": row(57)} {
		isStat(t, f, "/", path, false, link(want), api.OK)
	}
	must(t, f.Hard("/", "a/f", "h"), f.Hard("/", "h", "dir/h"))
	file.Links = 3
	for _, path := range []string{"a/f", "h", "dir/h", "file"} {
		isStat(t, f, "/", path, true, file, api.OK)
	}
}

func TestRead(t *testing.T) {
	f := city(t)
	for _, path := range []string{"/a/f", "file", "dir/up", "a/./../a/f", "a/f/"} {
		isRead(t, f, "/", path, "hi", api.OK)
	}
	for _, path := range []string{"near", "b/g", "/dir/far", "../dir/g"} {
		isRead(t, f, "/a", path, "ho", api.OK)
	}
	for _, path := range []string{"/", ".", "..", "a", "dir", "root", "a/self", "dir/above", "..."} {
		isRead(t, f, "/", path, "", api.ErrDir)
	}
	all := "\x00\xff/\n" + row(9000)
	must(t, f.Write("/", "all", all, false))
	isRead(t, f, "/", "all", all, api.OK)
}

func TestList(t *testing.T) {
	f := city(t)
	hasNames(t, f, "/", "a", api.OK, "b", "f", "near", "self")
	hasNames(t, f, "/a", "self", api.OK, "b", "f", "near", "self")
	hasNames(t, f, "/", "dir", api.OK, "above", "c", "far", "g", "up")
	hasNames(t, f, "/dir", ".", api.OK, "above", "c", "far", "g", "up")
	hasNames(t, f, "/", "dir/c", api.OK)
	for _, path := range []string{"a/f", "file", "dir/up", "a/near"} {
		hasNames(t, f, "/", path, api.ErrNotDir)
	}
	for _, name := range []string{"b", "B", "a ", "\xff", "\x01", "10", "9", "-", row(56)} {
		must(t, f.Write("/...", name, "", false))
	}
	hasNames(t, f, "/...", ".", api.OK, "\x01", "-", "10", "9", "B", "a ", "b", row(56), "\xff")
}

// call is one that goes a path, and what it is named by.
type call struct {
	name string
	do   func(cwd, path string) api.Errno
}

// calls answers all calls that go a path. They fail the test, if one answers more than an error of going it.
func calls(t *testing.T, f *fs.Fs) []call {
	return append(followers(t, f), []call{
		{"Stat", func(cwd, path string) api.Errno {
			one, e := f.Stat(cwd, path, false)
			if e != api.OK && one != (api.Inode{}) {
				t.Error("Stat answers an inode", e)
			}
			return e
		}},
		{"Mkdir", f.Mkdir},
		{"Remove", f.Remove},
		{"Symlink", func(cwd, path string) api.Errno { return f.Symlink(cwd, "x", path) }},
		{"Rename from", func(cwd, path string) api.Errno { return f.Rename(cwd, path, "/free") }},
		{"Rename to", func(cwd, path string) api.Errno { return f.Rename(cwd, "/nothing", path) }},
		{"Rename of the root to", func(cwd, path string) api.Errno { return f.Rename(cwd, "/", path) }},
		{"Hard from", func(cwd, path string) api.Errno { return f.Hard(cwd, path, "/") }},
		{"Hard to", func(cwd, path string) api.Errno { return f.Hard(cwd, "/nothing", path) }},
		{"Hard of the root to", func(cwd, path string) api.Errno { return f.Hard(cwd, "/", path) }},
	}...)
}

// followers answers those that follow the last name.
func followers(t *testing.T, f *fs.Fs) []call {
	return []call{
		{"Real", func(cwd, path string) api.Errno {
			s, e := f.Real(cwd, path)
			if e != api.OK && s != "" {
				t.Error("Real answers a path", e)
			}
			return e
		}},
		{"Stat, followed", func(cwd, path string) api.Errno {
			one, e := f.Stat(cwd, path, true)
			if e != api.OK && one != (api.Inode{}) {
				t.Error("Stat answers an inode", e)
			}
			return e
		}},
		{"Read", func(cwd, path string) api.Errno {
			s, e := f.Read(cwd, path)
			if e != api.OK && s != "" {
				t.Error("Read answers data", e)
			}
			return e
		}},
		{"List", func(cwd, path string) api.Errno {
			l, e := f.List(cwd, path)
			if e != api.OK && len(l) > 0 {
				t.Error("List answers names", e)
			}
			return e
		}},
		{"Write", func(cwd, path string) api.Errno { return f.Write(cwd, path, "x", false) }},
		{"Write of more", func(cwd, path string) api.Errno { return f.Write(cwd, path, "x", true) }},
		{"Chmod", func(cwd, path string) api.Errno { return f.Chmod(cwd, path, 0) }},
	}
}

// paths that can't be gone, and why.
var badPaths = []struct {
	cwd, path string
	e         api.Errno
}{
	// a path without bytes, ahead of all
	{"/", "", api.ErrNone},
	{"/loop", "", api.ErrNone},
	{"/a/f", "", api.ErrNone},
	{"\x00", "", api.ErrNone},
	{row(256), "", api.ErrNone},
	// from nowhere, ahead of what the path says
	{"", "a", api.ErrNone},
	{"a", "b", api.ErrNone},
	{".", "a", api.ErrNone},
	{"a/\x00", "a", api.ErrNone},
	{row(256), "a", api.ErrNone},
	{"x", row(256), api.ErrNone},
	{"x", "\x00", api.ErrNone},
	{"/x", "a", api.ErrNone},
	{"/x", "..", api.ErrNone},
	{"/x", "\x00", api.ErrNone},
	{"/x", row(256), api.ErrNone},
	{"/x/y", ".", api.ErrNone},
	{"/gone", ".", api.ErrNone},
	{"/newer", "x", api.ErrNone},
	{"/a/f", "x", api.ErrNotDir},
	{"/a/f", ".", api.ErrNotDir},
	{"/a/f", "..", api.ErrNotDir},
	{"/a/f", row(256), api.ErrNotDir},
	{"/a/f", "\x00", api.ErrNotDir},
	{"/file", "x", api.ErrNotDir},
	{"/a/f/x", "x", api.ErrNotDir},
	{"/" + row(255), "x", api.ErrLong},
	{"/" + row(254), "x", api.ErrLong},
	{"/" + row(57), "\x00", api.ErrLong},
	{"/" + strings.Repeat("/", 255), "a", api.ErrLong},
	{"/a/\x00", "a", api.ErrArg},
	{"/\x00", row(256), api.ErrArg},
	{"/loop", "a", api.ErrLoop},
	{"/ping/x", ".", api.ErrLoop},
	{"/loop", row(256), api.ErrLoop},
	// too many bytes, a nought among them
	{"/", row(256), api.ErrLong},
	{"/", strings.Repeat("/", 256), api.ErrLong},
	{"/", "x/" + row(256), api.ErrLong},
	{"/", strings.Repeat("\x00", 256), api.ErrLong},
	{"/", strings.Repeat("\x00", 255), api.ErrArg},
	{"/", "\x00", api.ErrArg},
	{"/", "a\x00", api.ErrArg},
	{"/", "x/y\x00", api.ErrArg},
	{"/", "a/f/x/\x00", api.ErrArg},
	{"/", row(57) + "\x00", api.ErrArg},
	{"/", "loop/\x00", api.ErrArg},
	// name by name
	{"/", row(57), api.ErrLong},
	{"/", row(255), api.ErrLong},
	{"/", "a/" + row(57), api.ErrLong},
	{"/", "dir/" + row(57), api.ErrLong},
	{"/", row(57) + "/x", api.ErrLong},
	{"/", row(57) + "/..", api.ErrLong},
	{"/", row(56) + "/x", api.ErrNone},
	{"/", "x/" + row(57), api.ErrNone},
	{"/", "a/f/" + row(57), api.ErrNotDir},
	{"/", "a/f/" + row(57) + "/x", api.ErrNotDir},
	{"/", "x/y", api.ErrNone},
	{"/", "x/..", api.ErrNone},
	{"/", "x/../a", api.ErrNone},
	{"/", "a/x/../f", api.ErrNone},
	{"/a/b", "x/y", api.ErrNone},
	{"/", "a/f/x", api.ErrNotDir},
	{"/", "a/f/..", api.ErrNotDir},
	{"/", "a/f/../x", api.ErrNotDir},
	{"/", "a/f/./x", api.ErrNotDir},
	{"/", "a/f//x", api.ErrNotDir},
	{"/", "a/f/x/y", api.ErrNotDir},
	// through links
	{"/", "file/x", api.ErrNotDir},
	{"/", "file/..", api.ErrNotDir},
	{"/", "dir/up/x", api.ErrNotDir},
	{"/", "gone/x", api.ErrNone},
	{"/", "gone/..", api.ErrNone},
	{"/", "newer/x", api.ErrNone},
	{"/", "lost/x", api.ErrNone},
	{"/", "under/x", api.ErrNotDir},
	{"/", "long/x", api.ErrLong},
	{"/", "long/" + row(57), api.ErrLong},
	{"/", "gone/" + row(57), api.ErrNone},
	{"/", "loop/x", api.ErrLoop},
	{"/", "loop/..", api.ErrLoop},
	{"/", "loop/" + row(57), api.ErrLoop},
	{"/", "ping/x", api.ErrLoop},
	{"/", "root/root/pong/x", api.ErrLoop},
}

// links whose last name can't be followed, and why.
var badLinks = []struct {
	path string
	e    api.Errno
}{
	{"lost", api.ErrNone},
	{"under", api.ErrNotDir},
	{"long", api.ErrLong},
	{"loop", api.ErrLoop},
	{"loop/", api.ErrLoop},
	{"loop/.", api.ErrLoop},
	{"ping", api.ErrLoop},
	{"root/pong", api.ErrLoop},
}

func TestPathsThatCannotBeGone(t *testing.T) {
	f := city(t)
	was := shown(t, f)
	for _, c := range badPaths {
		for _, one := range calls(t, f) {
			is(t, one.name+" "+strconv.Quote(c.cwd)+" "+strconv.Quote(c.path), one.do(c.cwd, c.path), c.e)
		}
	}
	for _, c := range badLinks {
		for _, one := range followers(t, f) {
			is(t, one.name+" "+c.path, one.do("/", c.path), c.e)
		}
	}
	stays(t, f, was)
}

// The error of going the first path is said ahead of the second one's.
func TestFirstPathFirst(t *testing.T) {
	f := city(t)
	was := shown(t, f)
	for _, a := range badPaths {
		for _, b := range badPaths {
			if a.cwd != "/" || b.cwd != "/" {
				continue
			}
			is(t, "Rename "+a.path+" "+b.path, f.Rename("/", a.path, b.path), a.e)
			is(t, "Hard "+a.path+" "+b.path, f.Hard("/", a.path, b.path), a.e)
		}
	}
	stays(t, f, was)
}

// The greatest sizes of a path, of cwd, and of a name.
func TestLongPaths(t *testing.T) {
	f := system(t, 30, 1000)
	must(t, f.Write("/", row(56), "hi", false))
	isRead(t, f, "/", row(56), "hi", api.OK)
	isRead(t, f, "/", strings.Repeat("/", 199)+row(56), "hi", api.OK)
	isRead(t, f, "/", strings.Repeat("/", 200)+row(56), "", api.ErrLong)
	isRead(t, f, strings.Repeat("/", 255), row(56), "hi", api.OK)
	isRead(t, f, strings.Repeat("/", 256), row(56), "", api.ErrLong)
	isRead(t, f, "/", strings.Repeat("./", 127)+".", "", api.ErrDir)
	isRead(t, f, "/", strings.Repeat("../", 85), "", api.ErrDir)
	must(t, f.Symlink("/", strings.Repeat("/", 199)+row(56), "l"))
	isRead(t, f, "/", "l", "hi", api.OK)
	long := strings.Repeat("/", 253) + "x/" // that is x, for every call
	for i := range calls(t, f) {
		x, y := city(t), city(t)
		got, want := calls(t, x)[i], calls(t, y)[i]
		is(t, got.name, got.do("/", long), want.do("/", "x"))
		stays(t, x, shown(t, y))
		is(t, got.name, got.do("/", "/"+long), api.ErrLong)
	}
}

// What Real answers may be longer than a path that can be gone.
func TestLongReal(t *testing.T) {
	f := system(t, 30, 1000)
	four := strings.Repeat("/"+row(56), 4)
	for i := range 4 {
		must(t, f.Mkdir("/", four[:57*(i+1)]))
	}
	must(t, f.Symlink("/", four, "l"), f.Mkdir("/l", row(56)))
	isReal(t, f, "/l", row(56), four+"/"+row(56), api.OK)
	isReal(t, f, "/", four+"/"+row(56), "", api.ErrLong)
}

// hops answers links 1 to so many, each to the one ahead, the first one to this target.
func hops(t *testing.T, f *fs.Fs, links int, target string) {
	t.Helper()
	for i := range links {
		must(t, f.Symlink("/", target, strconv.Itoa(i+1)))
		target = strconv.Itoa(i + 1)
	}
}

func TestEightLinks(t *testing.T) {
	f := system(t, 40, 1000)
	must(t, f.Mkdir("/", "a"), f.Write("/", "a/f", "hi", false))
	hops(t, f, 10, "a")
	must(t, f.Symlink("/", "8/f", "f8"), f.Symlink("/", "7/f", "f7"), f.Symlink("/a", "f", "g"), f.Symlink("/", "x", "x1"))
	for _, c := range []struct {
		cwd, path, real string
		e               api.Errno
	}{
		{"/", "8", "/a", api.OK},
		{"/", "9", "", api.ErrLoop},
		{"/", "8/f", "/a/f", api.OK},
		{"/", "9/f", "", api.ErrLoop},
		{"/", "9/x", "", api.ErrLoop},
		{"/", "7/../1/f", "/a/f", api.OK}, // all of a way are counted
		{"/", "8/../1/f", "", api.ErrLoop},
		{"/", "1/../2/../3/../2/f", "/a/f", api.OK},
		{"/", "1/../2/../3/../3/f", "", api.ErrLoop},
		{"/", "f7", "/a/f", api.OK},
		{"/", "f8", "", api.ErrLoop}, // the last one is counted, too
		{"/", "7/g", "/a/f", api.OK},
		{"/", "8/g", "", api.ErrLoop},
		{"/8", "f", "/a/f", api.OK},
		{"/8", "g", "/a/f", api.OK}, // cwd's way is one of its own
		{"/8", "../8/f", "/a/f", api.OK},
		{"/8", "../9/f", "", api.ErrLoop},
		{"/9", "f", "", api.ErrLoop},
		{"/9", "../a", "", api.ErrLoop},
		{"/9", "/8/f", "/a/f", api.OK},
		{"/", "7/../x1", "", api.ErrNone},
		{"/", "8/../x1", "", api.ErrLoop}, // ahead of what it leads to
	} {
		isReal(t, f, c.cwd, c.path, c.real, c.e)
		one, e := f.Stat(c.cwd, c.path, true)
		if (one != api.Inode{}) != (c.e == api.OK) || e != c.e {
			t.Errorf("Stat(%q, %q) = %+v, %v, not %v", c.cwd, c.path, one, e, c.e)
		}
	}
	isStat(t, f, "/", "9", false, stated(api.KindLink, 0o777, "8"), api.OK) // none is followed
	isStat(t, f, "/", "8/g", false, stated(api.KindLink, 0o777, "f"), api.OK)
	isStat(t, f, "/", "9/g", false, api.Inode{}, api.ErrLoop)
	must(t, f.Rename("/", "8/f", "8/h"), f.Hard("/8", "../8/h", "../8/f")) // of two paths each is a way of its own
	is(t, "Hard", f.Hard("/", "8/f", "9/i"), api.ErrLoop)
	is(t, "Write", f.Write("/", "7/../x1", "new", false), api.OK)
	isRead(t, f, "/", "x", "new", api.OK)
}
