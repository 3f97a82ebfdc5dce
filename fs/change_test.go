package fs_test

import (
	"math"
	"strconv"
	"strings"
	"testing"

	"whisk/api"
	"whisk/fs"
)

// P8.3

func TestWrite(t *testing.T) {
	f := city(t)
	file := func(data string) api.Inode { return stated(api.KindFile, 0o644, data) }
	must(t, f.Write("/a", "n", "12", false)) // a new file
	isStat(t, f, "/", "a/n", false, file("12"), api.OK)
	must(t, f.Write("/a", "n", "34", true))
	isStat(t, f, "/", "a/n", false, file("1234"), api.OK)
	must(t, f.Write("/", "/a/n/", "\x00\xff", false))
	isStat(t, f, "/", "a/n", false, file("\x00\xff"), api.OK)
	must(t, f.Write("/", "a/n", "", true))
	isRead(t, f, "/", "a/n", "\x00\xff", api.OK)
	must(t, f.Write("/", "a/n", "", false))
	isStat(t, f, "/", "a/n", false, file(""), api.OK)
	must(t, f.Write("/", "more", "m", true), f.Write("/", "no bytes", "", true), f.Write("/", row(56), "", false))
	isStat(t, f, "/", "more", false, file("m"), api.OK)
	isStat(t, f, "/", "no bytes", false, file(""), api.OK)
	must(t, f.Write("/", "dir/g", "!", true)) // its mode stays
	isStat(t, f, "/", "a/b/g", false, stated(api.KindFile, 0o700, "ho!"), api.OK)
	must(t, f.Hard("/", "a/f", "h"), f.Write("/", "h", "all", false))
	isRead(t, f, "/", "file", "all", api.OK)
}

func TestWriteThroughLinks(t *testing.T) {
	f := city(t)
	must(t, f.Write("/a/b/c", "../up", "!", true), f.Write("/", "dir/far", "ha", false))
	isRead(t, f, "/", "a/f", "hi!", api.OK)
	isStat(t, f, "/", "a/b/g", false, stated(api.KindFile, 0o700, "ha"), api.OK)
	must(t, f.Write("/", "gone", "1", true), f.Write("/a/b", "../../newer", "2", false)) // where the links would lead
	isStat(t, f, "/", "none", false, stated(api.KindFile, 0o644, "1"), api.OK)
	isStat(t, f, "/", "a/none", false, stated(api.KindFile, 0o644, "2"), api.OK)
	for path, target := range map[string]string{"gone": "none", "new": "a/none", "newer": "new", "dir/up": "../f"} {
		isStat(t, f, "/", path, false, stated(api.KindLink, 0o777, target), api.OK)
	}
	must(t, f.Symlink("/a", "../a/b/there/", "end"), f.Write("/", "a/end", "3", false))
	isRead(t, f, "/", "a/b/there", "3", api.OK)
}

func TestWriteRefused(t *testing.T) {
	f := city(t)
	was := shown(t, f)
	for _, path := range []string{"/", ".", "..", "a", "a/", "dir", "root", "a/b/..", "a/self/self"} {
		for _, more := range []bool{false, true} {
			is(t, "Write "+path, f.Write("/", path, "", more), api.ErrDir)
			is(t, "Write "+path, f.Write("/", path, row(20000), more), api.ErrDir)
		}
	}
	stays(t, f, was)
	f = system(t, 3, 10)
	must(t, f.Write("/", "a", "1234", false), f.Write("/", "b", "56", false))
	was = shown(t, f)
	is(t, "a", f.Write("/", "a", row(9), false), api.ErrFull)
	is(t, "a", f.Write("/", "a", row(5), true), api.ErrFull)
	is(t, "c", f.Write("/", "c", "", false), api.ErrFull)
	stays(t, f, was)
	must(t, f.Write("/", "a", row(4), true))
	isUsed(t, f, 3, 10)
	must(t, f.Write("/", "a", "", true), f.Write("/", "a", row(8), false), f.Remove("/", "b"))
	was = shown(t, f)
	is(t, "c", f.Write("/", "c", "123", false), api.ErrFull)
	stays(t, f, was)
	is(t, "c", f.Write("/", "c", "12", true), api.OK)
}

func TestChmod(t *testing.T) {
	f := city(t)
	for _, mode := range []int{0, 1, 0o111, 0o644, 511} {
		for path, real := range map[string]string{"/": "/", "a": "/a", "a/f": "/a/f", "dir/far": "/a/b/g", "dir": "/a/b", "a/b/c/..": "/a/b"} {
			ahead, e := f.Stat("/", real, false)
			must(t, e, f.Chmod("/", path, mode))
			ahead.Mode = mode
			isStat(t, f, "/", real, false, ahead, api.OK)
		}
	}
	isStat(t, f, "/", "dir", false, stated(api.KindLink, 0o777, "a/b"), api.OK)
	was := shown(t, f)
	for _, mode := range []int{-1, 512, math.MaxInt, math.MinInt} { // that is asked ahead of all else
		is(t, "Chmod", f.Chmod("/", "a", mode), api.ErrArg)
		is(t, "Chmod", f.Chmod("/", "none", mode), api.ErrArg)
		for _, c := range badPaths {
			is(t, "Chmod "+c.path, f.Chmod(c.cwd, c.path, mode), api.ErrArg)
		}
	}
	is(t, "Chmod", f.Chmod("/", "gone", 0), api.ErrNone)
	stays(t, f, was)
}

// P8.4

func TestMkdir(t *testing.T) {
	f := city(t)
	must(t, f.Mkdir("/", "x"), f.Mkdir("/", "x/y/"), f.Mkdir("/x", "./y/z/."), f.Mkdir("/dir", "../x"), f.Mkdir("/", row(56)))
	for _, path := range []string{"x", "x/y", "x/y/z", "a/x", row(56)} {
		isStat(t, f, "/", path, false, stated(api.KindDir, 0o755, ""), api.OK)
	}
	hasNames(t, f, "/", "x/y/z", api.OK)
	hasNames(t, f, "/", "x", api.OK, "y")
}

// There is no second thing where one lies: of links it is the link.
var thingsThere = []string{"/", ".", "..", "../..", "a", "a/", "a/.", "a/..", "a/b/..", "a/f", "file", "dir", "dir/", "gone", "lost", "loop", "long", "root", "dir/c", "a/self/self"}

func TestThere(t *testing.T) {
	f := city(t)
	was := shown(t, f)
	for _, path := range thingsThere {
		is(t, "Mkdir "+path, f.Mkdir("/", path), api.ErrThere)
		is(t, "Symlink "+path, f.Symlink("/", "x", path), api.ErrThere)
		is(t, "Hard "+path, f.Hard("/", "a/f", path), api.ErrThere)
		is(t, "Lay "+path, f.Lay(path, api.Node{Kind: api.KindFile}), api.ErrThere)
	}
	is(t, "Mkdir .", f.Mkdir("/a", "."), api.ErrThere)
	is(t, "Mkdir /a", f.Mkdir("/a", "/a"), api.ErrThere)
	stays(t, f, was)
}

// deep makes so many directories in one another, and answers the path of the last one.
func deep(t *testing.T, f *fs.Fs, levels int) string {
	t.Helper()
	path := ""
	for range levels {
		path += "/d"
		must(t, f.Mkdir("/", path))
	}
	return path
}

func TestDeep(t *testing.T) {
	f := system(t, 15, 100)
	last := deep(t, f, 11) // and the root: 12
	must(t, f.Write(last, "f", "hi", false), f.Symlink(last, "..", "l"), f.Hard(last, "f", "g"), f.Symlink("/", last, "l"))
	isUsed(t, f, 15, 2+2+22) // and full
	was := shown(t, f)
	is(t, "Mkdir", f.Mkdir("/", last+"/d"), api.ErrLong) // said ahead of that
	is(t, "Mkdir", f.Mkdir(last, "d"), api.ErrLong)
	is(t, "Mkdir", f.Mkdir("/", "l/x"), api.ErrLong)
	is(t, "Mkdir", f.Mkdir("/", "l/f"), api.ErrThere)
	is(t, "Mkdir", f.Mkdir("/", "l/../x"), api.ErrFull)
	stays(t, f, was)
	must(t, f.Remove("/", "l/l"), f.Mkdir("/", "l/../x")) // beside the last one
	is(t, "Mkdir", f.Mkdir(last, "../x/y"), api.ErrLong)
}

func TestSymlink(t *testing.T) {
	f := city(t)
	for i, target := range []string{"x", ".", "/", "../..", "\xff", " ", row(255), strings.Repeat("/", 255)} {
		path := strconv.Itoa(i)
		must(t, f.Symlink("/dir", target, path))
		isStat(t, f, "/", "a/b/"+path, false, stated(api.KindLink, 0o777, target), api.OK)
	}
	was := shown(t, f)
	for _, target := range []string{"", "\x00", "x\x00", row(254) + "\x00", row(256), strings.Repeat("\x00", 300)} { // that is asked ahead of all else
		is(t, "Symlink", f.Symlink("/", target, "free"), api.ErrArg)
		is(t, "Symlink", f.Symlink("/", target, "a"), api.ErrArg)
		for _, c := range badPaths {
			is(t, "Symlink "+c.path, f.Symlink(c.cwd, target, c.path), api.ErrArg)
		}
	}
	stays(t, f, was)
	f = system(t, 3, 5)
	is(t, "too many bytes", f.Symlink("/", "123456", "l"), api.ErrFull)
	must(t, f.Symlink("/", "12345", "l"), f.Mkdir("/", "d"))
	is(t, "too many inodes", f.Symlink("/", "1", "m"), api.ErrFull)
	is(t, "there", f.Symlink("/", "1", "l"), api.ErrThere)
	isUsed(t, f, 3, 5)
}

func TestHard(t *testing.T) {
	f := system(t, 5, 100)
	must(t, f.Mkdir("/", "d"), f.Write("/", "d/f", "hi", false), f.Chmod("/", "d/f", 0o600), f.Symlink("/", "d", "l"), f.Symlink("/", "d/f", "m"))
	must(t, f.Hard("/", "d/f", "g"), f.Hard("/l", "f", "h"), f.Hard("/", "l/h", "l/i/"), f.Hard("/d", "../g", row(56))) // which take no room
	for _, path := range []string{"d/f", "g", "d/h", "d/i", "d/" + row(56), "m"} {
		isStat(t, f, "/", path, true, api.Inode{Kind: api.KindFile, Mode: 0o600, Data: "hi", Links: 5}, api.OK)
	}
	was := shown(t, f)
	for _, c := range []struct {
		from, to string
		e        api.Errno
	}{
		{"none", "free", api.ErrNone},
		{"none", "g", api.ErrNone},
		{"none", "g/x", api.ErrNotDir}, // going is first
		{"d", "free", api.ErrDir},
		{"d", "g", api.ErrDir},
		{"d", "d", api.ErrDir},
		{"/", "free", api.ErrDir},
		{".", "g", api.ErrDir},
		{"d/..", "/", api.ErrDir},
		{"l", "free", api.ErrArg}, // not followed
		{"m", "free", api.ErrArg},
		{"m", "g", api.ErrArg},
		{"m", "m", api.ErrArg},
		{"g", "g", api.ErrThere},
		{"g", "d/f", api.ErrThere},
		{"g", "d", api.ErrThere},
		{"g", "m", api.ErrThere},
		{"g", "/", api.ErrThere},
		{"g", "d/..", api.ErrThere},
	} {
		is(t, "Hard "+c.from+" "+c.to, f.Hard("/", c.from, c.to), c.e)
	}
	stays(t, f, was)
	isUsed(t, f, 5, 6)
}

// P8.5

func TestRemove(t *testing.T) {
	f := city(t)
	was := shown(t, f)
	for _, c := range []struct {
		cwd, path string
		e         api.Errno
	}{
		{"/", "none", api.ErrNone},
		{"/", "a/none", api.ErrNone},
		{"/", "/", api.ErrArg},
		{"/", ".", api.ErrArg},
		{"/a", ".", api.ErrArg},
		{"/a", "./", api.ErrArg},
		{"/a", "..", api.ErrArg},
		{"/", "a/..", api.ErrArg},
		{"/", "dir/c/..", api.ErrArg},
		{"/", "a/b/c/../", api.ErrArg},
		{"/", "a/b/c/../.", api.ErrArg},
		{"/", "a", api.ErrInUse},
		{"/a/b", "/a/b", api.ErrInUse},
		{"/", "dir/../b", api.ErrInUse},
	} {
		is(t, "Remove "+c.path, f.Remove(c.cwd, c.path), c.e)
	}
	stays(t, f, was)
	must(t, f.Remove("/", "dir"), f.Remove("/", "loop"), f.Remove("/", "gone"), f.Remove("/", "root/")) // the links themselves
	isStat(t, f, "/", "dir", false, api.Inode{}, api.ErrNone)
	isStat(t, f, "/", "a/b", false, stated(api.KindDir, 0o755, ""), api.OK)
	must(t, f.Hard("/", "a/f", "h"), f.Remove("/a/self", "f")) // one entry alone
	isStat(t, f, "/", "h", false, stated(api.KindFile, 0o644, "hi"), api.OK)
	isRead(t, f, "/", "file", "", api.ErrNone)
	must(t, f.Remove("/a/b/c", "/a/b/c/."), f.Remove("/", "h"))
	isRead(t, f, "/a/b/c", "../g", "", api.ErrNone)
	hasNames(t, f, "/", "a/b", api.OK, "above", "far", "g", "up")
}

func TestRenameRefused(t *testing.T) {
	f := city(t)
	must(t, f.Mkdir("/", "e"), f.Mkdir("/a", "e"), f.Mkdir("/a/b/c", "d"), f.Write("/a", "b/h", "", false))
	was := shown(t, f)
	for _, c := range []struct {
		from, to string
		e        api.Errno
	}{
		{"/", "x", api.ErrArg},
		{"a/..", "x", api.ErrArg},
		{"dir/..", "a", api.ErrArg},
		{"a", "/", api.ErrArg},
		{"a/f", "..", api.ErrArg},
		{"a", "a/b/..", api.ErrArg}, // the same, but without a last name
		{"a/b/..", "a", api.ErrArg},
		{".", ".", api.ErrArg},
		{"none", "/", api.ErrArg},
		{"none", "x", api.ErrNone},
		{"none", "none", api.ErrNone},
		{"none", "a", api.ErrNone},
		{"none", "a/f", api.ErrNone},
		{"a/f", "e", api.ErrDir}, // a directory, also an empty one
		{"a/f", "a", api.ErrDir},
		{"dir", "a/b", api.ErrDir}, // links are no directories
		{"gone", "e", api.ErrDir},
		{"a/b/h", "a/b", api.ErrDir},
		{"e", "a/f", api.ErrNotDir},
		{"a", "a/f", api.ErrNotDir}, // ahead of its lying in it
		{"e", "dir", api.ErrNotDir},
		{"a/b", "gone", api.ErrNotDir},
		{"e", "a", api.ErrInUse},
		{"a", "a/b", api.ErrInUse}, // ahead of its lying in it
		{"a/b", "a", api.ErrInUse},
		{"a/b/c", "a/b", api.ErrInUse},
		{"a", "a/x", api.ErrArg},
		{"a", "a/e", api.ErrArg},
		{"a", "a/b/x", api.ErrArg},
		{"a", "a/b/c/d", api.ErrArg},
		{"a", "dir/c/x", api.ErrArg},
		{"dir/c", "/a/b/c/d/x", api.ErrArg},
		{"e", "e/e", api.ErrArg},
	} {
		is(t, "Rename "+c.from+" "+c.to, f.Rename("/", c.from, c.to), c.e)
	}
	stays(t, f, was)
}

func TestRenameOfTheSame(t *testing.T) {
	f := city(t)
	must(t, f.Hard("/", "a/f", "h"), f.Hard("/", "h", "a/b/h"))
	was := shown(t, f)
	for _, c := range []struct{ from, to string }{
		{"a", "a"},
		{"a/b", "dir/../b/."},
		{"a/f", "/a/f"},
		{"loop", "loop"},
		{"a/f", "h"}, // two entries of one file
		{"h", "dir/h"},
		{"a/self", "a/self/self"},
	} {
		is(t, "Rename "+c.from+" "+c.to, f.Rename("/", c.from, c.to), api.OK)
		is(t, "Rename "+c.to+" "+c.from, f.Rename("/", c.to, c.from), api.OK)
	}
	stays(t, f, was)
}

func TestRename(t *testing.T) {
	f := system(t, 12, 100)
	must(t,
		f.Mkdir("/", "a"), f.Mkdir("/", "a/b"), f.Write("/", "a/b/f", "1", false),
		f.Write("/", "g", "22", false), f.Mkdir("/", "e"), f.Symlink("/", "g", "l"), f.Symlink("/", "a", "m"),
		f.Write("/", "h", "333", false), f.Hard("/", "h", "i"), f.Chmod("/", "a/b", 0o700),
	)
	isUsed(t, f, 9, 8)
	moved := func(cwd, from, to string, inodes, bytes int) {
		t.Helper()
		ahead, e := f.Stat(cwd, from, false)
		must(t, e, f.Rename(cwd, from, to))
		isStat(t, f, cwd, to, false, ahead, api.OK)
		isUsed(t, f, inodes, bytes)
	}
	moved("/", "a/b", "b", 9, 8) // with what it has
	isRead(t, f, "/b", "f", "1", api.OK)
	hasNames(t, f, "/", "a", api.OK)
	moved("/b", "../a", "a", 9, 8)
	isReal(t, f, "/b/a", "..", "/b", api.OK)
	moved("/", "b/a", "e", 8, 8) // in place of an empty directory
	hasNames(t, f, "/", "b", api.OK, "f")
	moved("/", "b/f", "g", 7, 6) // in place of a file
	isRead(t, f, "/", "l", "1", api.OK)
	moved("/", "m", "i", 7, 6) // in place of one of its two entries
	isStat(t, f, "/", "h", false, stated(api.KindFile, 0o644, "333"), api.OK)
	moved("/", "h", "i", 6, 5)   // in place of a link
	moved("/", "l", "e/l", 6, 5) // a link
	moved("/", "e", "b/x", 6, 5) // deeper
	moved("/b/x", "l", "../l", 6, 5)
	moved("/", "g", row(56), 6, 5)
	hasNames(t, f, "/", "/", api.OK, "b", "i", row(56))
	hasNames(t, f, "/", "b", api.OK, "l", "x")
	moved("/b", "/b", "/c", 6, 5) // where one is
	isReal(t, f, "/b", ".", "", api.ErrNone)
	isReal(t, f, "/c/x", ".", "/c/x", api.OK)
}

// A file system that is full has room for an entry to be moved.
func TestRenameInFullFs(t *testing.T) {
	f := system(t, 4, 4)
	must(t, f.Mkdir("/", "d"), f.Write("/", "f", "12", false), f.Write("/", "g", "34", false))
	must(t, f.Rename("/", "f", "d/f"), f.Rename("/", "d/f", "g"))
	isUsed(t, f, 3, 2)
	isRead(t, f, "/", "g", "12", api.OK)
}

func TestRenameDeep(t *testing.T) {
	f := system(t, 40, 100)
	last := deep(t, f, 10) // of 11 levels: one more may lie in it
	must(t, f.Mkdir("/", "one"), f.Write("/", "one/f", "hi", false), f.Mkdir("/", "two"), f.Mkdir("/", "two/a"), f.Mkdir("/", "two/b"), f.Symlink("/two/b", "..", "l"))
	must(t, f.Mkdir(last, "here"), f.Write("/", "file", "", false))
	was := shown(t, f)
	for _, c := range []struct {
		from, to string
		e        api.Errno
	}{
		{"two", last + "/two", api.ErrLong},
		{"two", last + "/here", api.ErrLong}, // also in place of one
		{"one", last + "/here/one", api.ErrLong},
		{"two/a", last + "/here/a", api.ErrLong},
		{"d", "two/d", api.ErrLong},
		{"d", "one/d", api.ErrLong},
		{"d/d", "two/a/d", api.ErrLong},
		{"d", last + "/x", api.ErrArg}, // ahead of that
		{"two", last, api.ErrInUse},
	} {
		is(t, "Rename "+c.from+" "+c.to, f.Rename("/", c.from, c.to), c.e)
	}
	stays(t, f, was)
	must(t, f.Rename("/", "one", last+"/one"), f.Rename("/", "two/a", last+"/here"), f.Rename("/", "file", last+"/one/file")) // files are no directories
	must(t, f.Rename("/", "two/b/l", last+"/here/l"))
	must(t, f.Rename("/", "d/d", "two/d")) // as deep as it may
	is(t, "Rename", f.Rename("/", "two", "d/two"), api.ErrLong)
	must(t, f.Rename("/", "two", "d"))
	isStat(t, f, "/", last+"/here", false, stated(api.KindDir, 0o755, ""), api.OK)
	is(t, "Mkdir", f.Mkdir("/", last+"/here/x"), api.ErrLong)
}
