package fs_test

import (
	"math"
	"slices"
	"strconv"
	"strings"
	"testing"

	"whisk/api"
	"whisk/fs"
	"whisk/inode"
)

// system answers a file system of this quota.
func system(t *testing.T, inodes, bytes int) *fs.Fs {
	t.Helper()
	f := fs.New(api.Quota{Inodes: inodes, Bytes: bytes})
	if f == nil {
		t.Fatalf("no file system of %d inodes, %d bytes", inodes, bytes)
	}
	return f
}

// is fails the test unless a call answered this error.
func is(t *testing.T, call string, got, want api.Errno) {
	t.Helper()
	if got != want {
		t.Errorf("%.300s: %v, not %v", call, got, want)
	}
}

// must ends the test unless all calls succeeded.
func must(t *testing.T, l ...api.Errno) {
	t.Helper()
	for i, e := range l {
		if e != api.OK {
			t.Fatalf("call %d: %v", i, e)
		}
	}
}

// isReal, isRead, isStat and hasNames fail the test unless this is the answer, and with an error nothing else.
func isReal(t *testing.T, f *fs.Fs, cwd, path, want string, e api.Errno) {
	t.Helper()
	if got, err := f.Real(cwd, path); got != want || err != e {
		t.Errorf("Real(%.60q, %.300q) = %q, %v, not %q, %v", cwd, path, got, err, want, e)
	}
}

func isRead(t *testing.T, f *fs.Fs, cwd, path, want string, e api.Errno) {
	t.Helper()
	if got, err := f.Read(cwd, path); got != want || err != e {
		t.Errorf("Read(%.60q, %.300q) = %.60q, %v, not %.60q, %v", cwd, path, got, err, want, e)
	}
}

func isStat(t *testing.T, f *fs.Fs, cwd, path string, follow bool, want api.Inode, e api.Errno) {
	t.Helper()
	if got, err := f.Stat(cwd, path, follow); got != want || err != e {
		t.Errorf("Stat(%.60q, %.300q, %v) = %+v, %v, not %+v, %v", cwd, path, follow, got, err, want, e)
	}
}

func hasNames(t *testing.T, f *fs.Fs, cwd, path string, e api.Errno, want ...string) {
	t.Helper()
	if got, err := f.List(cwd, path); !slices.Equal(got, want) || err != e {
		t.Errorf("List(%.60q, %.300q) = %q, %v, not %q, %v", cwd, path, got, err, want, e)
	}
}

func isUsed(t *testing.T, f *fs.Fs, inodes, bytes int) {
	t.Helper()
	if got := f.Used(); got != (api.Quota{Inodes: inodes, Bytes: bytes}) {
		t.Errorf("used are %+v, not %d, %d", got, inodes, bytes)
	}
}

// row answers so many bytes x.
func row(size int) string {
	return strings.Repeat("x", size)
}

// stated answers an inode that one entry names.
func stated(kind, mode int, data string) api.Inode {
	return api.Inode{Kind: kind, Mode: mode, Data: data, Links: 1}
}

// shown answers all that a file system has, a line each.
func shown(t *testing.T, f *fs.Fs) string {
	t.Helper()
	var b strings.Builder
	var show func(path string)
	show = func(path string) {
		one, e := f.Stat("/", path, false)
		must(t, e)
		b.WriteString(path + " " + strconv.Itoa(one.Kind) + " " + strconv.FormatInt(int64(one.Mode), 8) + " " + strconv.Itoa(one.Links) + " " + one.Data + "\n")
		if one.Kind != api.KindDir {
			return
		}
		names, e := f.List("/", path)
		must(t, e)
		for _, name := range names {
			show(strings.TrimSuffix(path, "/") + "/" + name)
		}
	}
	show("/")
	used := f.Used()
	return b.String() + strconv.Itoa(used.Inodes) + " " + strconv.Itoa(used.Bytes)
}

// stays fails the test unless the file system is as it was.
func stays(t *testing.T, f *fs.Fs, was string) {
	t.Helper()
	if now := shown(t, f); now != was {
		t.Errorf("it was\n%s\nand is\n%s", was, now)
	}
}

// example is the file system of the chapter's examples.
func example(t *testing.T) *fs.Fs {
	t.Helper()
	f := system(t, 20, 1000)
	must(t,
		f.Mkdir("/", "a"),
		f.Write("/", "a/f", "hi", false),
		f.Symlink("/", "a/f", "l"),
		f.Symlink("/", "m", "m"),
	)
	return f
}

// The examples of the chapter, and of the whole.
func TestExamples(t *testing.T) {
	f := example(t)
	isRead(t, f, "/", "l", "hi", api.OK)
	isRead(t, f, "/a", "../../a/./f", "hi", api.OK)
	isRead(t, f, "/", "m", "", api.ErrLoop)
	isRead(t, f, "/", "a", "", api.ErrDir)
	is(t, "Write l", f.Write("/", "l", "!", true), api.OK)
	isRead(t, f, "/a", "f", "hi!", api.OK)
	isStat(t, f, "/", "l", false, stated(api.KindLink, 0o777, "a/f"), api.OK)
	isReal(t, f, "/a", "../l", "/a/f", api.OK)
	isReal(t, f, "/", "..", "/", api.OK)
	is(t, "Mkdir a/f/x", f.Mkdir("/", "a/f/x"), api.ErrNotDir)
	is(t, "Remove a", f.Remove("/", "a"), api.ErrInUse)
}

// P8.1

func TestQuotas(t *testing.T) {
	for _, c := range []struct {
		inodes, bytes int
		may           bool
	}{
		{1, 0, true},
		{2000, 100000, true},
		{1 << 20, 1 << 30, true},
		{0, 0, false},
		{-1, 10, false},
		{1<<20 + 1, 10, false},
		{10, -1, false},
		{10, 1<<30 + 1, false},
		{math.MaxInt, math.MaxInt, false},
		{math.MinInt, math.MinInt, false},
	} {
		if f := fs.New(api.Quota{Inodes: c.inodes, Bytes: c.bytes}); (f != nil) != c.may {
			t.Errorf("New of %d, %d: %v, not %v", c.inodes, c.bytes, f != nil, c.may)
		}
	}
}

func TestNewHasRootAlone(t *testing.T) {
	f := system(t, 1, 0)
	isUsed(t, f, 1, 0)
	for _, follow := range []bool{false, true} {
		isStat(t, f, "/", "/", follow, stated(api.KindDir, 0o755, ""), api.OK)
	}
	hasNames(t, f, "/", "/", api.OK)
	is(t, "Mkdir", f.Mkdir("/", "a"), api.ErrFull)
	is(t, "Write", f.Write("/", "a", "", false), api.ErrFull)
	is(t, "Symlink", f.Symlink("/", "b", "a"), api.ErrFull)
	is(t, "Lay", f.Lay("a", api.Node{Kind: api.KindFile}), api.ErrFull)
	isUsed(t, f, 1, 0)
}

func TestUsed(t *testing.T) {
	f := system(t, 20, 100)
	must(t, f.Mkdir("/", "d"))
	isUsed(t, f, 2, 0)
	must(t, f.Write("/", "d/f", "1234", false))
	isUsed(t, f, 3, 4)
	must(t, f.Hard("/", "d/f", "g")) // a file is counted once
	isUsed(t, f, 3, 4)
	must(t, f.Symlink("/", "d/f", "l")) // a target has bytes, too
	isUsed(t, f, 4, 7)
	must(t, f.Write("/", "l", "56", true))
	isUsed(t, f, 4, 9)
	must(t, f.Write("/", "g", "", false))
	isUsed(t, f, 4, 3)
	must(t, f.Remove("/", "g"))
	isUsed(t, f, 4, 3)
	must(t, f.Remove("/", "d/f"), f.Remove("/", "l"), f.Remove("/", "d"))
	isUsed(t, f, 1, 0)
}

// A file system that is none: none at all, or one that New did not make.
func TestNoFs(t *testing.T) {
	n := api.Node{Kind: api.KindFile}
	for _, f := range []*fs.Fs{nil, {}, {Table: &inode.Table{}}, fs.New(api.Quota{})} {
		for _, path := range []string{"", "/", "a", "a/b", row(256)} {
			isReal(t, f, "/", path, "", api.ErrNil)
			isRead(t, f, "/", path, "", api.ErrNil)
			isStat(t, f, "/", path, true, api.Inode{}, api.ErrNil)
			isStat(t, f, "/", path, false, api.Inode{}, api.ErrNil)
			hasNames(t, f, "/", path, api.ErrNil)
			is(t, "Write", f.Write("/", path, "x", false), api.ErrNil)
			is(t, "Mkdir", f.Mkdir("/", path), api.ErrNil)
			is(t, "Remove", f.Remove("/", path), api.ErrNil)
			is(t, "Rename", f.Rename("/", path, path), api.ErrNil)
			is(t, "Symlink", f.Symlink("/", "x", path), api.ErrNil)
			is(t, "Symlink", f.Symlink("/", "", path), api.ErrNil)
			is(t, "Hard", f.Hard("/", path, path), api.ErrNil)
			is(t, "Chmod", f.Chmod("/", path, 0), api.ErrNil)
			is(t, "Chmod", f.Chmod("/", path, 512), api.ErrNil)
			is(t, "Lay", f.Lay(path, n), api.ErrNil)
			is(t, "Lay", f.Lay(path, api.Node{}), api.ErrNil)
		}
		isUsed(t, f, 0, 0)
	}
}

// What is answered is new, and two file systems have nothing in common.
func TestAnswersAreNew(t *testing.T) {
	f, other := example(t), example(t)
	l, e := f.List("/", "/")
	must(t, e)
	l[0], l[1] = "x", "y"
	one, e := f.Stat("/", "a/f", true)
	must(t, e)
	one.Data, one.Links = "other", 7
	was := shown(t, f)
	hasNames(t, f, "/", "/", api.OK, "a", "l", "m")
	isStat(t, f, "/", "a/f", true, stated(api.KindFile, 0o644, "hi"), api.OK)
	must(t, other.Write("/", "l", "other", false), other.Remove("/", "m"), other.Chmod("/", "/", 0))
	stays(t, f, was)
}
