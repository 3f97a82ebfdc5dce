package inode_test

import (
	"math"
	"slices"
	"strconv"
	"strings"
	"testing"

	"whisk/api"
	"whisk/inode"
)

// table answers a table of this quota.
func table(t *testing.T, inodes, bytes int) *inode.Table {
	t.Helper()
	x := inode.New(api.Quota{Inodes: inodes, Bytes: bytes})
	if x == nil {
		t.Fatalf("no table of %d inodes, %d bytes", inodes, bytes)
	}
	return x
}

// made makes an inode that must be made, under this number.
func made(t *testing.T, x *inode.Table, dir int, name string, kind int, data string, want int) {
	t.Helper()
	if ino, e := x.Make(dir, name, kind, 0o640, data); ino != want || e != api.OK {
		t.Fatalf("Make(%d, %q, %d, .., %q) = %d, %v, not %d", dir, name, kind, data, ino, e, want)
	}
}

// isMade fails the test unless a Make answers this error, and no number.
func isMade(t *testing.T, x *inode.Table, dir int, name string, kind, mode int, data string, want api.Errno) {
	t.Helper()
	if ino, e := x.Make(dir, name, kind, mode, data); e != want || (e != api.OK) != (ino == 0) {
		t.Errorf("Make(%d, %.60q, %d, %d, %.10q) = %d, %v, not %v", dir, name, kind, mode, data, ino, e, want)
	}
}

// is fails the test unless a call answered this error.
func is(t *testing.T, call string, got, want api.Errno) {
	t.Helper()
	if got != want {
		t.Errorf("%s: %v, not %v", call, got, want)
	}
}

// isNode fails the test unless the inode is this one.
func isNode(t *testing.T, x *inode.Table, ino int, want api.Inode) {
	t.Helper()
	if got, ok := x.Node(ino); !ok || got != want {
		t.Errorf("Node(%d) = %+v, %v, not %+v", ino, got, ok, want)
	}
}

func isGone(t *testing.T, x *inode.Table, ino int) {
	t.Helper()
	if got, ok := x.Node(ino); ok || got != (api.Inode{}) {
		t.Errorf("Node(%d) = %+v, %v", ino, got, ok)
	}
}

// isFound fails the test unless the entry names this inode; 0: there is no such entry.
func isFound(t *testing.T, x *inode.Table, dir int, name string, want int) {
	t.Helper()
	if got, ok := x.Find(dir, name); got != want || ok != (want > 0) {
		t.Errorf("Find(%d, %.60q) = %d, %v, not %d", dir, name, got, ok, want)
	}
}

func hasNames(t *testing.T, x *inode.Table, dir int, want ...string) {
	t.Helper()
	if got := x.Names(dir); !slices.Equal(got, want) {
		t.Errorf("Names(%d) = %q, not %q", dir, got, want)
	}
}

func isUp(t *testing.T, x *inode.Table, dir, want int) {
	t.Helper()
	if got := x.Up(dir); got != want {
		t.Errorf("Up(%d) = %d, not %d", dir, got, want)
	}
}

func isUsed(t *testing.T, x *inode.Table, inodes, bytes int) {
	t.Helper()
	if got := x.Used(); got != (api.Quota{Inodes: inodes, Bytes: bytes}) {
		t.Errorf("used are %+v, not %d, %d", got, inodes, bytes)
	}
}

// row answers so many bytes x.
func row(size int) string {
	return strings.Repeat("x", size)
}

// names that may be, and those that may not, with their errors.
var goodNames = []string{"a", " ", "-", "...", ".a", "a.", "\\", "\n", "\x01", "\xff\xfe", "ä", row(56)}

var badNames = []struct {
	name string
	e    api.Errno
}{
	{"", api.ErrArg},
	{".", api.ErrArg},
	{"..", api.ErrArg},
	{"/", api.ErrArg},
	{"a/", api.ErrArg},
	{"/a", api.ErrArg},
	{"a/b", api.ErrArg},
	{"\x00", api.ErrArg},
	{"a\x00", api.ErrArg},
	{"\xff\x00", api.ErrArg},
	{row(55) + "/", api.ErrArg},
	{row(55) + "\x00", api.ErrArg},
	{row(57), api.ErrLong},
	{row(56) + "/", api.ErrLong},
	{strings.Repeat("\x00", 57), api.ErrLong},
}

// The examples of the chapter.
func TestExamples(t *testing.T) {
	x := table(t, 4, 10)
	for i, c := range []struct {
		dir        int
		name       string
		kind, mode int
		data       string
	}{{1, "d", api.KindDir, 493, ""}, {2, "f", api.KindFile, 420, "hi"}} {
		if ino, e := x.Make(c.dir, c.name, c.kind, c.mode, c.data); ino != i+2 || e != api.OK {
			t.Errorf("%q: %d, %v", c.name, ino, e)
		}
	}
	is(t, "g", x.Link(1, "g", 3), api.OK)
	isNode(t, x, 3, api.Inode{Kind: api.KindFile, Mode: 420, Data: "hi", Links: 2})
	isMade(t, x, 1, "l", api.KindLink, 511, "123456789", api.ErrFull)
	is(t, "Unlink d", x.Unlink(1, "d"), api.ErrInUse)
	is(t, "f to d", x.Move(2, "f", 1, "d"), api.ErrThere)
	is(t, "d into d", x.Move(1, "d", 2, "x"), api.ErrArg)
	is(t, "Unlink f", x.Unlink(2, "f"), api.OK)
	is(t, "Unlink g", x.Unlink(1, "g"), api.OK)
	isUsed(t, x, 2, 0)
	isGone(t, x, 3)
}

// P7.1

func TestQuotas(t *testing.T) {
	for _, c := range []struct {
		inodes, bytes int
		may           bool
	}{
		{1, 0, true},
		{1, 1, true},
		{4, 10, true},
		{1 << 20, 0, true},
		{1, 1 << 30, true},
		{1 << 20, 1 << 30, true},
		{0, 0, false},
		{-1, 10, false},
		{1<<20 + 1, 10, false},
		{10, -1, false},
		{10, 1<<30 + 1, false},
		{0, -1, false},
		{math.MaxInt, math.MaxInt, false},
		{math.MinInt, 0, false},
		{1, math.MinInt, false},
	} {
		q := api.Quota{Inodes: c.inodes, Bytes: c.bytes}
		x := inode.New(q)
		if (x != nil) != c.may {
			t.Errorf("New(%+v): %v, not %v", q, x != nil, c.may)
		}
		if x != nil && (x.Quota() != q || x.Root() != 1) {
			t.Errorf("New(%+v) has the quota %+v, the root %d", q, x.Quota(), x.Root())
		}
	}
}

func TestNewHasRootAlone(t *testing.T) {
	x := table(t, 3, 5)
	isUsed(t, x, 1, 0)
	isNode(t, x, 1, api.Inode{Kind: api.KindDir, Mode: 0o755, Links: 1})
	hasNames(t, x, 1)
	isUp(t, x, 1, 1)
	for _, ino := range []int{-1, 0, 2, 3, math.MaxInt, math.MinInt} {
		isGone(t, x, ino)
		isUp(t, x, ino, 0)
	}
	for _, name := range []string{"", ".", "..", "/", "a"} {
		isFound(t, x, 1, name, 0)
	}
}

// P7.2

// looked is a table with d (2), in it the file f (3) and the directory e (4), and a link l (5) to d.
func looked(t *testing.T) *inode.Table {
	t.Helper()
	x := table(t, 20, 100)
	made(t, x, 1, "d", api.KindDir, "", 2)
	made(t, x, 2, "f", api.KindFile, "\x00two", 3)
	made(t, x, 2, "e", api.KindDir, "", 4)
	made(t, x, 1, "l", api.KindLink, "d", 5)
	return x
}

func TestLook(t *testing.T) {
	x := looked(t)
	isFound(t, x, 1, "d", 2)
	isFound(t, x, 1, "l", 5)
	isFound(t, x, 2, "f", 3)
	isFound(t, x, 2, "e", 4)
	for _, c := range []struct {
		dir  int
		name string
	}{{1, "f"}, {1, "e"}, {1, "D"}, {1, "d\x00"}, {2, "d"}, {2, "."}, {2, ".."}, {4, "e"}, {4, ""}, {3, "f"}, {5, "f"}, {5, "d"}, {0, "d"}, {6, "d"}, {-1, "d"}} {
		isFound(t, x, c.dir, c.name, 0)
	}
	isNode(t, x, 2, api.Inode{Kind: api.KindDir, Mode: 0o640, Links: 1})
	isNode(t, x, 3, api.Inode{Kind: api.KindFile, Mode: 0o640, Data: "\x00two", Links: 1})
	isNode(t, x, 4, api.Inode{Kind: api.KindDir, Mode: 0o640, Links: 1})
	isNode(t, x, 5, api.Inode{Kind: api.KindLink, Mode: 0o640, Data: "d", Links: 1})
	hasNames(t, x, 1, "d", "l")
	hasNames(t, x, 2, "e", "f")
	for _, dir := range []int{3, 4, 5, 6, 0, -1} { // a file, an empty directory, a link, none
		hasNames(t, x, dir)
	}
	for dir, up := range []int{0, 1, 1, 0, 2, 0, 0} {
		isUp(t, x, dir, up)
	}
}

func TestNamesRise(t *testing.T) {
	x := table(t, 100, 100)
	l := append([]string{"b", "B", "aa", "a ", "a0", "\x80", "\x7f", "Z", "0", "10", "9"}, goodNames...)
	for i, name := range l {
		made(t, x, 1, name, 1+i%2, "", i+2)
	}
	want := slices.Clone(l)
	slices.SortFunc(want, func(a, b string) int { return slices.Compare([]byte(a), []byte(b)) })
	hasNames(t, x, 1, want...)
}

// P7.3

// isPlaced fails the test unless the three calls that name something answer this error of its place.
func isPlaced(t *testing.T, x *inode.Table, dir int, name string, want api.Errno) {
	t.Helper()
	isMade(t, x, dir, name, 0, -1, row(200), want) // ErrArg, were the place none
	is(t, "Link", x.Link(dir, name, 99), want)     // ErrNone
	is(t, "Move", x.Move(1, "none", dir, name), want)
}

func TestPlaces(t *testing.T) {
	x := looked(t)
	is(t, "Link", x.Link(1, "g", 3), api.OK)
	bad := badNames[len(badNames)-1].name
	for _, dir := range []int{0, 6, -1, math.MaxInt, math.MinInt} {
		for _, name := range []string{"a", "d", "", bad, row(57)} {
			isPlaced(t, x, dir, name, api.ErrNone)
		}
	}
	for _, dir := range []int{3, 5} {
		for _, name := range []string{"a", "d", "", bad, row(57)} {
			isPlaced(t, x, dir, name, api.ErrNotDir)
		}
	}
	for _, c := range badNames {
		for _, dir := range []int{1, 4} {
			isPlaced(t, x, dir, c.name, c.e)
			is(t, "Move", x.Move(1, "l", dir, c.name), c.e)
			is(t, "Link", x.Link(dir, c.name, 3), c.e)
			isMade(t, x, dir, c.name, api.KindDir, 0, "", c.e)
		}
	}
	isUsed(t, x, 5, 5)
	hasNames(t, x, 1, "d", "g", "l")
	hasNames(t, x, 4)
}

func TestGoodNames(t *testing.T) {
	for _, name := range goodNames {
		x := looked(t)
		made(t, x, 1, name, api.KindDir, "", 6)
		is(t, name, x.Link(2, name, 3), api.OK)
		is(t, name, x.Move(1, "l", 4, name), api.OK)
		isFound(t, x, 1, name, 6)
		isFound(t, x, 2, name, 3)
		isFound(t, x, 4, name, 5)
	}
}

// P7.4

func TestMake(t *testing.T) {
	all := strings.Repeat("\x00\xff/ä", 60)
	for _, c := range []struct {
		kind, mode int
		data       string
		want       api.Errno
	}{
		{api.KindFile, 0, "", api.OK},
		{api.KindFile, 511, all, api.OK},
		{api.KindFile, 1, row(900), api.OK},
		{api.KindFile, 1, row(901), api.ErrFull},
		{api.KindDir, 0, "", api.OK},
		{api.KindDir, 511, "", api.OK},
		{api.KindLink, 0, "x", api.OK},
		{api.KindLink, 511, row(255), api.OK},
		{api.KindLink, 511, "/../\xff", api.OK},
		{0, 0, "", api.ErrArg},
		{4, 0, "", api.ErrArg},
		{-1, 0, "", api.ErrArg},
		{math.MaxInt, 0, "", api.ErrArg},
		{math.MinInt, 0, "x", api.ErrArg},
		{api.KindFile, -1, "", api.ErrArg},
		{api.KindFile, 512, "", api.ErrArg},
		{api.KindDir, -1, "", api.ErrArg},
		{api.KindLink, 512, "x", api.ErrArg},
		{api.KindDir, math.MaxInt, "", api.ErrArg},
		{api.KindLink, math.MinInt, "x", api.ErrArg},
		{api.KindDir, 0, "x", api.ErrArg},
		{api.KindDir, 0, "\x00", api.ErrArg},
		{api.KindLink, 0, "", api.ErrArg},
		{api.KindLink, 0, row(256), api.ErrArg},
		{api.KindLink, 0, "\x00", api.ErrArg},
		{api.KindLink, 0, row(254) + "\x00", api.ErrArg},
	} {
		x := table(t, 3, 901)
		made(t, x, 1, "there", api.KindFile, "1", 2)
		isMade(t, x, 1, "new", c.kind, c.mode, c.data, c.want)
		if c.want == api.OK {
			isUsed(t, x, 3, 1+len(c.data))
			isFound(t, x, 1, "new", 3)
			isNode(t, x, 3, api.Inode{Kind: c.kind, Mode: c.mode, Data: c.data, Links: 1})
			continue
		}
		isUsed(t, x, 2, 1)
		isFound(t, x, 1, "new", 0)
		isGone(t, x, 3)
		// What may not be is said ahead of what is there, that ahead of what is full.
		isMade(t, x, 1, "there", c.kind, c.mode, c.data, min(c.want, api.ErrThere))
		made(t, x, 1, "last", api.KindDir, "", 3)
		isMade(t, x, 1, "there", c.kind, c.mode, c.data, min(c.want, api.ErrThere))
		isMade(t, x, 1, "new", c.kind, c.mode, c.data, c.want)
	}
}

func TestMakeInFullTable(t *testing.T) {
	x := table(t, 1, 10)
	isMade(t, x, 1, "a", api.KindDir, 0, "", api.ErrFull)
	x = table(t, 3, 10)
	made(t, x, 1, "a", api.KindFile, row(4), 2)
	isMade(t, x, 1, "b", api.KindFile, 0, row(7), api.ErrFull)
	isMade(t, x, 1, "b", api.KindLink, 0, row(7), api.ErrFull)
	made(t, x, 1, "b", api.KindLink, row(6), 3) // no number was lost
	isUsed(t, x, 3, 10)
	for kind, data := range []string{api.KindFile: "", api.KindDir: "", api.KindLink: "x"} {
		if kind > 0 {
			isMade(t, x, 1, "c", kind, 0, data, api.ErrFull)
			isMade(t, x, 1, "a", kind, 0, data, api.ErrThere)
			isMade(t, x, 2, "c", kind, 0, data, api.ErrNotDir)
		}
	}
	is(t, "Link", x.Link(1, "c", 2), api.OK) // an entry takes no room
	is(t, "Unlink", x.Unlink(1, "b"), api.OK)
	made(t, x, 1, "b", api.KindFile, row(6), 4)
	isUsed(t, x, 3, 10)
}

// A number is given once, whatever goes.
func TestNumbersAreGivenOnce(t *testing.T) {
	x := table(t, 3, 10)
	for ino := 2; ino < 50; ino++ {
		made(t, x, 1, strconv.Itoa(ino), api.KindFile, "123", ino)
		isMade(t, x, 1, strconv.Itoa(ino), api.KindFile, 0, "", api.ErrThere)
		is(t, "Unlink", x.Unlink(1, strconv.Itoa(ino)), api.OK)
		isGone(t, x, ino)
		isUsed(t, x, 1, 0)
	}
}

func TestLink(t *testing.T) {
	x := looked(t)
	for _, c := range []struct {
		dir  int
		name string
		ino  int
		want api.Errno
	}{
		{2, "g", 0, api.ErrNone},
		{2, "g", 6, api.ErrNone},
		{2, "g", -1, api.ErrNone},
		{2, "f", 6, api.ErrNone},
		{2, "g", 1, api.ErrDir},
		{2, "g", 2, api.ErrDir},
		{2, "g", 4, api.ErrDir},
		{2, "f", 4, api.ErrDir},
		{2, "g", 5, api.ErrArg},
		{2, "f", 5, api.ErrArg},
		{2, "f", 3, api.ErrThere},
		{1, "d", 3, api.ErrThere},
		{2, "g", 3, api.OK},
		{2, "g", 3, api.ErrThere},
		{4, "f", 3, api.OK},
	} {
		is(t, "Link "+c.name+" "+strconv.Itoa(c.ino), x.Link(c.dir, c.name, c.ino), c.want)
	}
	isNode(t, x, 3, api.Inode{Kind: api.KindFile, Mode: 0o640, Data: "\x00two", Links: 3})
	hasNames(t, x, 2, "e", "f", "g")
	hasNames(t, x, 4, "f")
	isFound(t, x, 2, "g", 3)
	isFound(t, x, 4, "f", 3)
	isUsed(t, x, 5, 5) // a file is counted once
}

// P7.5

func TestUnlink(t *testing.T) {
	x := looked(t)
	is(t, "Link", x.Link(1, "g", 3), api.OK)
	for _, c := range []struct {
		dir  int
		name string
		want api.Errno
	}{
		{0, "d", api.ErrNone},
		{6, "", api.ErrNone},
		{-1, "d", api.ErrNone},
		{3, "f", api.ErrNotDir},
		{5, row(57), api.ErrNotDir},
		{1, "f", api.ErrNone},
		{1, "", api.ErrNone},
		{1, ".", api.ErrNone},
		{2, "..", api.ErrNone},
		{1, "d/f", api.ErrNone},
		{1, row(57), api.ErrNone},
		{1, "d", api.ErrInUse},
	} {
		is(t, "Unlink "+strconv.Itoa(c.dir)+" "+c.name, x.Unlink(c.dir, c.name), c.want)
	}
	isUsed(t, x, 5, 5)
	is(t, "f", x.Unlink(2, "f"), api.OK) // g is left
	isNode(t, x, 3, api.Inode{Kind: api.KindFile, Mode: 0o640, Data: "\x00two", Links: 1})
	isFound(t, x, 2, "f", 0)
	isFound(t, x, 1, "g", 3)
	isUsed(t, x, 5, 5)
	is(t, "d", x.Unlink(1, "d"), api.ErrInUse) // e is left
	is(t, "e", x.Unlink(2, "e"), api.OK)
	isGone(t, x, 4)
	isUp(t, x, 4, 0)
	hasNames(t, x, 2)
	isUsed(t, x, 4, 5)
	is(t, "d", x.Unlink(1, "d"), api.OK)
	is(t, "d", x.Unlink(1, "d"), api.ErrNone)
	isMade(t, x, 2, "x", api.KindDir, 0, "", api.ErrNone)
	is(t, "g", x.Unlink(1, "g"), api.OK)
	isUsed(t, x, 2, 1)
	is(t, "l", x.Unlink(1, "l"), api.OK) // what a link leads to does not matter
	isUsed(t, x, 1, 0)
	hasNames(t, x, 1)
}

func TestMoveRefused(t *testing.T) {
	x := looked(t)
	made(t, x, 4, "deep", api.KindDir, "", 6)
	is(t, "Link", x.Link(4, "f", 3), api.OK)
	for _, c := range []struct {
		from int
		name string
		to   int
		as   string
		want api.Errno
	}{
		{0, "d", 0, "", api.ErrNone},
		{9, "d", 3, "x", api.ErrNone},
		{3, "d", 0, "x", api.ErrNotDir}, // from is asked ahead of to
		{5, "d", 9, "", api.ErrNotDir},
		{1, "none", 9, "x", api.ErrNone},
		{1, "none", 3, "x", api.ErrNotDir},
		{1, "none", 1, row(57), api.ErrLong},
		{1, "none", 1, "..", api.ErrArg},
		{1, "none", 1, "x", api.ErrNone},
		{1, "none", 1, "none", api.ErrNone},
		{1, "none", 1, "d", api.ErrNone},
		{1, "", 1, "d", api.ErrNone},
		{1, "", 1, "", api.ErrArg},
		{1, "l", 1, "d", api.ErrThere},
		{1, "l", 2, "f", api.ErrThere},
		{1, "d", 2, "e", api.ErrThere}, // ahead of d itself
		{1, "d", 4, "deep", api.ErrThere},
		{2, "f", 4, "f", api.ErrThere}, // the same file
		{1, "d", 2, "x", api.ErrArg},
		{1, "d", 4, "x", api.ErrArg},
		{1, "d", 6, "x", api.ErrArg},
		{2, "e", 4, "x", api.ErrArg},
		{2, "e", 6, "e", api.ErrArg},
		{4, "deep", 6, "x", api.ErrArg},
	} {
		call := strconv.Itoa(c.from) + " " + c.name + " to " + strconv.Itoa(c.to) + " " + c.as
		is(t, call, x.Move(c.from, c.name, c.to, c.as), c.want)
	}
	hasNames(t, x, 1, "d", "l")
	hasNames(t, x, 2, "e", "f")
	hasNames(t, x, 4, "deep", "f")
	hasNames(t, x, 6)
	isUsed(t, x, 6, 5)
}

func TestMove(t *testing.T) {
	x := looked(t)
	made(t, x, 1, "o", api.KindDir, "", 6)
	is(t, "Link", x.Link(1, "g", 3), api.OK)
	for _, c := range []struct {
		from int
		name string
		to   int
		as   string
	}{
		{1, "d", 1, "d"}, // nothing
		{2, "e", 2, "e"},
		{2, "f", 2, "f"},
		{2, "f", 2, "h"}, // another name
		{2, "h", 4, "f"}, // deeper
		{1, "l", 4, "l"}, // a link
		{2, "e", 6, "e"}, // a directory, with what it has
		{1, "d", 4, "d"}, // where e was in d
		{6, "e", 1, "d"}, // under a name that is free by now
		{1, "o", 2, row(56)},
	} {
		ino, _ := x.Find(c.from, c.name)
		is(t, c.name+" to "+c.as, x.Move(c.from, c.name, c.to, c.as), api.OK)
		isFound(t, x, c.to, c.as, ino)
		if c.from != c.to || c.name != c.as {
			isFound(t, x, c.from, c.name, 0)
		}
	}
	isNode(t, x, 3, api.Inode{Kind: api.KindFile, Mode: 0o640, Data: "\x00two", Links: 2})
	isNode(t, x, 4, api.Inode{Kind: api.KindDir, Mode: 0o640, Links: 1})
	isNode(t, x, 5, api.Inode{Kind: api.KindLink, Mode: 0o640, Data: "d", Links: 1})
	hasNames(t, x, 1, "d", "g")
	hasNames(t, x, 4, "d", "f", "l")
	hasNames(t, x, 2, row(56))
	hasNames(t, x, 6)
	isUp(t, x, 4, 1)
	isUp(t, x, 2, 4)
	isUp(t, x, 6, 2)
	isUsed(t, x, 6, 5)
}

// A move takes no room.
func TestMoveInFullTable(t *testing.T) {
	x := table(t, 3, 3)
	made(t, x, 1, "d", api.KindDir, "", 2)
	made(t, x, 1, "f", api.KindFile, "123", 3)
	is(t, "Move", x.Move(1, "f", 2, "f"), api.OK)
	is(t, "Move", x.Move(1, "d", 1, "e"), api.OK)
	isUsed(t, x, 3, 3)
}

// P7.6

func TestWrite(t *testing.T) {
	x := table(t, 5, 10)
	made(t, x, 1, "d", api.KindDir, "", 2)
	made(t, x, 1, "l", api.KindLink, "f", 3)
	made(t, x, 1, "f", api.KindFile, "1234", 4)
	is(t, "g", x.Link(2, "g", 4), api.OK)
	for _, c := range []struct {
		ino  int
		data string
		want api.Errno
		used int
	}{
		{0, "", api.ErrNone, 5},
		{5, row(11), api.ErrNone, 5},
		{-1, "", api.ErrNone, 5},
		{1, "", api.ErrDir, 5},
		{2, row(11), api.ErrDir, 5},
		{3, "f", api.ErrArg, 5},
		{3, row(11), api.ErrArg, 5},
		{4, row(10), api.ErrFull, 5},
		{4, row(11), api.ErrFull, 5},
		{4, "123456789", api.OK, 10},
		{4, "\x00\xff3456789", api.OK, 10},
		{4, row(10), api.ErrFull, 10},
		{4, "12345678", api.OK, 9},
		{4, "", api.OK, 1},
		{4, "", api.OK, 1},
		{4, row(9), api.OK, 10},
	} {
		ahead, _ := x.Node(4)
		is(t, "Write "+strconv.Itoa(c.ino)+" "+c.data, x.Write(c.ino, c.data), c.want)
		if c.want == api.OK {
			ahead.Data = c.data
		}
		isNode(t, x, 4, ahead)
		isUsed(t, x, 4, c.used)
	}
	isNode(t, x, 3, api.Inode{Kind: api.KindLink, Mode: 0o640, Data: "f", Links: 1})
	is(t, "f", x.Unlink(1, "f"), api.OK)
	isUsed(t, x, 4, 10)
	is(t, "g", x.Unlink(2, "g"), api.OK)
	isUsed(t, x, 3, 1)
	is(t, "Write", x.Write(4, ""), api.ErrNone)
}

func TestChmod(t *testing.T) {
	x := looked(t)
	for ino := 1; ino <= 5; ino++ {
		for _, mode := range []int{-1, 512, 1 << 20, math.MaxInt, math.MinInt} {
			is(t, "Chmod", x.Chmod(ino, mode), api.ErrArg)
		}
		want, _ := x.Node(ino)
		isNode(t, x, ino, want)
		for _, mode := range []int{0, 511, 0o644, 1} {
			is(t, "Chmod", x.Chmod(ino, mode), api.OK)
			want.Mode = mode
			isNode(t, x, ino, want)
		}
	}
	for _, ino := range []int{0, -1, 6, math.MaxInt} {
		is(t, "Chmod", x.Chmod(ino, 512), api.ErrArg)
		is(t, "Chmod", x.Chmod(ino, 511), api.ErrNone)
	}
	hasNames(t, x, 2, "e", "f")
	isUsed(t, x, 5, 5)
}

func TestNoTable(t *testing.T) {
	for _, x := range []*inode.Table{nil, {}, inode.New(api.Quota{})} {
		for _, ino := range []int{-1, 0, 1, 2} {
			isMade(t, x, ino, row(57), 0, -1, "", api.ErrNil)
			isMade(t, x, ino, "a", api.KindDir, 0, "", api.ErrNil)
			is(t, "Link", x.Link(ino, "a", ino), api.ErrNil)
			is(t, "Unlink", x.Unlink(ino, "a"), api.ErrNil)
			is(t, "Move", x.Move(ino, "a", ino, "a"), api.ErrNil)
			is(t, "Write", x.Write(ino, "a"), api.ErrNil)
			is(t, "Chmod", x.Chmod(ino, 512), api.ErrNil)
			isFound(t, x, ino, "a", 0)
			isGone(t, x, ino)
			hasNames(t, x, ino)
			isUp(t, x, ino, 0)
		}
		isUsed(t, x, 0, 0)
		if x.Root() != 0 || x.Quota() != (api.Quota{}) {
			t.Errorf("the root %d, the quota %+v", x.Root(), x.Quota())
		}
	}
}

// What is answered is new, and stays as it was.
func TestAnswersAreNew(t *testing.T) {
	x := looked(t)
	l, n := x.Names(1), x.Used()
	l[0], l[1] = "x", "y"
	hasNames(t, x, 1, "d", "l")
	one, _ := x.Node(3)
	one.Data, one.Links, n.Inodes = "other", 7, 9
	isNode(t, x, 3, api.Inode{Kind: api.KindFile, Mode: 0o640, Data: "\x00two", Links: 1})
	isUsed(t, x, 5, 5)
	other := looked(t) // no two tables have anything in common
	is(t, "Unlink", other.Unlink(2, "f"), api.OK)
	isFound(t, x, 2, "f", 3)
}

// The greatest tables, and the longest ways up.
func TestManyInodes(t *testing.T) {
	x := table(t, 1<<20, 1<<30)
	made(t, x, 1, "wide", api.KindDir, "", 2)
	const deep = 1 << 16
	at := 1
	for ino := 3; ino < 3+deep; ino++ {
		made(t, x, at, "d", api.KindDir, "", ino)
		at = ino
	}
	is(t, "into itself", x.Move(1, "d", at, "x"), api.ErrArg)
	is(t, "to the end", x.Move(1, "wide", at, "wide"), api.OK)
	for ino := 3 + deep; ino <= 1<<20; ino++ {
		if got, e := x.Make(2, strconv.Itoa(ino), api.KindFile, 0, ""); got != ino || e != api.OK {
			t.Fatal(got, e)
		}
	}
	isMade(t, x, 1, "more", api.KindFile, 0, "", api.ErrFull)
	isUsed(t, x, 1<<20, 0)
	if l := x.Names(2); len(l) != 1<<20-2-deep || !slices.IsSorted(l) {
		t.Error(len(l))
	}
}
