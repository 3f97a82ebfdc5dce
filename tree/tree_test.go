package tree_test

import (
	"math"
	"reflect"
	"slices"
	"strconv"
	"strings"
	"testing"

	"whisk/api"
	"whisk/tree"
)

// file, link and dir answer a node with this name.
func file(name, data string) api.Node {
	return api.Node{Name: name, Kind: api.KindFile, Data: data}
}

func link(name, data string) api.Node {
	return api.Node{Name: name, Kind: api.KindLink, Data: data}
}

func dir(name string, kids ...api.Node) api.Node {
	return api.Node{Name: name, Kind: api.KindDir, Kids: kids}
}

// with answers n, changed.
func with(n api.Node, change func(n *api.Node)) api.Node {
	change(&n)
	return n
}

// named answers n under this name.
func named(name string, n api.Node) api.Node {
	n.Name = name
	return n
}

// chain answers a tree of so many directories in one another, each but the tree itself named d, and in the last one these.
func chain(dirs int, kids ...api.Node) api.Node {
	n := dir("", kids...)
	for range dirs - 1 {
		n.Name = "d"
		n = dir("", n)
	}
	return n
}

// many answers so many empty files, whose names rise.
func many(size int) []api.Node {
	l := make([]api.Node, size)
	for i := range l {
		l[i].Name, l[i].Kind = strconv.Itoa(1_000_000+i), api.KindFile
	}
	return l
}

// row answers so many bytes x.
func row(size int) string {
	return strings.Repeat("x", size)
}

// example is the t of the chapter.
func example() api.Node {
	return dir("", file("a", "hi"), dir("d", link("l", "../a")))
}

// show answers n as a text that is not too long: of its Kids the last one alone, and not all levels.
func show(n api.Node) string {
	return showLevels(n, 16)
}

func showLevels(n api.Node, levels int) string {
	s := strconv.Itoa(n.Kind) + ":" + strconv.Quote(n.Name[:min(len(n.Name), 60)])
	if n.Exec {
		s += "x"
	}
	s += strconv.Quote(n.Data[:min(len(n.Data), 10)])
	if len(n.Kids) > 0 && levels > 0 {
		s += "[" + strconv.Itoa(len(n.Kids)) + " kids, " + showLevels(n.Kids[len(n.Kids)-1], levels-1) + "]"
	}
	return s
}

// isChecked, isSized and isDeep fail the test unless this is the answer.
func isChecked(t *testing.T, n api.Node, want api.Errno) {
	t.Helper()
	if e := tree.Check(n); e != want {
		t.Errorf("Check(%s) = %v, not %v", show(n), e, want)
	}
}

func isSized(t *testing.T, n api.Node, inodes, bytes int) {
	t.Helper()
	if a, b := tree.Size(n); a != inodes || b != bytes {
		t.Errorf("Size(%s) = %d, %d, not %d, %d", show(n), a, b, inodes, bytes)
	}
}

func isDeep(t *testing.T, n api.Node, want int) {
	t.Helper()
	if got := tree.Deep(n); got != want {
		t.Errorf("Deep(%s) = %d, not %d", show(n), got, want)
	}
}

// isSame fails the test unless this is the answer, in whichever order.
func isSame(t *testing.T, a, b api.Node, want bool) {
	t.Helper()
	if tree.Same(a, b) != want || tree.Same(b, a) != want {
		t.Errorf("Same(%s, %s) = %v, and %v, not %v", show(a), show(b), tree.Same(a, b), tree.Same(b, a), want)
	}
}

// isFound and isMissing fail the test unless the path reaches this node, or none.
func isFound(t *testing.T, n api.Node, path string, want api.Node) {
	t.Helper()
	got, ok := tree.Find(n, path)
	if !ok || !alike(got, want) {
		t.Errorf("Find(%s, %q) = %s, %v, not %s", show(n), path, show(got), ok, show(want))
	}
}

func isMissing(t *testing.T, n api.Node, path string) {
	t.Helper()
	got, ok := tree.Find(n, path)
	if ok || !reflect.DeepEqual(got, api.Node{}) {
		t.Errorf("Find(%s, %.60q) = %s, %v", show(n), path, show(got), ok)
	}
}

// isEach fails the test unless these are the paths.
func isEach(t *testing.T, n api.Node, want ...string) {
	t.Helper()
	if got := tree.Each(n); !slices.Equal(got, want) {
		t.Errorf("Each(%s) = %.300q, not %.300q", show(n), got, want)
	}
}

// alike tells whether two nodes are, however deep.
func alike(a, b api.Node) bool {
	return a.Name == b.Name && a.Kind == b.Kind && a.Exec == b.Exec && a.Data == b.Data && slices.EqualFunc(a.Kids, b.Kids, alike)
}

// P6.1

// goodNames may be a Kid's; they rise.
var goodNames = []string{
	"\x01", "\n", " ", "-", "...", "..a", "..\xff", ".a", "0", "A", "B", "\\", "a", "a ", "a.", "aa", "ab", "b", row(55), row(56),
	"\x7f", "\x80", "\x80\x80", "\u00e4", "\xff", "\xff\x01", strings.Repeat("\xff", 56),
}

// badNames may not.
var badNames = []string{
	"", ".", "..", "/", "a/", "/a", "a/b", "../a", "\x00", "a\x00", "\x00a", row(57), row(58), row(1000),
	row(55) + "\x00", row(55) + "/", row(56) + "\x00",
	strings.Repeat("\u00e4", 29), // 58 bytes, though 29 runes
}

func TestTreesThatMayBe(t *testing.T) {
	for _, n := range []api.Node{
		example(),
		file("", ""),
		file("", "\x00/\xff"),
		{Kind: api.KindFile, Exec: true},
		{Kind: api.KindFile, Exec: true, Data: "#!", Kids: []api.Node{}},
		dir(""),
		{Kind: api.KindDir, Kids: []api.Node{}},
		link("", "a"),
		link("", "/"),
		link("", ".."),
		link("", "\xff\n"),
		link("", row(255)),
		{Kind: api.KindLink, Data: "a", Kids: []api.Node{}},
		dir("", dir("a", dir("a", dir("a"))), dir("b", file("a", "")), file("c", "")),
		dir("", file("x", ""), with(file("y", ""), func(n *api.Node) { n.Exec = true }), link("z", row(255))),
	} {
		isChecked(t, n, api.OK)
	}
}

func TestNames(t *testing.T) {
	all := dir("")
	for i, name := range goodNames {
		isChecked(t, dir("", file(name, "")), api.OK)
		isChecked(t, dir("", dir("d", dir(name))), api.OK)
		all.Kids = append(all.Kids, file(name, ""))
		for _, other := range goodNames[:i+1] {
			isChecked(t, dir("", file(name, ""), link(other, "a")), api.ErrArg) // they fall, or are alike
		}
	}
	isChecked(t, all, api.OK)
	for _, name := range badNames {
		isChecked(t, dir("", file(name, "")), api.ErrArg)
		isChecked(t, dir("", dir(name)), api.ErrArg)
		isChecked(t, dir("", link(name, "a")), api.ErrArg)
		isChecked(t, dir("", dir("d", file("a", ""), dir("e", file(name, "")))), api.ErrArg)
		kids := []api.Node{file(name, ""), file("m", "")}
		isChecked(t, dir("", kids...), api.ErrArg)
		slices.Reverse(kids)
		isChecked(t, dir("", kids...), api.ErrArg)
	}
}

// Each byte but a stroke and a nought may be in a name, and each but a nought in a link's target.
func TestBytes(t *testing.T) {
	for b := range 256 {
		s := "a" + string([]byte{byte(b)}) + "a"
		name, target := api.OK, api.OK
		if b == 0 || b == '/' {
			name = api.ErrArg
		}
		if b == 0 {
			target = api.ErrArg
		}
		isChecked(t, dir("", file(s, "")), name)
		isChecked(t, link("", s), target)
		isChecked(t, link("", s[1:]), target)
		isChecked(t, link("", s[:2]), target)
		isChecked(t, file("", s), api.OK)
	}
}

// A tree has no name, whatever it is.
func TestTreeWithName(t *testing.T) {
	for _, name := range append(slices.Clone(goodNames), badNames[1:]...) {
		isChecked(t, file(name, ""), api.ErrArg)
		isChecked(t, link(name, "a"), api.ErrArg)
		isChecked(t, dir(name), api.ErrArg)
		isChecked(t, dir(name, file("a", "")), api.ErrArg)
	}
}

// noNodes may not be, under whatever name.
func noNodes() []api.Node {
	l := []api.Node{
		{},
		{Kind: api.KindFile, Kids: []api.Node{file("a", "")}},
		{Kind: api.KindFile, Kids: []api.Node{{}}},
		{Kind: api.KindDir, Exec: true},
		{Kind: api.KindDir, Exec: true, Kids: []api.Node{file("a", "")}},
		{Kind: api.KindDir, Data: "a"},
		{Kind: api.KindDir, Data: "\x00", Kids: []api.Node{file("a", "")}},
		{Kind: api.KindLink, Exec: true, Data: "a"},
		{Kind: api.KindLink, Data: "a", Kids: []api.Node{file("a", "")}},
		link("", ""),
		link("", row(256)),
		link("", row(257)),
		link("", row(1000)),
		link("", "\x00"),
		link("", row(254)+"\x00"),
		link("", "\x00"+row(254)),
		link("", strings.Repeat("\u00e4", 128)), // 256 bytes, though 128 runes
		dir("", file("b", ""), file("a", "")),
		dir("", file("a", ""), file("a", "")),
		dir("", file("a", ""), file("b", ""), file("c", ""), file("b", "")),
		dir("", file("ab", ""), file("a", "")),
		dir("", file("a", ""), file("B", "")),
		dir("", file("\x80", ""), file("\x7f", "")),
	}
	for _, kind := range []int{-1, -2, 4, 5, 1 << 8, 1<<8 + 1, 1<<32 + 1, math.MaxInt, math.MinInt} {
		l = append(l, api.Node{Kind: kind}, api.Node{Kind: kind, Data: "a"}, api.Node{Kind: kind, Kids: []api.Node{file("a", "")}})
	}
	return l
}

func TestNodesThatMayNotBe(t *testing.T) {
	for _, n := range noNodes() {
		isChecked(t, n, api.ErrArg)
		n.Name = "m"
		isChecked(t, n, api.ErrArg)
		isChecked(t, dir("", n), api.ErrArg)
		isChecked(t, dir("", file("a", ""), n, file("z", "")), api.ErrArg)
		isChecked(t, dir("", dir("a", file("a", "")), dir("n", dir("a", n), file("b", "")), file("z", "")), api.ErrArg)
		isChecked(t, chain(9, n), api.ErrArg)
	}
}

func TestCheckOfDepth(t *testing.T) {
	isChecked(t, chain(11), api.OK)
	isChecked(t, chain(12), api.OK)
	isChecked(t, chain(11, file("f", "")), api.OK)
	isChecked(t, chain(11, link("l", "a")), api.OK)
	isChecked(t, chain(12, file("f", "")), api.ErrLong)
	isChecked(t, chain(12, link("l", "a")), api.ErrLong)
	for _, dirs := range []int{13, 14, 15, 16, 100, 1000} {
		isChecked(t, chain(dirs), api.ErrLong)
	}
	for dirs, want := range map[int]api.Errno{10: api.OK, 11: api.OK, 12: api.ErrLong, 13: api.ErrLong} {
		m := named("m", chain(dirs))
		isChecked(t, dir("", m, file("z", "")), want)
		isChecked(t, dir("", file("a", ""), m), want)
		isChecked(t, dir("", dir("a", file("a", "")), m, dir("z", file("a", ""))), want)
	}
}

// Depth is asked first: then it is the same whatever else is wrong.
func TestDepthAheadOfAll(t *testing.T) {
	isChecked(t, named("a", chain(13)), api.ErrLong)
	isChecked(t, with(chain(13), func(n *api.Node) { n.Exec = true }), api.ErrLong)
	isChecked(t, with(chain(13), func(n *api.Node) { n.Data = "a" }), api.ErrLong)
	isChecked(t, dir("", dir("b"), named("a", chain(12))), api.ErrLong)
	for _, n := range noNodes() {
		isChecked(t, chain(13, n), api.ErrLong)
		isChecked(t, dir("", n, named("m", chain(12))), api.ErrLong)
	}
	// What is no directory has no depth, so what is wrong is that it has Kids.
	for _, kind := range []int{api.KindFile, api.KindLink, 0, 4} {
		n := with(chain(20), func(n *api.Node) { n.Kind, n.Data = kind, "a" })
		isChecked(t, n, api.ErrArg)
		n.Name = "m"
		isChecked(t, dir("", n), api.ErrArg)
	}
}

func TestCheckOfInodes(t *testing.T) {
	isChecked(t, dir("", many(1998)...), api.OK)
	isChecked(t, dir("", many(1999)...), api.OK)
	isChecked(t, dir("", many(2000)...), api.ErrLong)
	isChecked(t, dir("", many(2001)...), api.ErrLong)
	isChecked(t, dir("", many(30000)...), api.ErrLong)
	isChecked(t, dir("", dir("a", many(998)...), dir("b", many(999)...)), api.OK)
	isChecked(t, dir("", dir("a", many(999)...), dir("b", many(999)...)), api.ErrLong)
	isChecked(t, chain(11, many(1989)...), api.OK)
	isChecked(t, chain(11, many(1990)...), api.ErrLong)
	for _, kind := range []api.Node{dir("zz"), link("zz", "a")} {
		isChecked(t, dir("", append(many(1998), kind)...), api.OK)
		isChecked(t, dir("", append(many(1999), kind)...), api.ErrLong)
	}
}

func TestCheckOfBytes(t *testing.T) {
	isChecked(t, file("", row(99999)), api.OK)
	isChecked(t, file("", row(100000)), api.OK)
	isChecked(t, file("", row(100001)), api.ErrLong)
	isChecked(t, file("", row(1000000)), api.ErrLong)
	isChecked(t, file("", strings.Repeat("\u00e4", 50000)), api.OK)
	isChecked(t, file("", strings.Repeat("\u00e4", 50000)+"a"), api.ErrLong)
	isChecked(t, dir("", file("a", row(50000)), file("b", row(50000))), api.OK)
	isChecked(t, dir("", file("a", row(50001)), file("b", row(50000))), api.ErrLong)
	isChecked(t, dir("", file("a", row(99745)), link("b", row(255))), api.OK)
	isChecked(t, dir("", file("a", row(99746)), link("b", row(255))), api.ErrLong)
	isChecked(t, dir("", dir("a", file("a", row(50000))), dir("b", dir("a", link("a", "a"), file("b", row(49999))))), api.OK)
	isChecked(t, dir("", dir("a", file("a", row(50000))), dir("b", dir("a", link("a", "ab"), file("b", row(49999))))), api.ErrLong)
	kids := many(1999)
	for i := range kids {
		kids[i].Data = row(50)
	}
	isChecked(t, dir("", kids...), api.OK) // names count for nothing
	kids[7].Data = row(101)
	isChecked(t, dir("", kids...), api.ErrLong)
}

// What may not be is told ahead of what is too much.
func TestArgumentsAheadOfSize(t *testing.T) {
	isChecked(t, dir("a", many(2000)...), api.ErrArg)
	isChecked(t, file("a", row(100001)), api.ErrArg)
	isChecked(t, link("", row(100001)), api.ErrArg)
	isChecked(t, api.Node{Kind: api.KindDir, Data: row(100001)}, api.ErrArg)
	isChecked(t, api.Node{Kind: 4, Data: row(100001)}, api.ErrArg)
	for _, n := range noNodes() {
		n.Name = "zz"
		isChecked(t, dir("", append(many(3000), n)...), api.ErrArg)
		isChecked(t, dir("", file("a", row(100001)), n), api.ErrArg)
	}
}

// P6.2

// sized are nodes, and how great they are.
var sized = []struct {
	n                   func() api.Node
	inodes, bytes, deep int
}{
	{example, 4, 6, 3},
	{func() api.Node { return api.Node{} }, 1, 0, 1},
	{func() api.Node { return file("a", "\x00\xff") }, 1, 2, 1},
	{func() api.Node { return link("a", "\u00e4") }, 1, 2, 1},
	{func() api.Node { return dir("abc") }, 1, 0, 1},
	{func() api.Node { return dir("abc", api.Node{}) }, 2, 0, 2},
	{func() api.Node { return dir("", file("", "a"), file("", "bc"), dir("", file("", "def"))) }, 5, 6, 3},
	{func() api.Node { return dir("", dir("", dir("", file("", "a"))), dir("b"), dir("c", dir("d"))) }, 7, 1, 4},
	{func() api.Node {
		return dir("", dir("a"), dir("b", dir("", dir("", file("", "a")))), dir("c", dir("d")))
	}, 8, 1, 5},
	{func() api.Node { return dir("", dir("a"), dir("b", dir("", dir("", file("", "a"))))) }, 6, 1, 5},
	{func() api.Node { return dir("", many(30000)...) }, 30001, 0, 2},
	{func() api.Node { return file("", row(1000000)) }, 1, 1000000, 1},
	// Nodes that may not be count, with all that they have.
	{func() api.Node { return api.Node{Kind: api.KindDir, Data: "abc", Kids: []api.Node{file("", "d")}} }, 2, 4, 2},
	{func() api.Node { return api.Node{Kind: 7, Data: "abc"} }, 1, 3, 1},
	{func() api.Node {
		return api.Node{Kind: api.KindFile, Data: "abc", Kids: []api.Node{file("", "d"), dir("", file("", "e"))}}
	}, 4, 5, 1},
	{func() api.Node {
		return api.Node{Kind: api.KindLink, Data: "abc", Kids: []api.Node{file("", "d"), dir("", file("", "e"))}}
	}, 4, 5, 1},
	{func() api.Node { return api.Node{Kind: -1, Kids: []api.Node{file("", "d"), dir("", file("", "e"))}} }, 4, 2, 1},
	{func() api.Node {
		return dir("", api.Node{Kind: api.KindFile, Kids: []api.Node{dir("", file("", "a"))}})
	}, 4, 1, 2},
	// Of what is no directory a Kid that is too deep counts for nothing, and the others all the same.
	{func() api.Node { return api.Node{Kind: api.KindFile, Data: "a", Kids: []api.Node{chain(12)}} }, 13, 1, 1},
	{func() api.Node { return api.Node{Kind: api.KindFile, Data: "a", Kids: []api.Node{chain(13)}} }, 1, 1, 1},
	{func() api.Node {
		return api.Node{Kind: api.KindFile, Data: "a", Kids: []api.Node{file("", "b"), chain(12, file("", "cdef")), link("", "gh")}}
	}, 3, 4, 1},
	{func() api.Node {
		return dir("", api.Node{Kind: 9, Kids: []api.Node{chain(12, file("", "cdef"), file("", "gh")), chain(11, file("", "i"))}}, file("", "jk"))
	}, 15, 3, 2},
	{func() api.Node {
		return api.Node{Kind: api.KindLink, Kids: []api.Node{{Kind: api.KindFile, Data: "a", Kids: []api.Node{chain(40), file("", "b")}}}}
	}, 3, 2, 1},
	// What is no directory has no depth, so that it is no matter how many are in one another.
	{func() api.Node { return filesIn(40, api.Node{Kind: api.KindFile, Kids: []api.Node{file("", "b")}}) }, 42, 1, 1},
	{func() api.Node { return chain(12, filesIn(40, file("", "b"))) }, 0, 0, 13},
	{func() api.Node { return chain(11, filesIn(40, file("", "b"))) }, 52, 1, 12},
	{func() api.Node { return filesIn(40, chain(11, file("", "b"))) }, 52, 1, 1},
	{func() api.Node { return filesIn(40, chain(12, file("", "b"))) }, 40, 0, 1},
}

// filesIn answers so many files in one another, and in the last one n.
func filesIn(files int, n api.Node) api.Node {
	for range files {
		n = api.Node{Kind: api.KindFile, Kids: []api.Node{n}}
	}
	return n
}

func TestSizeAndDeep(t *testing.T) {
	for _, row := range sized {
		isSized(t, row.n(), row.inodes, row.bytes)
		isDeep(t, row.n(), row.deep)
	}
}

func TestSizeOfWhatIsDeep(t *testing.T) {
	for dirs := 1; dirs < 40; dirs++ {
		n, m := chain(dirs), chain(dirs, file("a", "bc"), dir("d"), link("e", "f"))
		isDeep(t, n, min(14, dirs))
		isDeep(t, m, min(14, dirs+1))
		if dirs <= 12 {
			isSized(t, n, dirs, 0)
		} else {
			isSized(t, n, 0, 0)
		}
		if dirs <= 11 {
			isSized(t, m, dirs+3, 3)
		} else {
			isSized(t, m, 0, 0)
		}
		n.Name = "n"
		isDeep(t, dir("", n, file("z", "a")), min(14, dirs+1))
		isDeep(t, dir("", file("a", "b"), n), min(14, dirs+1))
		isDeep(t, dir("", dir("a", dir("b")), n, dir("z", dir("b"))), max(3, min(14, dirs+1)))
	}
}

func TestSame(t *testing.T) {
	none := func(n *api.Node) { n.Kids = []api.Node{} }
	for _, n := range []api.Node{
		{},
		example(),
		file("a", "b"),
		link("a", "b"),
		dir("a"),
		dir("", many(5000)...),
		{Name: "a/b", Kind: 9, Exec: true, Data: "\x00", Kids: []api.Node{{}, {}}},
		chain(12),
		chain(11, file("f", "")),
		filesIn(100, file("f", "")),
	} {
		isSame(t, n, n, true)
		isSame(t, n, copied(n), true)
	}
	for _, n := range []api.Node{{}, dir("a"), file("a", "b"), {Kind: 9, Exec: true}} {
		isSame(t, n, with(n, none), true)
		isSame(t, dir("", n), dir("", with(n, none)), true)
		isSame(t, dir("", dir("d", file("a", ""), n)), dir("", dir("d", file("a", ""), with(n, none))), true)
	}
}

// copied answers n, in memory of its own.
func copied(n api.Node) api.Node {
	kids := n.Kids
	n.Kids = nil
	for _, kid := range kids {
		n.Kids = append(n.Kids, copied(kid))
	}
	return n
}

// others answers nodes each of which is another one than n by one thing alone.
func others(n api.Node) []api.Node {
	l := []api.Node{
		with(n, func(n *api.Node) { n.Name += "x" }),
		with(n, func(n *api.Node) { n.Kind++ }),
		with(n, func(n *api.Node) { n.Exec = !n.Exec }),
		with(n, func(n *api.Node) { n.Data += "\x00" }),
		with(n, func(n *api.Node) { n.Kids = append(slices.Clone(n.Kids), api.Node{}) }),
		with(n, func(n *api.Node) { n.Kids = append([]api.Node{{Name: "-"}}, n.Kids...) }),
	}
	if len(n.Kids) > 0 {
		l = append(l, with(n, func(n *api.Node) { n.Kids = n.Kids[1:] }), with(n, func(n *api.Node) { n.Kids = n.Kids[:len(n.Kids)-1] }))
	}
	if len(n.Kids) > 1 {
		l = append(l, with(n, func(n *api.Node) {
			n.Kids = slices.Clone(n.Kids)
			slices.Reverse(n.Kids)
		}))
	}
	for i, kid := range n.Kids {
		for _, other := range others(kid) {
			l = append(l, with(n, func(n *api.Node) {
				n.Kids = slices.Clone(n.Kids)
				n.Kids[i] = other
			}))
		}
	}
	return l
}

func TestNotSame(t *testing.T) {
	for _, n := range []api.Node{
		{},
		example(),
		file("a", "b"),
		dir("a", file("b", ""), dir("c", file("d", "e"), link("f", "g")), dir("h", dir("i", dir("j")))),
		{Name: "a/b", Kind: api.KindFile, Exec: true, Data: "\x00", Kids: []api.Node{{Kind: 7}, {Kind: api.KindFile, Kids: []api.Node{{Data: "x"}, {}}}}},
		chain(10, file("f", "")),
	} {
		l := append(others(n), n)
		for i, a := range l {
			for j, b := range l {
				isSame(t, a, copied(b), i == j || alike(a, b))
			}
		}
	}
	isSame(t, file("a", "b"), file("ab", ""), false)
	isSame(t, dir("", dir("a", dir("b"))), dir("", dir("a"), dir("b")), false)
	isSame(t, dir("", dir("a"), dir("b", file("c", ""))), dir("", dir("a", file("c", "")), dir("b")), false)
}

// What is too deep is alike to nothing, wherever it stands: not even to itself.
func TestSameOfWhatIsDeep(t *testing.T) {
	for dirs := 1; dirs < 30; dirs++ {
		n := chain(dirs)
		isSame(t, n, n, dirs <= 12)
		isSame(t, n, copied(n), dirs <= 12)
		isSame(t, chain(dirs, file("f", "")), chain(dirs, file("f", "")), dirs <= 11)
		isSame(t, n, chain(dirs+1), false)
		for _, kind := range []int{api.KindFile, api.KindLink, 0} {
			in := api.Node{Kind: kind, Kids: []api.Node{file("", ""), n}}
			isSame(t, in, in, dirs <= 12)
			isSame(t, dir("", in), dir("", copied(in)), dirs <= 12)
		}
	}
	isSame(t, chain(13), dir(""), false)
	isSame(t, chain(13), api.Node{}, false)
}

// P6.3

func TestFind(t *testing.T) {
	n := example()
	isFound(t, n, "", n)
	isFound(t, n, "a", file("a", "hi"))
	isFound(t, n, "d", dir("d", link("l", "../a")))
	isFound(t, n, "d/l", link("l", "../a"))
	for _, path := range []string{
		"b", "A", "l", "h", "hi", "a ", " a", "aa", "\x00", "a\x00",
		"d/x", "d/a", "d/d", "d/ll", "d/l/l",
		"a/x", "a/a", "d/l/x", "d/l/a", // no directory is reached
		"/", "//", "a/", "/a", "d/", "/d", "d//l", "/d/l", "d/l/", "a//", "x//x", // an empty name
		".", "..", "./a", "d/.", "d/..", "d/../a", "../a", "d/./l",
		strings.Repeat("/", 100000), strings.Repeat("d/", 100000), row(100000),
	} {
		isMissing(t, n, path)
	}
}

// What is asked may be any node, and have any name.
func TestFindOfOne(t *testing.T) {
	for _, n := range append(noNodes(), file("a", "b"), link("a", "b"), dir("a"), file("a/b", ""), chain(30), chain(12)) {
		isFound(t, n, "", n)
		isMissing(t, n, "/")
		isMissing(t, n, "x")
		isMissing(t, n, "d/x")
		if n.Kind != api.KindDir {
			isMissing(t, n, "a")
			isMissing(t, n, "a/b")
		}
	}
	n := dir("x", with(file("a", "b"), func(n *api.Node) { n.Exec = true }), dir("x", dir("x", link("a", "c"))))
	isFound(t, n, "", n)
	isFound(t, n, "a", with(file("a", "b"), func(n *api.Node) { n.Exec = true }))
	isFound(t, n, "x", dir("x", dir("x", link("a", "c"))))
	isFound(t, n, "x/x", dir("x", link("a", "c")))
	isFound(t, n, "x/x/a", link("a", "c"))
	isMissing(t, n, "x/a")
	isMissing(t, n, "x/x/x")
}

// Of Kids that have one name the first one is reached, though another one would lead on.
func TestFindTheFirst(t *testing.T) {
	n := dir("", file("a", "1"), dir("a", file("b", "2")), dir("d", file("e", "3")), dir("d", file("f", "4")), file("d", "5"))
	isFound(t, n, "a", file("a", "1"))
	isMissing(t, n, "a/b")
	isFound(t, n, "d", dir("d", file("e", "3")))
	isFound(t, n, "d/e", file("e", "3"))
	isMissing(t, n, "d/f")
	isFound(t, dir("", file("b", "1"), file("a", "2"), file("a", "3")), "a", file("a", "2")) // they need not rise
	isFound(t, dir("", dir("aa", file("b", "1")), dir("ab", file("b", "2")), dir("a", file("bb", "3"), file("b", "4"))), "a/b", file("b", "4"))
}

// Names that may not be are names as others, but that no path has an empty one, or one with a stroke.
func TestFindOddNames(t *testing.T) {
	n := dir("", file("", "1"), file("a/b", "2"), file("/", "3"), file(".", "4"), dir("..", file("\x00", "5")), file(row(1000), "6"), dir("", file("c", "7")))
	isFound(t, n, "", n)
	isFound(t, n, ".", file(".", "4"))
	isFound(t, n, "../\x00", file("\x00", "5"))
	isFound(t, n, row(1000), file(row(1000), "6"))
	for _, path := range []string{"/", "a/b", "//", "/c", "../", "./.", "../.", "../.."} {
		isMissing(t, n, path)
	}
	n = dir("", dir("", dir("", file("c", "1")), file("d", "2")), dir("a", dir("", file("b", "3"))))
	for _, path := range []string{"/", "//", "//c", "/d", "a/", "a//", "a//b"} {
		isMissing(t, n, path)
	}
	for _, kind := range []int{api.KindFile, api.KindLink, 0, 4, -1} {
		isMissing(t, api.Node{Kind: kind, Kids: []api.Node{file("a", "")}}, "a")
		isMissing(t, dir("", api.Node{Name: "d", Kind: kind, Kids: []api.Node{file("a", "")}}), "d/a")
	}
}

// Find goes as deep as the path does, and answers all that lies there.
func TestFindDeep(t *testing.T) {
	n := chain(100, file("f", "g"))
	isFound(t, n, "", n)
	for deep := 1; deep < 100; deep++ {
		isFound(t, n, strings.Repeat("d/", deep-1)+"d", named("d", chain(100-deep, file("f", "g"))))
	}
	isFound(t, n, strings.Repeat("d/", 99)+"f", file("f", "g"))
	isMissing(t, n, strings.Repeat("d/", 99)+"d")
	isMissing(t, n, strings.Repeat("d/", 98)+"f")
}

// P6.4

func TestEach(t *testing.T) {
	isEach(t, example(), "a", "d", "d/l")
	isEach(t, dir(""))
	isEach(t, dir("n"))
	isEach(t, dir("n", file("a", "")), "a")
	isEach(t, dir("", dir("a", dir("b", dir("c"))), dir("d", file("e", ""), dir("f", link("g", "h")), file("i", "")), file("j", "")),
		"a", "a/b", "a/b/c", "d", "d/e", "d/f", "d/f/g", "d/i", "j")
	// A directory's are told behind it, ahead of the next one, though that has a name below theirs.
	isEach(t, dir("", dir("a", file("b", "")), file("a!", ""), file("a0", "")), "a", "a/b", "a!", "a0")
	// Whatever their names and their order: as they stand.
	isEach(t, dir("", file("b", ""), file("a", ""), file("a", ""), dir(".", file("..", ""))), "b", "a", "a", ".", "./..")
	isEach(t, dir("", dir("", file("", ""), dir("", file("x", ""))), dir("a/b", file("/", "")), file("", "")),
		"", "/", "/", "//x", "a/b", "a/b//", "")
	want := []string{}
	for _, kid := range many(5000) {
		want = append(want, kid.Name)
	}
	isEach(t, dir("", many(5000)...), want...)
}

func TestEachOfNoDirectory(t *testing.T) {
	kids := []api.Node{file("x", ""), dir("y", file("z", "")), chain(20)}
	for _, kind := range []int{api.KindFile, api.KindLink, 0, 4, -1, math.MaxInt} {
		isEach(t, api.Node{Kind: kind})
		isEach(t, api.Node{Kind: kind, Data: "a", Kids: kids})
		n := api.Node{Name: "n", Kind: kind, Kids: kids}
		isEach(t, dir("", n), "n")
		isEach(t, dir("", file("a", ""), n, dir("o", n, file("p", ""))), "a", "n", "o", "o/n", "o/p")
	}
	// What else may not be has its paths.
	isEach(t, api.Node{Kind: api.KindDir, Exec: true, Data: "a", Kids: kids[:2]}, "x", "y", "y/z")
}

func TestEachOfWhatIsDeep(t *testing.T) {
	for dirs := 1; dirs < 30; dirs++ {
		want := []string{}
		for deep := 1; deep < dirs; deep++ {
			want = append(want, strings.Repeat("d/", deep-1)+"d")
		}
		f := append(slices.Clone(want), strings.Repeat("d/", dirs-1)+"f")
		if dirs > 12 {
			want = nil
		}
		if dirs > 11 {
			f = nil
		}
		isEach(t, chain(dirs), want...)
		isEach(t, chain(dirs, file("f", "")), f...)
	}
	isEach(t, dir("", file("a", ""), named("n", chain(12)), file("z", "")))
}
