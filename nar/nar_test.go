package nar_test

import (
	"reflect"
	"strconv"
	"strings"
	"testing"

	"whisk/api"
	"whisk/nar"
)

// head is the text that a tree's bytes begin with, as bytes.
const head = "\x0awhisk-tree"

// file, run, link and dir answer a node with this name.
func file(name, data string) api.Node {
	return api.Node{Name: name, Kind: api.KindFile, Data: data}
}

func run(name, data string) api.Node {
	return api.Node{Name: name, Kind: api.KindFile, Exec: true, Data: data}
}

func link(name, data string) api.Node {
	return api.Node{Name: name, Kind: api.KindLink, Data: data}
}

func dir(name string, kids ...api.Node) api.Node {
	return api.Node{Name: name, Kind: api.KindDir, Kids: kids}
}

// chain answers so many directories in one another, each but the tree itself named d, and in the last one these.
func chain(dirs int, kids ...api.Node) api.Node {
	n := dir("", kids...)
	for range dirs - 1 {
		n.Name = "d"
		n = dir("", n)
	}
	return n
}

// many answers so many empty files, whose names rise and have three bytes.
func many(size int) []api.Node {
	var l []api.Node
	for i := range size {
		l = append(l, file(manyName(i), ""))
	}
	return l
}

func manyName(i int) string {
	return strconv.FormatInt(int64(36*36+i), 36)
}

// row answers so many bytes x.
func row(size int) string {
	return strings.Repeat("x", size)
}

// example is a tree, and its bytes behind the head.
type example struct {
	n     api.Node
	bytes string
}

func laid() []example {
	return []example{
		{file("", "x"), "\x01\x00\x01x"},
		{file("", ""), "\x01\x00\x00"},
		{run("", ""), "\x01\x01\x00"},
		{run("", "#!\n"), "\x01\x01\x03#!\n"},
		{file("", "\x00\x80\xff/"), "\x01\x00\x04\x00\x80\xff/"},
		{file("", row(127)), "\x01\x00\x7f" + row(127)},
		{file("", row(128)), "\x01\x00\x81\x00" + row(128)},
		{file("", row(16384)), "\x01\x00\x81\x80\x00" + row(16384)},
		{file("", head+"\x01\x00\x00"), "\x01\x00\x0e" + head + "\x01\x00\x00"},
		{link("", "c"), "\x03\x01c"},
		{link("", "../a//b/.\xff"), "\x03\x0a../a//b/.\xff"},
		{link("", row(255)), "\x03\x81\x7f" + row(255)},
		{dir(""), "\x02\x00"},
		{api.Node{Kind: api.KindDir, Kids: []api.Node{}}, "\x02\x00"},
		{api.Node{Kind: api.KindFile, Kids: []api.Node{}}, "\x01\x00\x00"},
		{dir("", link("b", "c")), "\x02\x01\x01b\x03\x01c"},
		{dir("", dir("d")), "\x02\x01\x01d\x02\x00"},
		{dir("", file("a", "hi"), dir("d", link("l", "../a")), run("e", "")),
			"\x02\x03\x01a\x01\x00\x02hi\x01d\x02\x01\x01l\x03\x04../a\x01e\x01\x01\x00"},
		{dir("", dir("a", file("z", "1")), file("b", "2")), "\x02\x02\x01a\x02\x01\x01z\x01\x00\x011\x01b\x01\x00\x012"},
		{dir("", file("...", ""), file("A", ""), file("a", ""), file("a ", ""), file("aa", ""), file("\x80", ""), file("\xff\n", "")),
			"\x02\x07\x03...\x01\x00\x00\x01A\x01\x00\x00\x01a\x01\x00\x00\x02a \x01\x00\x00\x02aa\x01\x00\x00\x01\x80\x01\x00\x00\x02\xff\n\x01\x00\x00"},
		{dir("", file(row(56), "")), "\x02\x01\x38" + row(56) + "\x01\x00\x00"},
		{dir("", many(300)...), "\x02\x82\x2c" + bytesOfMany(300)},
		{chain(12), strings.Repeat("\x02\x01\x01d", 11) + "\x02\x00"},
		{chain(11, file("f", "g")), strings.Repeat("\x02\x01\x01d", 10) + "\x02\x01\x01f\x01\x00\x01g"},
		{dir("", many(1999)...), "\x02\x8f\x4f" + bytesOfMany(1999)},
		{file("", row(59984)), "\x01\x00\x83\xd4\x50" + row(59984)}, // 60000 bytes, with the head
	}
}

// bytesOfMany answers the bytes of so many Kids, as many answers them.
func bytesOfMany(size int) string {
	s := ""
	for i := range size {
		s += "\x03" + manyName(i) + "\x01\x00\x00"
	}
	return s
}

// show answers n as a text that is not too long.
func show(n api.Node) string {
	s := strconv.Itoa(n.Kind) + ":" + strconv.Quote(n.Name[:min(len(n.Name), 20)])
	if n.Exec {
		s += "x"
	}
	s += strconv.Quote(n.Data[:min(len(n.Data), 10)])
	for _, kid := range n.Kids[:min(len(n.Kids), 3)] {
		s += "[" + show(kid) + "]"
	}
	return s
}

// plain answers n with lists that are nil in the place of those without elements.
func plain(n api.Node) api.Node {
	var kids []api.Node
	for _, kid := range n.Kids {
		kids = append(kids, plain(kid))
	}
	n.Kids = kids
	return n
}

func alike(a, b api.Node) bool {
	return reflect.DeepEqual(plain(a), plain(b))
}

func isZero(n api.Node) bool {
	return reflect.DeepEqual(n, api.Node{})
}

// isLaid fails the test unless these are the bytes of n; head and all.
func isLaid(t *testing.T, n api.Node, want string) {
	t.Helper()
	if s, e := nar.Encode(n); e != api.OK || s != want {
		t.Errorf("Encode(%s) = %.60x (%d bytes), %v, not %.60x", show(n), s, len(s), e, want)
	}
}

func isNotLaid(t *testing.T, n api.Node, want api.Errno) {
	t.Helper()
	if s, e := nar.Encode(n); e != want || s != "" {
		t.Errorf("Encode(%s) = %.60x, %v, not %v", show(n), s, e, want)
	}
}

// isTaken fails the test unless s, head and all, are the bytes of this tree.
func isTaken(t *testing.T, s string, want api.Node) {
	t.Helper()
	if n, e := nar.Decode(s); e != api.OK || !alike(n, want) {
		t.Errorf("Decode(%.60x) = %s, %v, not %s", s, show(n), e, show(want))
	}
}

func isNotTaken(t *testing.T, s string) {
	t.Helper()
	if n, e := nar.Decode(s); e != api.ErrForm || !isZero(n) {
		t.Errorf("Decode(%.60x, %d bytes) = %s, %v", s, len(s), show(n), e)
	}
}

// P9.1

func TestEncode(t *testing.T) {
	for _, row := range laid() {
		isLaid(t, row.n, head+row.bytes)
	}
}

// What may not be is not laid, and the error is tree.Check's.
func TestEncodeWhatMayNotBe(t *testing.T) {
	for _, n := range []api.Node{
		{},
		{Kind: 4},
		{Kind: -1},
		{Kind: 1 << 40},
		file("x", "y"),
		dir("x"),
		link("x", "y"),
		{Kind: api.KindFile, Kids: []api.Node{file("a", "")}},
		{Kind: api.KindDir, Exec: true},
		{Kind: api.KindDir, Data: "x"},
		{Kind: api.KindLink, Data: "x", Exec: true},
		{Kind: api.KindLink, Data: "x", Kids: []api.Node{file("a", "")}},
		link("", ""),
		link("", row(256)),
		link("", "a\x00"),
		dir("", file("", "")),
		dir("", file(".", "")),
		dir("", file("..", "")),
		dir("", file("a/b", "")),
		dir("", file("a\x00", "")),
		dir("", file(row(57), "")),
		dir("", file("b", ""), file("a", "")),
		dir("", file("a", ""), file("a", "")),
		dir("", file("a", ""), dir("b", api.Node{Name: "c"})),
		dir("", dir("a", file("c", ""), file("b", ""))),
		chain(11, link("l", "")),
	} {
		isNotLaid(t, n, api.ErrArg)
	}
}

func TestEncodeAboveTheLimits(t *testing.T) {
	for _, n := range []api.Node{
		chain(13),
		chain(12, file("f", "")),
		chain(3000),
		dir("", many(2000)...), // 2001 nodes
		file("", row(59985)),
		run("", row(59985)),
		file("", row(100000)),
		file("", row(100001)),
		dir("", file("a", row(30000)), file("b", row(29990))),
	} {
		isNotLaid(t, n, api.ErrLong)
	}
}

// The limit is told of all bytes, those of the head, the names and the numbers among them.
func TestEncodeRoom(t *testing.T) {
	isLaid(t, file("", row(59984)), head+"\x01\x00\x83\xd4\x50"+row(59984))
	isNotLaid(t, file("", row(59985)), api.ErrLong)
	// 11 of the head, 2 of the directory, 2 + 2 of names, 2 + 3 and 2 + 1 of what the files have beside their data
	n := dir("", file("a", row(59873)), file("b", row(102)))
	s, e := nar.Encode(n)
	if e != api.OK || len(s) != 60000 {
		t.Errorf("%d bytes, %v", len(s), e)
	}
	n.Kids[1].Name = "bb"
	isNotLaid(t, n, api.ErrLong)
	n.Kids[1].Data = row(101)
	isLaid(t, n, head+"\x02\x02\x01a\x01\x00\x83\xd3\x61"+row(59873)+"\x02bb\x01\x00\x65"+row(101))
}

// tree.Check's errors come ahead of too many bytes, and in its order.
func TestEncodeFirstError(t *testing.T) {
	for _, n := range []api.Node{
		file("x", row(59985)),
		file("x", row(100001)),
		dir("", file("b", row(59985)), file("a", "")),
		dir("", append(many(2000), file("", ""))...),
		{Kind: 4, Data: row(60001)},
	} {
		isNotLaid(t, n, api.ErrArg)
	}
	isNotLaid(t, chain(13, link("", "")), api.ErrLong)
	isNotLaid(t, chain(13, file("f", row(60001))), api.ErrLong)
}

// A node that holds itself is no tree; the call ends all the same.
func TestEncodeWithoutEnd(t *testing.T) {
	for kind, want := range map[int]api.Errno{api.KindFile: api.ErrArg, api.KindDir: api.ErrLong, api.KindLink: api.ErrArg, 0: api.ErrArg} {
		n := api.Node{Name: "x", Kind: kind, Kids: make([]api.Node, 3)}
		for i := range n.Kids {
			n.Kids[i] = n
		}
		isNotLaid(t, n, want)
	}
}

func TestEncodeChangesNothing(t *testing.T) {
	same := laid()
	for i, row := range laid() {
		nar.Encode(row.n)
		if !reflect.DeepEqual(row.n, same[i].n) {
			t.Errorf("%s: changed", show(same[i].n))
		}
	}
}

// P9.2

func TestDecode(t *testing.T) {
	for _, row := range laid() {
		isTaken(t, head+row.bytes, row.n)
	}
}

func TestDecodeNoTree(t *testing.T) {
	for _, s := range []string{
		"",
		"\x00",
		"whisk-tree",
		"\x0awhisk-tre",
		"\x0awhisk-trea\x01\x00\x00",
		"\x0aWhisk-tree\x01\x00\x00",
		"\x09whisk-tre\x01\x00\x00",
		"\x0bwhisk-tree\x00\x01\x00\x00",
		"\x80\x0awhisk-tree\x01\x00\x00",
		"\x00\x01\x00\x00",
		"\x01\x00\x00",
		"whisk-tree\x01\x00\x00",
		"\x00" + head + "\x01\x00\x00",
		head + head + "\x01\x00\x00",
		head,
	} {
		isNotTaken(t, s)
	}
}

func TestDecodeNoNode(t *testing.T) {
	for _, s := range []string{
		// kinds
		"\x00", "\x00\x00", "\x00\x00\x00", "\x04\x00", "\x04\x00\x00", "\x05\x01a", "\x7f\x00\x00",
		"\x80\x01\x00\x00", "\x81\x01\x00\x00", // a 0 ahead; 129
		"\x82\x01\x00\x00",                                 // 257
		"\x84\x80\x01\x00\x00",                             // 2^16 + 1
		"\x90\x80\x80\x80\x01\x00\x00",                     // 2^32 + 1
		"\x90\x80\x80\x80\x02\x00",                         // 2^32 + 2
		"\x90\x80\x80\x80\x03\x01c",                        // 2^32 + 3
		"\xff\xff\xff\xff\x7f\x00\x00",                     // 2^35 - 1
		"\x81" + eights(8) + "\x01\x00\x00",                // 2^63 + 1
		"\x82" + eights(8) + "\x01\x00\x00",                // 2^64 + 1
		"\x81\xff\xff\xff\xff\xff\xff\xff\xff\x7f\x00\x00", // 2^64 - 1
		// files
		"\x01", "\x01\x00", "\x01\x02\x00", "\x01\x02", "\x01\x01", "\x01\x7f\x00", "\x01\xff",
		"\x01\x80\x00\x00", "\x01\x80\x01\x00",
		"\x01\x82\x00\x00",             // 256
		"\x01\x82\x01\x00",             // 257
		"\x01\x90\x80\x80\x80\x00\x00", // 2^32
		"\x01\x90\x80\x80\x80\x01\x00", // 2^32 + 1
		"\x01\x82" + eights(8) + "\x01\x00",
		"\x01\x00\x01", "\x01\x00\x02x", "\x01\x00\x00x", "\x01\x00\x01xy", "\x01\x00\x80\x01x", "\x01\x00\x80\x00",
		"\x01\x00\x81\x00" + row(127),
		"\x01\x00\x90\x80\x80\x80\x01x",
		"\x01\x00\x82" + eights(8) + "\x01x",
		"\x01\x00\x81\xff\xff\xff\xff\xff\xff\xff\xff\x7fx",
		// links
		"\x03", "\x03\x00", "\x03\x01", "\x03\x02c", "\x03\x01cd", "\x03\x80\x01c", "\x03\x01\x00", "\x03\x03a\x00b",
		"\x03\x00\x01c", "\x03\x01\x01c",
		"\x03\x82\x00" + row(256),
		// directories
		"\x02", "\x02\x01", "\x02\x80\x00", "\x02\x00\x00", "\x02\x80",
		"\x02\x01\x01b", "\x02\x01\x01b\x03", "\x02\x01\x01b\x03\x01",
		"\x02\x00\x01b\x03\x01c",
		"\x02\x02\x01b\x03\x01c",
		"\x02\x01\x01b\x03\x01c\x01d\x03\x01c",
		"\x02\x80\x01\x01b\x03\x01c",
		"\x02\x82\x01\x01b\x03\x01c",             // 257
		"\x02\x90\x80\x80\x80\x00",               // 2^32
		"\x02\x90\x80\x80\x80\x01\x01b\x03\x01c", // 2^32 + 1
		"\x02\x81" + eights(8) + "\x00",          // 2^63
		"\x02\x82" + eights(8) + "\x00",          // 2^64
		"\x02\x82" + eights(8) + "\x01\x01b\x03\x01c",
		"\x02\x81\xff\xff\xff\xff\xff\xff\xff\xff\x7f",
		"\x02\x81\xff\xff\xff\xff\xff\xff\xff\xff\x7f\x01b\x03\x01c",
		"\x02\x01\x01b\x04\x00",
		"\x02\x01\x01b\x00",
		"\x02\x01\x01b\x01\x02\x00",
		"\x02\x01\x01b\x03\x00",
		"\x02\x01\x80\x01b\x03\x01c",
		// names
		"\x02\x01\x00\x03\x01c",
		"\x02\x01\x01.\x01\x00\x00",
		"\x02\x01\x02..\x01\x00\x00",
		"\x02\x01\x03a/b\x01\x00\x00",
		"\x02\x01\x01/\x01\x00\x00",
		"\x02\x01\x02a\x00\x01\x00\x00",
		"\x02\x01\x39" + row(57) + "\x01\x00\x00",
		// their order
		"\x02\x02\x01b\x01\x00\x00\x01a\x01\x00\x00",
		"\x02\x02\x01a\x01\x00\x00\x01a\x01\x00\x00",
		"\x02\x02\x02aa\x01\x00\x00\x01a\x01\x00\x00",
		"\x02\x02\x01\x80\x01\x00\x00\x01a\x01\x00\x00",
		"\x02\x03\x01a\x01\x00\x00\x01c\x01\x00\x00\x01b\x01\x00\x00",
		"\x02\x01\x01d\x02\x02\x01b\x01\x00\x00\x01a\x01\x00\x00",
	} {
		isNotTaken(t, head+s)
	}
}

// eights answers so many digits 0 that have another one behind them.
func eights(size int) string {
	return strings.Repeat("\x80", size)
}

// What Encode would not lay is not taken, though its bytes could be read.
func TestDecodeAboveTheLimits(t *testing.T) {
	down := "\x02\x01\x01d"
	isTaken(t, head+strings.Repeat(down, 11)+"\x02\x00", chain(12))
	isNotTaken(t, head+strings.Repeat(down, 12)+"\x02\x00")
	isNotTaken(t, head+strings.Repeat(down, 12)+"\x01\x00\x00")
	isNotTaken(t, head+strings.Repeat(down, 12)+"\x03\x01c")
	isNotTaken(t, head+strings.Repeat(down, 14995)+"\x02\x00")
	isTaken(t, head+"\x02\x8f\x4f"+bytesOfMany(1999), dir("", many(1999)...))
	isNotTaken(t, head+"\x02\x8f\x50"+bytesOfMany(2000))
	// Depth is told of each way down alone: what lies beside it does not count.
	beside := dir("", chain(11), chain(11), chain(11))
	beside.Kids[0].Name, beside.Kids[1].Name, beside.Kids[2].Name = "a", "b", "c"
	way := strings.Repeat(down, 10) + "\x02\x00"
	isTaken(t, head+"\x02\x03\x01a"+way+"\x01b"+way+"\x01c"+way, beside)
}

func TestDecodeRoom(t *testing.T) {
	isTaken(t, head+"\x01\x01\x83\xd4\x50"+row(59984), run("", row(59984)))
	isNotTaken(t, head+"\x01\x01\x83\xd4\x51"+row(59985))
	isNotTaken(t, head+"\x01\x01\x83\xd4\x50"+row(59985))
	isNotTaken(t, head+"\x01\x01\x83\xd4\x4f"+row(59984))
	isNotTaken(t, head+"\x01\x00\x86\x8d\x20"+row(100000))
	isNotTaken(t, row(60001))
	isNotTaken(t, row(1<<20))
}

// A part of a tree's bytes is no tree's, nor are they with more behind them.
func TestDecodePartsAndMore(t *testing.T) {
	for _, row := range laid() {
		s := head + row.bytes
		for i := 0; i < len(s); i += 1 + len(s)/1000 {
			isNotTaken(t, s[:i])
		}
		isNotTaken(t, s[:len(s)-1])
		for _, more := range []string{"\x00", "\x01\x00\x00", "x", "\xff", s} {
			isNotTaken(t, s+more)
		}
		isNotTaken(t, s[1:])
		isNotTaken(t, "\x00"+s)
	}
}

// What was answered is new: who changes it changes no other answer.
func TestDecodeIsNew(t *testing.T) {
	for _, row := range laid() {
		n, _ := nar.Decode(head + row.bytes)
		m, _ := nar.Decode(head + row.bytes)
		change(n)
		if !alike(m, row.n) {
			t.Errorf("%s: changed", show(row.n))
		}
		isTaken(t, head+row.bytes, row.n)
	}
}

// change writes over all that n has.
func change(n api.Node) {
	for i := range n.Kids {
		change(n.Kids[i])
		n.Kids[i] = file("changed", "")
		_ = append(n.Kids[:i], file("appended", ""))
	}
}
