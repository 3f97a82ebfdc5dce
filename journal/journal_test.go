package journal_test

import (
	"math"
	"slices"
	"strings"
	"testing"

	"whisk/api"
	"whisk/disk"
	"whisk/journal"
)

// row answers so many bytes, each this one.
func row(b string, size int) string {
	return strings.Repeat(b, size)
}

// sector answers s, and noughts behind it.
func sector(s string) string {
	return s + row("\x00", 128-len(s))
}

// headText answers a head's text.
func headText(number uint64, half, size uint32) string {
	var b []byte
	for shift := 56; shift >= 0; shift -= 8 {
		b = append(b, byte(number>>shift))
	}
	for _, n := range []uint32{half, size} {
		b = append(b, byte(n>>24), byte(n>>16), byte(n>>8), byte(n))
	}
	return string(b)
}

// headSector answers the sector that says this.
func headSector(number uint64, half, size uint32) string {
	text := headText(number, half, size)
	return sector(text + row("\x00", 48) + text)
}

// sectorsOf answers the bytes of all sectors.
func sectorsOf(t *testing.T, d *disk.Disk) []string {
	t.Helper()
	var l []string
	for at := range d.Len() {
		s, e := d.Read(at)
		if e != api.OK {
			t.Fatalf("Read(%d): %v", at, e)
		}
		l = append(l, s)
	}
	return l
}

// diskOf answers a disk of these sectors, flushed.
func diskOf(t *testing.T, sectors ...string) *disk.Disk {
	t.Helper()
	d := disk.New(len(sectors))
	for at, s := range sectors {
		if e := d.Write(at, s); e != api.OK {
			t.Fatalf("Write(%d): %v", at, e)
		}
	}
	if e := d.Flush(); e != api.OK {
		t.Fatal(e)
	}
	return d
}

// formatted answers a disk of so many sectors, and a journal on all of it but the first and the last.
func formatted(t *testing.T, sectors int) (*disk.Disk, *journal.Journal) {
	t.Helper()
	d := disk.New(sectors)
	if e := journal.Format(d, 1, sectors-2); e != api.OK {
		t.Fatalf("Format: %v", e)
	}
	return d, opened(t, d, 1, sectors-2)
}

// opened answers the journal that lies there.
func opened(t *testing.T, d *disk.Disk, at, sectors int) *journal.Journal {
	t.Helper()
	j, e := journal.Open(d, at, sectors)
	if j == nil || e != api.OK {
		t.Fatalf("Open(%d, %d): %v, %v", at, sectors, j, e)
	}
	return j
}

// isNotOpened fails the test unless Open answers this error, and no journal.
func isNotOpened(t *testing.T, d *disk.Disk, at, sectors int, want api.Errno) {
	t.Helper()
	if j, e := journal.Open(d, at, sectors); j != nil || e != want {
		t.Errorf("Open(%d, %d): %v, %v; not %v", at, sectors, j, e, want)
	}
}

// isOf fails the test unless the journal has these records, and this room.
func isOf(t *testing.T, j *journal.Journal, room int, want ...string) {
	t.Helper()
	if l := j.Records(); !slices.Equal(l, want) || j.Room() != room {
		t.Errorf("%.80q, room %d; not %.80q, %d", l, j.Room(), want, room)
	}
}

// isCommitted fails the test unless committing l answers this.
func isCommitted(t *testing.T, j *journal.Journal, want api.Errno, l ...string) {
	t.Helper()
	as := slices.Clone(l)
	if e := j.Commit(l); e != want {
		t.Errorf("Commit of %d: %v, not %v", len(l), e, want)
	}
	if !slices.Equal(l, as) {
		t.Errorf("Commit made %.80q of %.80q", l, as)
	}
}

// isRewritten fails the test unless rewriting l answers this.
func isRewritten(t *testing.T, j *journal.Journal, want api.Errno, l ...string) {
	t.Helper()
	as := slices.Clone(l)
	if e := j.Rewrite(l); e != want {
		t.Errorf("Rewrite of %d: %v, not %v", len(l), e, want)
	}
	if !slices.Equal(l, as) {
		t.Errorf("Rewrite made %.80q of %.80q", l, as)
	}
}

// isUntouched fails the test if what the function does makes an operation on the disk.
func isUntouched(t *testing.T, d *disk.Disk, do func()) {
	t.Helper()
	before := d.Ops()
	do()
	if d.Ops() != before {
		t.Errorf("%d operations", d.Ops()-before)
	}
}

// noPlaces are places that a disk of ten sectors has not, or in which no journal goes.
var noPlaces = [][2]int{
	{-1, 4}, {-1, 11}, {-5, 8}, {math.MinInt, 4}, {math.MinInt, math.MinInt}, {math.MinInt, math.MaxInt},
	{0, 3}, {0, 0}, {0, -1}, {3, 3}, {0, math.MinInt}, {9, math.MinInt},
	{0, 11}, {1, 10}, {3, 8}, {6, 5}, {7, 4}, {10, 4}, {11, 4}, {math.MaxInt, 4}, {0, math.MaxInt}, {1, math.MaxInt}, {math.MaxInt, math.MaxInt}, {math.MaxInt - 3, 4},
}

// P5.1

func TestFormat(t *testing.T) {
	full := slices.Repeat([]string{row("q", 128)}, 10)
	for _, c := range [][2]int{{0, 4}, {0, 5}, {0, 10}, {1, 8}, {6, 4}, {5, 5}} {
		d := diskOf(t, full...)
		if e := journal.Format(d, c[0], c[1]); e != api.OK {
			t.Errorf("Format%v: %v", c, e)
		}
		d.Off()
		d.Wake(nil) // all of it was flushed
		want := slices.Clone(full)
		want[c[0]], want[c[0]+1] = headSector(1, 0, 0), sector("")
		if got := sectorsOf(t, d); !slices.Equal(got, want) {
			t.Errorf("Format%v: %q", c, got)
		}
		isOf(t, opened(t, d, c[0], c[1]), (c[1]-2)/2*128)
	}
}

func TestFormatRefused(t *testing.T) {
	d := disk.New(10)
	isUntouched(t, d, func() {
		for _, c := range noPlaces {
			if e := journal.Format(d, c[0], c[1]); e != api.ErrArg {
				t.Errorf("Format%v: %v", c, e)
			}
			if e := journal.Format(nil, c[0], c[1]); e != api.ErrNil {
				t.Errorf("Format%v without a disk: %v", c, e)
			}
		}
	})
	if e := journal.Format(nil, 0, 4); e != api.ErrNil {
		t.Errorf("Format without a disk: %v", e)
	}
	if e := journal.Format(new(disk.Disk), 0, 4); e != api.ErrArg {
		t.Errorf("Format of a disk without sectors: %v", e)
	}
	d.Off()
	if e := journal.Format(d, 0, 11); e != api.ErrArg {
		t.Errorf("Format without power, nor room: %v", e)
	}
	if e := journal.Format(d, 0, 10); e != api.ErrOff {
		t.Errorf("Format without power: %v", e)
	}
}

// A journal that lay there is none any more.
func TestFormatAnew(t *testing.T) {
	for rewrites := range 4 {
		d, j := formatted(t, 10)
		isCommitted(t, j, api.OK, "a", "b")
		for range rewrites {
			isRewritten(t, j, api.OK, "c")
		}
		if e := journal.Format(d, 1, 8); e != api.OK {
			t.Errorf("Format: %v", e)
		}
		isOf(t, opened(t, d, 1, 8), 384)
	}
}

// P5.2

func TestOpenRefused(t *testing.T) {
	d, _ := formatted(t, 10)
	isUntouched(t, d, func() {
		for _, c := range noPlaces {
			isNotOpened(t, d, c[0], c[1], api.ErrArg)
			isNotOpened(t, nil, c[0], c[1], api.ErrNil)
		}
	})
	isNotOpened(t, nil, 0, 4, api.ErrNil)
	isNotOpened(t, new(disk.Disk), 0, 4, api.ErrArg)
	d.Off()
	isNotOpened(t, d, 1, 10, api.ErrArg)
	isNotOpened(t, d, 1, 8, api.ErrOff)
}

// Which sectors a half has, and that an odd one is left over.
func TestRoom(t *testing.T) {
	for sectors := 4; sectors < 12; sectors++ {
		d := disk.New(sectors)
		journal.Format(d, 0, sectors)
		j := opened(t, d, 0, sectors)
		room := (sectors - 2) / 2 * 128
		isOf(t, j, room)
		size := room - 1 // of a text that fills the half, and its number ahead of it
		if size > 127 {
			size--
		}
		isCommitted(t, j, api.ErrFull, row("a", size+1))
		isCommitted(t, j, api.OK, row("a", size))
		isOf(t, j, 0, row("a", size))
		isRewritten(t, j, api.ErrFull, row("b", size+1))
		isRewritten(t, j, api.OK, row("b", size))
		isOf(t, opened(t, d, 0, sectors), 0, row("b", size))
		got := sectorsOf(t, d)
		if a := strings.Count(strings.Join(got[2:], ""), "a"); a != size {
			t.Errorf("%d sectors: %d bytes of %d stayed in the other half", sectors, a, size)
		}
		if sectors%2 == 1 && got[sectors-1] != sector("") {
			t.Errorf("%d sectors: the last one was written", sectors)
		}
	}
}

// The head that says something, and has the higher number, counts; what says nothing does not, wherever it stands.
func TestHeadThatCounts(t *testing.T) {
	data := []string{sector("\x01a\x02bc"), sector("\x03def\x00")}
	one, two := []string{"a", "bc"}, []string{"def", ""}
	texts := func(first, again string) string {
		return sector(first + row("x", 48) + again + row("y", 48))
	}
	a := headText(7, 0, 5)
	for _, c := range []struct {
		first, second string
		want          []string // none: it is broken
	}{
		{headSector(1, 0, 0), sector(""), []string{}},
		{headSector(1, 0, 2), sector(""), []string{"a"}},
		{headSector(1, 0, 5), headSector(2, 1, 5), two},
		{headSector(3, 0, 5), headSector(2, 1, 5), one},
		{headSector(2, 1, 5), headSector(3, 0, 5), one},
		{headSector(255, 0, 5), headSector(256, 1, 5), two},
		{headSector(256, 0, 5), headSector(255, 1, 5), one},
		{headSector(1<<32, 0, 5), headSector(1<<32-1, 1, 5), one},
		{headSector(1<<63, 0, 5), headSector(1<<63-1, 1, 5), one},
		{headSector(1<<63-1, 0, 5), headSector(math.MaxUint64, 1, 5), two},
		{sector(""), headSector(1, 1, 4), []string{"def"}},
		{headSector(0, 0, 5), headSector(1, 1, 5), two},       // the number is 0
		{headSector(9, 2, 5), headSector(1, 1, 5), two},       // there is no such half
		{headSector(9, 1<<31, 5), headSector(1, 1, 5), two},   // nor such
		{headSector(9, 0, 129), headSector(1, 1, 5), two},     // a half has not so many bytes
		{headSector(9, 0, 1<<31), headSector(1, 1, 5), two},   // nor so many
		{headSector(9, 0, 1<<32-1), headSector(1, 1, 5), two}, // nor so many
		{texts(a, a), sector(""), one},                        // what else stands in its sector says nothing
		{texts(a, headText(8, 0, 5)), headSector(1, 1, 5), two},
		{texts(a, headText(7, 1, 5)), headSector(1, 1, 5), two},
		{texts(a, headText(7, 0, 6)), headSector(1, 1, 5), two},
		{texts(a, ""), headSector(1, 1, 5), two},
		{texts("", a), headSector(1, 1, 5), two},
		{sector(a + a + a + a), headSector(1, 1, 5), two},
		{sector(a), headSector(1, 1, 5), two},
		{sector(row("x", 64) + a), headSector(1, 1, 5), two},
		{sector(""), sector(""), nil},
		{headSector(0, 0, 0), headSector(0, 1, 0), nil},
		{headSector(4, 2, 0), headSector(5, 0, 129), nil},
		{row("x", 128), row("y", 128), nil},
	} {
		d := diskOf(t, c.first, c.second, data[0], data[1])
		if c.want == nil {
			isNotOpened(t, d, 0, 4, api.ErrBroken)
			continue
		}
		size := 0
		for _, s := range c.want {
			size += 1 + len(s)
		}
		isOf(t, opened(t, d, 0, 4), 128-size, c.want...)
	}
}

// As many bytes as a half has may count; those that are noughts are texts without bytes.
func TestWholeHalfCounts(t *testing.T) {
	d := diskOf(t, headSector(9, 0, 128), headSector(1, 1, 0), sector("\x01a\x02bc"), sector(""))
	isOf(t, opened(t, d, 0, 4), 0, append([]string{"a", "bc"}, make([]string, 123)...)...)
}

func TestNeverFormatted(t *testing.T) {
	d := disk.New(10)
	isNotOpened(t, d, 1, 8, api.ErrBroken)
	if d.Ops() != 2 {
		t.Errorf("%d operations", d.Ops())
	}
	d, _ = formatted(t, 10)
	isNotOpened(t, d, 2, 8, api.ErrBroken)
	isOf(t, opened(t, d, 0, 9), 384) // here the head that counts is the other one
}

// Bytes that count, but are not texts one behind the other.
func TestNoTexts(t *testing.T) {
	for _, c := range []struct {
		bytes string
		size  uint32
	}{
		{"\x02a", 2},
		{"\x01a\x01", 3},
		{"\x01a\x81", 3},
		{"\x80\x00", 2},
		{"\x80\x01a", 3},
		{"\x01a\x02bc", 4},
		{row("\x05abcde", 60), 255},
		{row("\xff", 256), 256},
		{"\x81\xff\xff\xff\xff\xff\xff\xff\xff\x7fa", 11},
	} {
		bytes := c.bytes + row("\x00", 256-min(len(c.bytes), 256))
		for half := range uint32(2) {
			sectors := []string{headSector(2, half, c.size), row("z", 128), sector(""), sector(""), sector(""), sector("")}
			at := 2 + 2*half
			sectors[at], sectors[at+1] = bytes[:128], bytes[128:256]
			d := diskOf(t, sectors...)
			isNotOpened(t, d, 0, 6, api.ErrBroken)
			if got := sectorsOf(t, d); !slices.Equal(got, sectors) {
				t.Errorf("%.20q: it was written", c.bytes)
			}
		}
	}
}

// The bytes that count, and no others: a text may be cut where they end.
func TestJustWhatCounts(t *testing.T) {
	bytes := strings.Repeat("\x03abc", 64)
	for size := uint32(0); size <= 256; size += 4 {
		d := diskOf(t, sector(""), headSector(1, 1, size), sector(""), sector(""), bytes[:128], bytes[128:])
		before := d.Ops()
		isOf(t, opened(t, d, 0, 6), 256-int(size), slices.Repeat([]string{"abc"}, int(size/4))...)
		if ops := d.Ops() - before; ops != 2+uint64(size+127)/128 {
			t.Errorf("%d bytes: %d operations", size, ops)
		}
	}
}

// The other head is wiped out just if its two texts are not the same.
func TestTornHeadIsWiped(t *testing.T) {
	good := headSector(5, 0, 2)
	a, b := headText(4, 0, 0), headText(6, 0, 2)
	around := func(first, again string) string {
		return sector(first + row("x", 64-len(first)) + again + "yz")
	}
	for _, c := range []struct {
		other string
		wiped bool
	}{
		{sector(""), false},
		{headSector(4, 1, 7), false},
		{headSector(0, 1, 7), false},
		{headSector(9, 2, 0), false},
		{headSector(9, 0, 999), false},
		{around(a, a), false},
		{row("x", 128), false},
		{around("", row("x", 16)), false},
		{around(a, b), true},
		{around(b, a), true},
		{around(b, b[:15]+"\x03"), true},
		{around("\x01"+b[1:], b), true},
		{around(b, sector("")[:16]), true},
		{sector(b), true},
		{sector(row("\x00", 79) + "\x01"), true},
		{sector(row("\x00", 64) + "\x01"), true},
		{sector("\x01"), true},
		{sector(row("\x00", 15) + "\x01"), true},
		{sector(row("\x00", 16) + "\x01"), false},
		{sector(row("\x00", 63) + "\x01"), false},
		{sector(row("\x00", 80) + "\x01"), false},
	} {
		for i := range 2 {
			sectors := []string{good, good, sector("\x01a"), sector("\x01b")}
			sectors[1-i] = c.other
			d := diskOf(t, sectors...)
			before := d.Ops()
			isOf(t, opened(t, d, 0, 4), 126, "a")
			ops := uint64(3)
			if c.wiped {
				sectors[1-i], ops = sector(""), 5
			}
			if d.Ops()-before != ops {
				t.Errorf("%q: %d operations, not %d", c.other, d.Ops()-before, ops)
			}
			d.Off()
			d.Wake(nil)
			if got := sectorsOf(t, d); !slices.Equal(got, sectors) {
				t.Errorf("%q: it is %q", c.other, got[1-i])
			}
		}
	}
}

// P5.3

func TestCommit(t *testing.T) {
	d, j := formatted(t, 10)
	l := []string{"", "a", "\x00\xff", row("b", 127), row("c", 128), "\x02x"}
	isCommitted(t, j, api.OK, l[:2]...)
	isOf(t, j, 384-3, l[:2]...)
	isCommitted(t, j, api.OK, l[2:4]...)
	isCommitted(t, j, api.OK, l[4])
	isCommitted(t, j, api.OK, l[5])
	isOf(t, j, 384-3-131-130-3, l...)
	isOf(t, opened(t, d, 1, 8), 384-3-131-130-3, l...)
	d.Off()
	d.Wake(nil) // all of it was flushed
	isOf(t, opened(t, d, 1, 8), 384-3-131-130-3, l...)
}

func TestCommitFull(t *testing.T) {
	d, j := formatted(t, 10)
	isCommitted(t, j, api.OK, "a")
	isUntouched(t, d, func() {
		isCommitted(t, j, api.ErrFull, row("b", 381))
		isCommitted(t, j, api.ErrFull, row("b", 1000000))
		isCommitted(t, j, api.ErrFull, slices.Repeat([]string{""}, 383)...)
		isCommitted(t, j, api.ErrFull, row("b", 379), "", "")
		isCommitted(t, j, api.ErrFull, "", row("b", 380))
	})
	isOf(t, j, 382, "a")
	isOf(t, opened(t, d, 1, 8), 382, "a")
	isCommitted(t, j, api.OK, row("b", 379), "")
	isOf(t, j, 0, "a", row("b", 379), "")
	isCommitted(t, j, api.ErrFull, "")
	isCommitted(t, j, api.OK)
	isOf(t, opened(t, d, 1, 8), 0, "a", row("b", 379), "")
}

func TestCommitNothing(t *testing.T) {
	d, j := formatted(t, 10)
	isUntouched(t, d, func() {
		isCommitted(t, j, api.OK)
		if e := j.Commit([]string{}); e != api.OK {
			t.Errorf("Commit of none: %v", e)
		}
	})
	d.Off()
	isCommitted(t, j, api.OK) // no call answered ErrOff yet
	isCommitted(t, j, api.ErrFull, row("a", 384))
	isCommitted(t, j, api.ErrOff, "a")
	isCommitted(t, j, api.ErrOff)
	isOf(t, j, 384)
}

// Behind ErrOff there is nothing more, though the power comes again.
func TestOffForGood(t *testing.T) {
	for _, first := range []func(t *testing.T, j *journal.Journal, want api.Errno, l ...string){isCommitted, isRewritten} {
		for fuse := 1; fuse < 5; fuse++ {
			d, j := formatted(t, 10)
			isCommitted(t, j, api.OK, "a", "bc")
			d.Arm(fuse)
			first(t, j, api.ErrOff, "d")
			isOf(t, j, 379, "a", "bc")
			d.Wake(nil)
			isUntouched(t, d, func() {
				isCommitted(t, j, api.ErrOff, "e")
				isCommitted(t, j, api.ErrOff)
				isCommitted(t, j, api.ErrOff, row("e", 999))
				isRewritten(t, j, api.ErrOff, "e")
				isRewritten(t, j, api.ErrOff)
				isRewritten(t, j, api.ErrOff, row("e", 999))
			})
			isOf(t, j, 379, "a", "bc")
			again := opened(t, d, 1, 8)
			isOf(t, again, 379, "a", "bc")
			isCommitted(t, again, api.OK, "f")
			isOf(t, again, 377, "a", "bc", "f")
		}
	}
}

// ErrFull is no end of a journal.
func TestFullIsNotOff(t *testing.T) {
	_, j := formatted(t, 6)
	isCommitted(t, j, api.ErrFull, row("a", 128))
	isRewritten(t, j, api.ErrFull, row("a", 128))
	isCommitted(t, j, api.OK, "b")
	isOf(t, j, 126, "b")
}

// An error of the disk that is not ErrOff is the answer, too, and no end of it.
func TestDiskThatIsGone(t *testing.T) {
	d, j := formatted(t, 10)
	isCommitted(t, j, api.OK, "a")
	was := *d
	*d = disk.Disk{}
	isCommitted(t, j, api.ErrArg, "b")
	isRewritten(t, j, api.ErrArg, "b")
	isOf(t, j, 382, "a")
	*d = was
	isCommitted(t, j, api.OK, "b")
	isOf(t, opened(t, d, 1, 8), 380, "a", "b")
}

// P5.4

func TestRewrite(t *testing.T) {
	d, j := formatted(t, 10)
	isCommitted(t, j, api.OK, "a", row("b", 300))
	for i, l := range [][]string{{"c"}, {}, {"", "d", row("e", 370)}, {row("f", 382)}, {"g"}, nil, {"h"}} {
		isRewritten(t, j, api.OK, l...)
		d.Off()
		d.Wake(nil)
		again := opened(t, d, 1, 8)
		isOf(t, again, j.Room(), l...)
		isOf(t, j, again.Room(), l...)
		if i%2 == 0 {
			j = again
		}
	}
	isCommitted(t, j, api.OK, "i")
	isOf(t, j, 380, "h", "i")
}

func TestRewriteFull(t *testing.T) {
	d, j := formatted(t, 10)
	isCommitted(t, j, api.OK, "a", row("b", 380))
	isOf(t, j, 0, "a", row("b", 380))
	isUntouched(t, d, func() {
		isRewritten(t, j, api.ErrFull, row("c", 383))
		isRewritten(t, j, api.ErrFull, "a", row("b", 380), "")
		isRewritten(t, j, api.ErrFull, slices.Repeat([]string{""}, 385)...)
	})
	isOf(t, j, 0, "a", row("b", 380))
	isRewritten(t, j, api.OK, slices.Repeat([]string{""}, 384)...) // what counts so far takes no room of these
	isOf(t, opened(t, d, 1, 8), 0, slices.Repeat([]string{""}, 384)...)
}

func TestNoJournal(t *testing.T) {
	for _, j := range []*journal.Journal{nil, {}} {
		isOf(t, j, 0)
		isCommitted(t, j, api.ErrNil)
		isCommitted(t, j, api.ErrNil, "a")
		isCommitted(t, j, api.ErrNil, row("a", 1000000))
		isRewritten(t, j, api.ErrNil)
		isRewritten(t, j, api.ErrNil, "a")
		isOf(t, j, 0)
	}
}

// What is handed in is not kept, and what is answered is new.
func TestListsAreApart(t *testing.T) {
	d, j := formatted(t, 10)
	l := []string{"a", "b"}
	isCommitted(t, j, api.OK, l...)
	l[0] = "x"
	isOf(t, j, 380, "a", "b")
	got := j.Records()
	got[0] = "y"
	_ = append(got[:1], "z")
	isOf(t, j, 380, "a", "b")
	isRewritten(t, j, api.OK, l...)
	l[1] = "x"
	isOf(t, j, 380, "x", "b")
	isCommitted(t, j, api.OK, "c")
	isOf(t, opened(t, d, 1, 8), 378, "x", "b", "c")
}

// Two journals on one disk do not touch each other, nor what lies beside them.
func TestJournalsAreApart(t *testing.T) {
	d := diskOf(t, slices.Repeat([]string{row("q", 128)}, 15)...)
	journal.Format(d, 1, 6)
	journal.Format(d, 8, 6)
	one, two := opened(t, d, 1, 6), opened(t, d, 8, 6)
	for i := range 20 {
		isRewritten(t, one, api.OK, row("a", 250))
		isCommitted(t, two, api.OK, row("b", i))
		isRewritten(t, two, api.OK, row("c", i), row("d", 100))
		isOf(t, opened(t, d, 1, 6), 4, row("a", 250))
		isOf(t, opened(t, d, 8, 6), 154-i, row("c", i), row("d", 100))
	}
	for _, at := range []int{0, 7, 14} {
		if s, _ := d.Read(at); s != row("q", 128) {
			t.Errorf("the sector %d is %q", at, s)
		}
	}
}

// The greatest journal there is, full of the smallest records.
func TestGreatest(t *testing.T) {
	d := disk.New(4096)
	journal.Format(d, 0, 4096)
	j := opened(t, d, 0, 4096)
	room := 2047 * 128
	isOf(t, j, room)
	l := make([]string, room)
	isCommitted(t, j, api.ErrFull, make([]string, room+1)...)
	isCommitted(t, j, api.OK, l...)
	isOf(t, j, 0, l...)
	isRewritten(t, j, api.OK, l...)
	isOf(t, opened(t, d, 0, 4096), 0, l...)
}

// The chapter's examples.
func TestExamples(t *testing.T) {
	d := disk.New(10)
	isNotOpened(t, d, 1, 8, api.ErrBroken)
	if e := journal.Format(d, 1, 8); e != api.OK {
		t.Errorf("Format: %v", e)
	}
	j := opened(t, d, 1, 8)
	isOf(t, j, 384)
	isCommitted(t, j, api.OK, "a", "bc")
	isOf(t, j, 379, "a", "bc")
	isRewritten(t, j, api.OK, "z")
	isOf(t, j, 382, "z")
	isCommitted(t, j, api.ErrFull, row("x", 381))
	isOf(t, j, 382, "z")
	isCommitted(t, j, api.OK)
	isNotOpened(t, d, 1, 3, api.ErrArg)
	isNotOpened(t, d, 3, 8, api.ErrArg)
}
