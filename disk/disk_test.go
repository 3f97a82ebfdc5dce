package disk_test

import (
	"math"
	"slices"
	"strings"
	"testing"

	"whisk/api"
	"whisk/disk"
)

// noSectors are numbers of which a disk of two sectors has none.
var noSectors = []int{-1, 2, 3, 4096, math.MinInt, math.MaxInt}

// row answers so many bytes, each this one.
func row(b string, size int) string {
	return strings.Repeat(b, size)
}

// sector answers s, and noughts behind it.
func sector(s string) string {
	return s + row("\x00", 128-len(s))
}

// isRead fails the test unless the sector has these bytes.
func isRead(t *testing.T, d *disk.Disk, at int, want string) {
	t.Helper()
	if s, e := d.Read(at); s != want || e != api.OK {
		t.Errorf("Read(%d) = %q, %v; not %q", at, s, e, want)
	}
}

// isNotRead fails the test unless reading the sector answers this error, and no bytes.
func isNotRead(t *testing.T, d *disk.Disk, at int, want api.Errno) {
	t.Helper()
	if s, e := d.Read(at); s != "" || e != want {
		t.Errorf("Read(%d) = %q, %v; not %v", at, s, e, want)
	}
}

// isWritten fails the test unless writing s to the sector answers this.
func isWritten(t *testing.T, d *disk.Disk, at int, s string, want api.Errno) {
	t.Helper()
	if e := d.Write(at, s); e != want {
		t.Errorf("Write(%d, %d bytes) = %v, not %v", at, len(s), e, want)
	}
}

// isFlushed fails the test unless flushing answers this.
func isFlushed(t *testing.T, d *disk.Disk, want api.Errno) {
	t.Helper()
	if e := d.Flush(); e != want {
		t.Errorf("Flush() = %v, not %v", e, want)
	}
}

// isCounted fails the test unless so many operations were done, and the power is so.
func isCounted(t *testing.T, d *disk.Disk, ops uint64, on bool) {
	t.Helper()
	if d.Ops() != ops || d.On() != on {
		t.Errorf("Ops() = %d, On() = %t; not %d, %t", d.Ops(), d.On(), ops, on)
	}
}

// cut lets the power go, and come again with these fates.
func cut(d *disk.Disk, fates ...uint8) {
	d.Off()
	d.Wake(fates)
}

// P4.1

func TestNew(t *testing.T) {
	for _, sectors := range []int{0, -1, -4096, 4097, math.MinInt, math.MaxInt} {
		if disk.New(sectors) != nil {
			t.Errorf("New(%d) is a disk", sectors)
		}
	}
	for _, sectors := range []int{1, 2, 3, 128, 4095, 4096} {
		d := disk.New(sectors)
		if d == nil || d.Len() != sectors {
			t.Fatalf("New(%d): %d sectors", sectors, d.Len())
		}
		isCounted(t, d, 0, true)
		for at := range sectors {
			isRead(t, d, at, sector(""))
		}
		isNotRead(t, d, sectors, api.ErrArg)
		isWritten(t, d, sectors-1, "z", api.OK)
		isRead(t, d, sectors-1, sector("z"))
	}
}

func TestDisksAreApart(t *testing.T) {
	one, other := disk.New(1), disk.New(1)
	isWritten(t, one, 0, "a", api.OK)
	one.Off()
	isCounted(t, other, 0, true)
	isRead(t, other, 0, sector(""))
}

func TestOps(t *testing.T) {
	d := disk.New(2)
	isRead(t, d, 0, sector(""))
	isCounted(t, d, 1, true)
	isWritten(t, d, 1, "a", api.OK)
	isCounted(t, d, 2, true)
	isFlushed(t, d, api.OK)
	isFlushed(t, d, api.OK) // though nothing is left
	isCounted(t, d, 4, true)
	d.Len()
	d.Arm(9)
	d.Wake([]uint8{64})
	isCounted(t, d, 4, true)
	d.Off()
	isCounted(t, d, 4, false)
	isNotRead(t, d, 0, api.ErrOff)
	isWritten(t, d, 0, "b", api.ErrOff)
	isFlushed(t, d, api.ErrOff)
	isCounted(t, d, 4, false)
	d.Wake(nil)
	isCounted(t, d, 4, true)
	isFlushed(t, d, api.OK)
	isCounted(t, d, 5, true)
}

// The operation at which the power goes counts, and none behind it.
func TestOpsWherePowerGoes(t *testing.T) {
	d := disk.New(2)
	d.Arm(2)
	isRead(t, d, 0, sector(""))
	isWritten(t, d, 0, row("a", 128), api.ErrOff)
	isCounted(t, d, 2, false)
	isNotRead(t, d, 0, api.ErrOff)
	isCounted(t, d, 2, false)
}

// P4.2

func TestWrite(t *testing.T) {
	d := disk.New(2)
	all := ""
	for value := range 256 {
		all += string([]byte{byte(value)})
	}
	for _, s := range []string{"a", row("b", 128), "c", "", row("d", 127), all[:128], all[128:], "\xff", "\u00e4\u20ac", "a\x00b", row("e", 64)} {
		isWritten(t, d, 1, s, api.OK)
		isRead(t, d, 1, sector(s))
		isRead(t, d, 0, sector(""))
	}
	for size := range 129 {
		isWritten(t, d, 1, row("f", 128), api.OK)
		isWritten(t, d, 1, row("g", size), api.OK)
		isRead(t, d, 1, sector(row("g", size)))
	}
}

// The bytes are the last write's, whether it was flushed or not.
func TestReadLastWrite(t *testing.T) {
	d := disk.New(3)
	isWritten(t, d, 0, "a", api.OK)
	isWritten(t, d, 1, "b", api.OK)
	isWritten(t, d, 0, "c", api.OK)
	isRead(t, d, 0, sector("c"))
	isFlushed(t, d, api.OK)
	isRead(t, d, 0, sector("c"))
	isRead(t, d, 1, sector("b"))
	isWritten(t, d, 1, "d", api.OK)
	isRead(t, d, 0, sector("c"))
	isRead(t, d, 1, sector("d"))
	isRead(t, d, 2, sector(""))
}

func TestRefused(t *testing.T) {
	d := disk.New(2)
	isWritten(t, d, 0, "a", api.OK)
	isWritten(t, d, 1, "b", api.OK)
	d.Arm(3)
	refused := func() {
		t.Helper()
		for _, at := range noSectors {
			isNotRead(t, d, at, api.ErrArg)
			for _, size := range []int{0, 1, 128, 129, 100000} { // the sector's error is ahead of the bytes'
				isWritten(t, d, at, row("x", size), api.ErrArg)
			}
		}
		for _, size := range []int{129, 130, 256, 100000} {
			isWritten(t, d, 0, row("x", size), api.ErrLong)
			isWritten(t, d, 1, row("\x00", size), api.ErrLong)
		}
	}
	refused()
	isCounted(t, d, 2, true) // none of them counts, and none burns the fuse
	isRead(t, d, 0, sector("a"))
	isRead(t, d, 1, sector("b"))
	d.Off()
	refused() // whether the power is off is asked last
	isCounted(t, d, 4, false)
	d.Wake([]uint8{64, 64, 64, 64, 64, 64})
	isRead(t, d, 0, sector("a"))
	isRead(t, d, 1, sector("b"))
}

// Where the fuse is burnt down to its last, a call that is refused is no operation.
func TestRefusedAtTheFuse(t *testing.T) {
	d := disk.New(2)
	d.Arm(1)
	isNotRead(t, d, 2, api.ErrArg)
	isWritten(t, d, -1, "a", api.ErrArg)
	isWritten(t, d, 0, row("a", 129), api.ErrLong)
	isCounted(t, d, 0, true)
	isFlushed(t, d, api.ErrOff)
	isCounted(t, d, 1, false)
}

func TestFlush(t *testing.T) {
	d := disk.New(3)
	isWritten(t, d, 0, "a", api.OK)
	isWritten(t, d, 1, "b", api.OK)
	isWritten(t, d, 0, "c", api.OK)
	isFlushed(t, d, api.OK)
	isWritten(t, d, 1, "d", api.OK)
	cut(d)
	isRead(t, d, 0, sector("c"))
	isRead(t, d, 1, sector("b"))
	isRead(t, d, 2, sector(""))
}

func TestOperationsWithoutPower(t *testing.T) {
	d := disk.New(1)
	isWritten(t, d, 0, "a", api.OK)
	d.Off()
	isNotRead(t, d, 0, api.ErrOff)
	isWritten(t, d, 0, "b", api.ErrOff)
	isFlushed(t, d, api.ErrOff)
	d.Wake([]uint8{0, 64}) // a was not flushed, and b was not written
	isRead(t, d, 0, sector(""))
}

// P4.3

func TestArm(t *testing.T) {
	for ops := 1; ops < 10; ops++ {
		d := disk.New(1)
		isFlushed(t, d, api.OK)
		d.Arm(ops)
		isCounted(t, d, 1, true)
		for i := range ops - 1 {
			isWritten(t, d, 0, row("a", i), api.OK)
		}
		isCounted(t, d, uint64(ops), true)
		isWritten(t, d, 0, "z", api.ErrOff)
		isCounted(t, d, uint64(ops)+1, false)
	}
}

// Of each kind, the operation at which the power goes does nothing.
func TestPowerGoesAhead(t *testing.T) {
	armed := func() *disk.Disk {
		d := disk.New(1)
		isWritten(t, d, 0, "a", api.OK)
		d.Arm(1)
		return d
	}
	d := armed()
	isNotRead(t, d, 0, api.ErrOff)
	isCounted(t, d, 2, false)

	d = armed()
	isWritten(t, d, 0, "b", api.ErrOff)
	isCounted(t, d, 2, false)
	d.Wake([]uint8{64, 64})
	isRead(t, d, 0, sector("a"))

	d = armed()
	isFlushed(t, d, api.ErrOff)
	isCounted(t, d, 2, false)
	d.Wake(nil)
	isRead(t, d, 0, sector(""))
}

// isUnarmed fails the test if there is a fuse.
func isUnarmed(t *testing.T, d *disk.Disk) {
	t.Helper()
	for range 20 {
		isFlushed(t, d, api.OK)
	}
}

func TestNoFuse(t *testing.T) {
	isUnarmed(t, disk.New(1))
	for _, ops := range []int{0, -1, -9, math.MinInt} {
		d := disk.New(1)
		d.Arm(ops)
		isUnarmed(t, d)
		d.Arm(3)
		isFlushed(t, d, api.OK)
		d.Arm(ops)
		isUnarmed(t, d)
	}
	d := disk.New(1)
	d.Arm(math.MaxInt)
	isUnarmed(t, d)
}

func TestArmAnew(t *testing.T) {
	d := disk.New(1)
	d.Arm(2)
	isFlushed(t, d, api.OK)
	d.Arm(3)
	isFlushed(t, d, api.OK)
	isFlushed(t, d, api.OK)
	isFlushed(t, d, api.ErrOff)

	d = disk.New(1)
	d.Arm(9)
	d.Arm(1)
	isFlushed(t, d, api.ErrOff)
}

// A fuse does not outlast the power, and none is laid without it.
func TestPowerTakesTheFuse(t *testing.T) {
	d := disk.New(1)
	d.Arm(3)
	d.Off()
	d.Wake(nil)
	isUnarmed(t, d)

	d.Arm(1)
	isFlushed(t, d, api.ErrOff)
	d.Wake(nil)
	isUnarmed(t, d)

	d.Off()
	d.Arm(3)
	isCounted(t, d, d.Ops(), false)
	d.Wake(nil)
	isUnarmed(t, d)
}

func TestOff(t *testing.T) {
	d := disk.New(1)
	isWritten(t, d, 0, "a", api.OK)
	d.Off()
	d.Off()
	isCounted(t, d, 1, false)
	d.Wake([]uint8{64})
	isCounted(t, d, 1, true)
	isRead(t, d, 0, sector("a"))
}

// P4.4

// Of one write, of each fate.
func TestEachFate(t *testing.T) {
	for value := range 256 {
		d := disk.New(2)
		isWritten(t, d, 0, row("a", 128), api.OK)
		isFlushed(t, d, api.OK)
		isWritten(t, d, 0, row("b", 128), api.OK)
		isWritten(t, d, 1, "xyz", api.OK)
		cut(d, uint8(value), uint8(value))
		stay := 0
		if value >= 64 {
			stay = 128
		}
		if value >= 128 {
			stay = value - 127
		}
		isRead(t, d, 0, row("b", stay)+row("a", 128-stay))
		isRead(t, d, 1, sector("xyz"[:min(stay, 3)]))
		cut(d)
		isRead(t, d, 0, row("b", stay)+row("a", 128-stay)) // what stays is flushed
	}
}

// The noughts behind a write's bytes are written, too.
func TestTornNoughts(t *testing.T) {
	d := disk.New(1)
	isWritten(t, d, 0, row("a", 128), api.OK)
	isFlushed(t, d, api.OK)
	isWritten(t, d, 0, "bc", api.OK)
	cut(d, 132)
	isRead(t, d, 0, "bc\x00\x00\x00"+row("a", 123))
	isWritten(t, d, 0, "", api.OK)
	cut(d, 128)
	isRead(t, d, 0, "\x00c\x00\x00\x00"+row("a", 123))
}

// The i-th write has the i-th fate, wherever it wrote.
func TestFatesInOrder(t *testing.T) {
	for _, c := range []struct {
		fates       []uint8
		first, next string
	}{
		{nil, "", ""},
		{[]uint8{}, "", ""},
		{[]uint8{64}, row("a", 128), ""},
		{[]uint8{0, 64}, "", row("b", 128)},
		{[]uint8{0, 0, 64}, row("c", 128), ""},
		{[]uint8{64, 0, 130}, "ccc" + row("a", 125), ""},
		{[]uint8{130, 64, 128}, "caa", row("b", 128)},
		{[]uint8{64, 64, 64, 64}, row("c", 128), row("d", 128)},
		{[]uint8{127, 127, 63, 63}, row("a", 128), row("b", 128)},
		{[]uint8{137, 63, 0, 128}, row("a", 10), "d"},
		{[]uint8{64, 64, 0, 0, 64, 64, 128}, row("a", 128), row("b", 128)},
		{[]uint8{132, 140, 129, 130, 255}, "ccaaa", "ddd" + row("b", 10)},
	} {
		d := disk.New(2)
		for i, s := range []string{"a", "b", "c", "d"} {
			isWritten(t, d, i%2, row(s, 128), api.OK)
		}
		as := slices.Clone(c.fates)
		cut(d, c.fates...)
		if !slices.Equal(as, c.fates) {
			t.Errorf("Wake made %v of %v", c.fates, as)
		}
		isCounted(t, d, 4, true)
		isRead(t, d, 0, sector(c.first))
		isRead(t, d, 1, sector(c.next))
	}
}

// Only what was not flushed has a fate.
func TestFatesBehindFlush(t *testing.T) {
	d := disk.New(2)
	isWritten(t, d, 0, "a", api.OK)
	isFlushed(t, d, api.OK)
	isWritten(t, d, 1, "b", api.OK)
	isWritten(t, d, 0, "c", api.OK)
	cut(d, 64, 0)
	isRead(t, d, 0, sector("a"))
	isRead(t, d, 1, sector("b"))
	cut(d, 64, 64) // nor has what had one once
	isRead(t, d, 0, sector("a"))
	isRead(t, d, 1, sector("b"))
}

func TestWakeWithPower(t *testing.T) {
	d := disk.New(1)
	isWritten(t, d, 0, "a", api.OK)
	d.Arm(3)
	d.Wake([]uint8{64})
	isRead(t, d, 0, sector("a"))
	d.Wake(nil)
	isRead(t, d, 0, sector("a"))
	isNotRead(t, d, 0, api.ErrOff) // the fuse was left as it was
	d.Wake(nil)                    // and so was the write: only now it is lost
	isRead(t, d, 0, sector(""))
}

// The fates are not kept.
func TestFatesAreNotKept(t *testing.T) {
	d := disk.New(1)
	fates := []uint8{64}
	isWritten(t, d, 0, "a", api.OK)
	d.Off()
	d.Wake(fates)
	fates[0] = 0
	isRead(t, d, 0, sector("a"))
	isWritten(t, d, 0, "b", api.OK)
	cut(d)
	isRead(t, d, 0, sector("a"))
}

func TestNoDisk(t *testing.T) {
	var d *disk.Disk
	d.Arm(1)
	d.Off()
	d.Wake([]uint8{64})
	d.Wake(nil)
	if d.Len() != 0 {
		t.Errorf("Len() = %d", d.Len())
	}
	isCounted(t, d, 0, false)
	for _, at := range append(noSectors, 0, 1) {
		isNotRead(t, d, at, api.ErrNil)
		isWritten(t, d, at, "a", api.ErrNil)
		isWritten(t, d, at, row("a", 129), api.ErrNil)
	}
	isFlushed(t, d, api.ErrNil)
}

// A disk that New did not make has no sectors.
func TestDiskOfNothing(t *testing.T) {
	d := new(disk.Disk)
	if d.Len() != 0 {
		t.Errorf("Len() = %d", d.Len())
	}
	isNotRead(t, d, 0, api.ErrArg)
	isWritten(t, d, 0, "", api.ErrArg)
	isFlushed(t, d, api.OK)
	cut(d, 64)
	isFlushed(t, d, api.OK)
}

// The chapter's examples.
func TestExamples(t *testing.T) {
	a, b := row("a", 128), row("b", 128)
	d := disk.New(2)
	isWritten(t, d, 0, a, api.OK)
	isFlushed(t, d, api.OK)
	isWritten(t, d, 0, b, api.OK)
	cut(d, 130)
	isRead(t, d, 0, "bbb"+row("a", 125))

	isWritten(t, d, 1, "x", api.OK)
	cut(d)
	isRead(t, d, 1, sector(""))
	isWritten(t, d, 1, "x", api.OK)
	cut(d, 64)
	isRead(t, d, 1, sector("x"))

	before := d.Ops()
	d.Arm(2)
	isRead(t, d, 0, "bbb"+row("a", 125))
	isWritten(t, d, 0, a, api.ErrOff)
	isNotRead(t, d, 0, api.ErrOff)
	isCounted(t, d, before+2, false)

	isWritten(t, d, 2, "x", api.ErrArg)
	isWritten(t, d, 0, row("a", 129), api.ErrLong)
}
