package journal_test

import (
	"slices"
	"testing"

	"whisk/api"
	"whisk/disk"
	"whisk/journal"
)

// source is numbers that hang on the one it begins with alone.
type source uint64

// below answers one below n.
func (s *source) below(n int) int {
	*s = *s*6364136223846793005 + 1442695040888963407
	return int(uint64(*s) >> 33 % uint64(n))
}

// fates answers so many, of all kinds.
func (s *source) fates(size int) []uint8 {
	l := make([]uint8, size)
	for i := range l {
		l[i] = uint8(s.below(256))
	}
	return l
}

// texts answers some, whose bytes are at most so many.
func (s *source) texts(room int) []string {
	var l []string
	for room > 0 && s.below(4) > 0 {
		size := s.below(min(room, 120))
		l = append(l, row(string(rune('a'+s.below(26))), size))
		room -= 1 + size
	}
	return l
}

// step is an operation of a disk.
type step struct {
	name string
	at   int
	s    string
}

// reads, writes and flush answer one.
func reads(at int) step            { return step{name: "read", at: at} }
func writes(at int, s string) step { return step{name: "write", at: at, s: s} }
func flush() step                  { return step{name: "flush"} }

// do does it.
func (s step) do(d *disk.Disk) api.Errno {
	switch s.name {
	case "read":
		_, e := d.Read(s.at)
		return e
	case "write":
		return d.Write(s.at, s.s)
	}
	return d.Flush()
}

// isDone fails the test unless the call does just these steps, in this order, up to where the power goes: that shows in what becomes of the disk, wherever it goes, and whatever the fates. fresh answers a disk, and the call on it.
func isDone(t *testing.T, fresh func() (*disk.Disk, func() api.Errno), steps ...step) {
	t.Helper()
	from := source(len(steps))
	for fuse := range len(steps) + 2 {
		for try := range 12 {
			fates := from.fates(len(steps))
			if try < 2 {
				fates = slices.Repeat([]uint8{uint8(64 * try)}, len(steps)) // all are lost, all stay
			}
			got, call := fresh()
			want, _ := fresh()
			got.Arm(fuse)
			want.Arm(fuse)
			e, f := call(), api.OK
			for i := 0; i < len(steps) && f == api.OK; i++ {
				f = steps[i].do(want)
			}
			if e != f || got.Ops() != want.Ops() || got.On() != want.On() {
				t.Fatalf("fuse %d: %v, %d operations; not %v, %d", fuse, e, got.Ops(), f, want.Ops())
			}
			for _, d := range []*disk.Disk{got, want} {
				d.Off()
				d.Wake(fates)
			}
			if a, b := sectorsOf(t, got), sectorsOf(t, want); !slices.Equal(a, b) {
				t.Fatalf("fuse %d, fates %v: %q; not %q", fuse, fates, a, b)
			}
		}
	}
}

// on answers what makes a disk of these sectors, and the call that do makes on the journal in all of them.
func on(t *testing.T, sectors []string, do func(j *journal.Journal) api.Errno) func() (*disk.Disk, func() api.Errno) {
	return func() (*disk.Disk, func() api.Errno) {
		d := diskOf(t, sectors...)
		j := opened(t, d, 0, len(sectors))
		return d, func() api.Errno { return do(j) }
	}
}

// used are the sectors of a journal that was used: halves of three sectors, of which the first counts, with so many bytes of one record.
func used(size int) []string {
	text := row("a", size-1)
	bytes := string(rune(size-1)) + text
	if size > 128 {
		bytes = "\x81" + string(rune(size-2-128)) + text[1:]
	}
	bytes += row("z", 384-size)
	return []string{
		headSector(5, 1, 7), headSector(6, 0, uint32(size)),
		bytes[:128], bytes[128:256], bytes[256:],
		row("u", 128), row("v", 128), row("w", 128),
	}
}

// P5.1

func TestStepsOfFormat(t *testing.T) {
	isDone(t, func() (*disk.Disk, func() api.Errno) {
		d := diskOf(t, slices.Repeat([]string{row("q", 128)}, 10)...)
		return d, func() api.Errno { return journal.Format(d, 1, 8) }
	}, writes(1, headSector(1, 0, 0)), writes(2, ""), flush())
}

// P5.2

func TestStepsOfOpen(t *testing.T) {
	open := func(sectors ...string) func() (*disk.Disk, func() api.Errno) {
		return func() (*disk.Disk, func() api.Errno) {
			d := diskOf(t, sectors...)
			return d, func() api.Errno {
				j, e := journal.Open(d, 0, len(sectors))
				if (j == nil) != (e != api.OK) {
					t.Fatalf("Open: %v, %v", j, e)
				}
				return e
			}
		}
	}
	isDone(t, open(used(100)...), reads(0), reads(1), reads(2))
	isDone(t, open(used(128)...), reads(0), reads(1), reads(2))
	isDone(t, open(used(130)...), reads(0), reads(1), reads(2), reads(3))
	torn := used(130)
	torn[0] = sector(headText(7, 0, 2))
	isDone(t, open(torn...), reads(0), reads(1), reads(2), reads(3), writes(0, ""), flush())
	torn[1], torn[0] = torn[0], torn[1]
	isDone(t, open(torn...), reads(0), reads(1), reads(2), reads(3), writes(1, ""), flush())
}

// P5.3

func TestStepsOfCommit(t *testing.T) {
	commit := func(l ...string) func(j *journal.Journal) api.Errno {
		return func(j *journal.Journal) api.Errno { return j.Commit(l) }
	}
	bytes := func(size int) string { return used(size)[2] }
	next := func(size uint32) []step {
		return []step{flush(), writes(0, headSector(7, 0, size)), flush()}
	}
	isDone(t, on(t, used(100), commit()))
	isDone(t, on(t, used(100), commit("")), append([]step{writes(2, bytes(100)[:100])}, next(101)...)...)
	isDone(t, on(t, used(100), commit("b", "cd")), append([]step{writes(2, bytes(100)[:100]+"\x01b\x02cd")}, next(105)...)...)
	isDone(t, on(t, used(100), commit(row("b", 27))), append([]step{writes(2, bytes(100)[:100]+"\x1b"+row("b", 27))}, next(128)...)...)
	isDone(t, on(t, used(100), commit(row("b", 28))), append([]step{
		writes(2, bytes(100)[:100]+"\x1c"+row("b", 27)), writes(3, "b"),
	}, next(129)...)...)
	isDone(t, on(t, used(100), commit(row("b", 100), row("c", 100))), append([]step{
		writes(2, bytes(100)[:100]+"\x64"+row("b", 27)), writes(3, row("b", 73)+"\x64"+row("c", 54)), writes(4, row("c", 46)),
	}, next(302)...)...)
	isDone(t, on(t, used(128), commit("b")), append([]step{writes(3, "\x01b")}, next(130)...)...)
	isDone(t, on(t, used(130), commit("b")), append([]step{writes(3, "aa\x01b")}, next(132)...)...)
	second := used(100)
	second[0], second[1] = headSector(1<<32, 1, 1), headSector(1<<32-1, 0, 9)
	second[5] = sector("\x00")
	isDone(t, on(t, second, commit("b")), writes(5, "\x00\x01b"), flush(), writes(1, headSector(1<<32+1, 1, 3)), flush())
}

// P5.4

func TestStepsOfRewrite(t *testing.T) {
	rewrite := func(l ...string) func(j *journal.Journal) api.Errno {
		return func(j *journal.Journal) api.Errno { return j.Rewrite(l) }
	}
	isDone(t, on(t, used(130), rewrite()), flush(), writes(0, headSector(7, 1, 0)), flush())
	isDone(t, on(t, used(130), rewrite("b", "")), writes(5, "\x01b\x00"), flush(), writes(0, headSector(7, 1, 3)), flush())
	isDone(t, on(t, used(130), rewrite(row("b", 127))), writes(5, "\x7f"+row("b", 127)), flush(), writes(0, headSector(7, 1, 128)), flush())
	isDone(t, on(t, used(130), rewrite(row("b", 127), "c", row("d", 126), "")),
		writes(5, "\x7f"+row("b", 127)), writes(6, "\x01c\x7e"+row("d", 125)), writes(7, "d\x00"),
		flush(), writes(0, headSector(7, 1, 258)), flush())
	second := used(130)
	second[0], second[1] = headSector(255, 1, 0), sector("")
	isDone(t, on(t, second, rewrite("b")), writes(2, "\x01b"), flush(), writes(1, headSector(256, 0, 2)), flush())
}

// Both, one behind the other: the heads take turns, and a Rewrite the halves.
func TestTurns(t *testing.T) {
	d, j := formatted(t, 10)
	for i := range 300 {
		number, at, half := uint64(2+i), 1+(1+i)%2, uint32(1+i/2)%2
		if i%2 == 0 {
			isRewritten(t, j, api.OK, "a")
		} else {
			isCommitted(t, j, api.OK, "b")
		}
		if s, _ := d.Read(at); s != headSector(number, half, uint32(2+i%2*2)) {
			t.Fatalf("%d: the head is %q", i, s)
		}
	}
}

// P5.5

// alike answers a disk that is the same, nothing being unflushed.
func alike(t *testing.T, d *disk.Disk) *disk.Disk {
	t.Helper()
	return diskOf(t, sectorsOf(t, d)...)
}

// isFixed fails the test unless opening over and over answers these records, the power going in it or not. The last journal is answered.
func isFixed(t *testing.T, d *disk.Disk, from *source, want []string) *journal.Journal {
	t.Helper()
	for range from.below(6) {
		d.Arm(1 + from.below(6+d.Len()))
		j, e := journal.Open(d, 0, d.Len())
		if e == api.OK && !slices.Equal(j.Records(), want) {
			t.Fatalf("opened: %.80q; not %.80q", j.Records(), want)
		}
		if e != api.OK && (e != api.ErrOff || d.On()) {
			t.Fatalf("not opened: %v", e)
		}
		d.Off()
		d.Wake(from.fates(2))
	}
	j := opened(t, d, 0, d.Len())
	if !slices.Equal(j.Records(), want) {
		t.Fatalf("opened at last: %.80q; not %.80q", j.Records(), want)
	}
	return j
}

// isRecovered fails the test unless the disk, just awake, has one of both for good. Which one, and the journal, are answered.
func isRecovered(t *testing.T, d *disk.Disk, from *source, before, after []string) ([]string, *journal.Journal) {
	t.Helper()
	now := opened(t, alike(t, d), 0, d.Len()).Records()
	if !slices.Equal(now, before) && !slices.Equal(now, after) {
		t.Fatalf("%.80q; neither %.80q nor %.80q", now, before, after)
	}
	return now, isFixed(t, d, from, now)
}

// change commits, or rewrites, something with a fuse laid, and answers what the records are to be then.
func change(j *journal.Journal, from *source, before []string) (after []string, e api.Errno) {
	if from.below(3) == 0 {
		after = from.texts(200)
		return after, j.Rewrite(after)
	}
	l := from.texts(j.Room())
	return append(slices.Clone(before), l...), j.Commit(l)
}

func TestPowerGoesAnywhere(t *testing.T) {
	for seed := range 300 {
		from := source(seed)
		d := disk.New(4 + from.below(12))
		if e := journal.Format(d, 0, d.Len()); e != api.OK {
			t.Fatal(e)
		}
		j := opened(t, d, 0, d.Len())
		var now []string
		for range 40 {
			d.Arm(from.below(9))
			after, e := change(j, &from, now)
			switch e {
			case api.OK:
				now = after
				d.Arm(0)
				if from.below(4) == 0 {
					d.Off()
					d.Wake(nil)
					j = isFixed(t, d, &from, now)
				}
			case api.ErrFull:
				d.Arm(0)
			default:
				d.Wake(from.fates(12))
				now, j = isRecovered(t, d, &from, now, after)
			}
			if !slices.Equal(j.Records(), now) {
				t.Fatalf("seed %d: %.80q; not %.80q", seed, j.Records(), now)
			}
		}
	}
}

// A head torn at each of its bytes, at numbers of which the digits turn over; then its wiping is torn likewise.
func TestTornHeads(t *testing.T) {
	for _, number := range []uint64{2, 254, 255, 256, 257, 510, 65535, 65536, 1<<32 - 1, 1 << 32} {
		for fate := range 256 {
			sectors := used(100)
			sectors[0], sectors[1] = headSector(number-1, 1, 7), headSector(number, 0, 100)
			d := diskOf(t, sectors...)
			j := opened(t, d, 0, len(sectors))
			before := j.Records()
			d.Arm(4) // at the last flush
			isCommitted(t, j, api.ErrOff, "b")
			d.Wake([]uint8{uint8(fate)})
			now := opened(t, alike(t, d), 0, len(sectors)).Records()
			stays := fate >= 64 && fate < 128 || fate-127 >= 80
			if stays != (len(now) == 2) || !stays && !slices.Equal(now, before) {
				t.Fatalf("%d, fate %d: %.80q", number, fate, now)
			}
			for tear := fate % 5; tear < 256; tear += 5 {
				e := alike(t, d)
				e.Arm(5) // at the flush of the wiping, if there is one
				journal.Open(e, 0, len(sectors))
				e.Off()
				e.Wake([]uint8{uint8(tear)})
				if l := opened(t, e, 0, len(sectors)).Records(); !slices.Equal(l, now) {
					t.Fatalf("%d, fates %d, %d: %.80q; not %.80q", number, fate, tear, l, now)
				}
			}
		}
	}
}
