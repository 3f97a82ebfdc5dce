package disk_test

import (
	"strings"
	"testing"

	"whisk/api"
	"whisk/disk"
)

// mirror is a disk once more, as the chapter's words tell it: all writes are kept, each byte of a sector is looked for among them.
type mirror struct {
	sectors int
	writes  []mirrored
	on      bool
	fuse    int
	ops     uint64
}

// mirrored is a write: of its bytes the first so many tell, flushed or not.
type mirrored struct {
	at      int
	s       string
	tell    int
	flushed bool
}

// byteAt answers the byte that the last write tells; of what was flushed, if that is asked.
func (m *mirror) byteAt(at, place int, flushed bool) byte {
	for i := len(m.writes) - 1; i >= 0; i-- {
		w := m.writes[i]
		if w.at == at && place < w.tell && (w.flushed || !flushed) {
			return w.s[place]
		}
	}
	return 0
}

// bytesAt answers the sector's bytes.
func (m *mirror) bytesAt(at int) string {
	b := make([]byte, 128)
	for place := range b {
		b[place] = m.byteAt(at, place, false)
	}
	return string(b)
}

// operation answers what an operation comes to that answers this error with the power on.
func (m *mirror) operation(refused api.Errno) api.Errno {
	if refused != api.OK {
		return refused
	}
	if !m.on {
		return api.ErrOff
	}
	m.ops++
	if m.fuse == 1 {
		m.off()
		return api.ErrOff
	}
	if m.fuse > 1 {
		m.fuse--
	}
	return api.OK
}

func (m *mirror) off() {
	m.on, m.fuse = false, 0
}

// refused answers what is wrong with these arguments.
func (m *mirror) refused(at int, s string) api.Errno {
	if at < 0 || at >= m.sectors {
		return api.ErrArg
	}
	if len(s) > 128 {
		return api.ErrLong
	}
	return api.OK
}

func (m *mirror) write(at int, s string) api.Errno {
	e := m.operation(m.refused(at, s))
	if e == api.OK {
		m.writes = append(m.writes, mirrored{at: at, s: sector(s), tell: 128})
	}
	return e
}

func (m *mirror) flush() api.Errno {
	e := m.operation(api.OK)
	for i := range m.writes {
		m.writes[i].flushed = m.writes[i].flushed || e == api.OK
	}
	return e
}

func (m *mirror) wake(fates []uint8) {
	if m.on {
		return
	}
	m.on = true
	for i := range m.writes {
		w := &m.writes[i]
		if w.flushed {
			continue
		}
		fate := 0
		if len(fates) > 0 {
			fate, fates = int(fates[0]), fates[1:]
		}
		w.flushed = true
		if fate < 64 {
			w.tell = 0
		} else if fate >= 128 {
			w.tell = fate - 127
		}
	}
}

// source is numbers that hang on the one it begins with alone.
type source uint64

// below answers one below n.
func (s *source) below(n int) int {
	*s = *s*6364136223846793005 + 1442695040888963407
	return int(uint64(*s) >> 33 % uint64(n))
}

// text answers bytes of which hardly any two texts have the same at one place.
func (s *source) text() string {
	size := 128
	if s.below(2) == 0 {
		size = s.below(131)
	}
	b := make([]byte, size)
	for i := range b {
		b[i] = byte(s.below(256))
	}
	return string(b)
}

// fates answers some, of all kinds.
func (s *source) fates() []uint8 {
	l := make([]uint8, s.below(8))
	for i := range l {
		l[i] = uint8(s.below(256))
	}
	return l
}

// step does one thing, to both, and fails the test unless they answer the same.
func step(t *testing.T, d *disk.Disk, m *mirror, from *source) {
	t.Helper()
	at := from.below(m.sectors+2) - 1
	switch from.below(12) {
	case 0, 1, 2, 3, 4:
		s := from.text()
		isWritten(t, d, at, s, m.write(at, s))
	case 5, 6, 7:
		e := m.operation(m.refused(at, ""))
		if e == api.OK {
			isRead(t, d, at, m.bytesAt(at))
		} else {
			isNotRead(t, d, at, e)
		}
	case 8:
		isFlushed(t, d, m.flush())
	case 9:
		ops := from.below(12) - 2
		d.Arm(ops)
		if m.on {
			m.fuse = max(ops, 0)
		}
	case 10:
		if from.below(4) == 0 {
			d.Off()
			m.off()
		}
	case 11:
		l := from.fates()
		d.Wake(l)
		m.wake(l)
	}
	isCounted(t, d, m.ops, m.on)
}

// P4.1 to P4.4, whatever comes behind what.

func TestAsMirrored(t *testing.T) {
	for seed := range 400 {
		from := source(seed)
		sectors := 1 + from.below(4)
		d, m := disk.New(sectors), &mirror{sectors: sectors, on: true}
		for range 150 {
			step(t, d, m, &from)
		}
		if t.Failed() {
			t.Fatalf("seed %d", seed)
		}
	}
}

// P4.5

// some answers a disk on which things were done, and what was not flushed.
func some(t *testing.T, from *source) (d *disk.Disk, flushed []string, waiting [][]string) {
	t.Helper()
	d = disk.New(3)
	flushed, waiting = make([]string, 3), make([][]string, 3)
	for at := range flushed {
		flushed[at] = sector(strings.Repeat(string(rune('a'+at)), 100))
		isWritten(t, d, at, flushed[at], api.OK)
	}
	isFlushed(t, d, api.OK)
	for range from.below(10) {
		at, s := from.below(2), sector(strings.Repeat(string(rune('d'+from.below(20))), from.below(129))) // the last sector is left alone
		isWritten(t, d, at, s, api.OK)
		waiting[at] = append(waiting[at], s)
	}
	return d, flushed, waiting
}

// told tells whether the byte at this place is that of one of the sectors.
func told(b byte, place int, sectors []string) bool {
	for _, s := range sectors {
		if s[place] == b {
			return true
		}
	}
	return false
}

func TestWhatWakes(t *testing.T) {
	for seed := range 500 {
		from := source(seed)
		d, flushed, waiting := some(t, &from)
		cut(d, from.fates()...)
		for at := range flushed {
			s, e := d.Read(at)
			if e != api.OK || len(s) != 128 {
				t.Fatalf("seed %d: Read(%d): %d bytes, %v", seed, at, len(s), e)
			}
			for place := range len(s) {
				if !told(s[place], place, append(waiting[at], flushed[at])) {
					t.Fatalf("seed %d: Read(%d): %q at %d, which nothing told", seed, at, s[place], place)
				}
			}
			cut(d, 64, 255, 130) // nothing was written since
			isRead(t, d, at, s)
		}
	}
}

// What was flushed, and not written anew, stays through whatever comes.
func TestFlushedStays(t *testing.T) {
	d := disk.New(3)
	isWritten(t, d, 1, "kept", api.OK)
	isFlushed(t, d, api.OK)
	for seed := range 300 {
		from := source(seed)
		for range from.below(6) {
			isWritten(t, d, from.below(2)*2, row("x", from.below(129)), api.OK)
		}
		d.Arm(1 + from.below(3))
		for d.On() {
			d.Flush()
		}
		d.Wake(from.fates())
		isRead(t, d, 1, sector("kept"))
	}
}
