package inode_test

import (
	"slices"
	"strings"
	"testing"

	"whisk/api"
	"whisk/inode"
)

// The chapter's words once more, said plainly: entries in a list, from which all else is told.

// entry names an inode.
type entry struct {
	dir  int
	name string
	ino  int
}

// words is a table by the chapter's words. Links are told by the entries.
type words struct {
	quota   api.Quota
	inodes  []api.Inode // by their numbers; Kind 0: there is none
	entries []entry
}

func newWords(q api.Quota) *words {
	return &words{quota: q, inodes: []api.Inode{{}, {Kind: 2, Mode: 493}}}
}

func (w *words) kind(ino int) int {
	if ino < 0 || ino >= len(w.inodes) {
		return 0
	}
	return w.inodes[ino].Kind
}

func (w *words) find(dir int, name string) int {
	for _, one := range w.entries {
		if one.dir == dir && one.name == name {
			return one.ino
		}
	}
	return 0
}

func (w *words) names(dir int) []string {
	var l []string
	for _, one := range w.entries {
		if one.dir == dir {
			l = append(l, one.name)
		}
	}
	slices.Sort(l)
	return l
}

func (w *words) links(ino int) int {
	links := 0
	if ino == 1 {
		links = 1
	}
	for _, one := range w.entries {
		if one.ino == ino {
			links++
		}
	}
	return links
}

func (w *words) up(dir int) int {
	if dir == 1 {
		return 1
	}
	for _, one := range w.entries {
		if one.ino == dir && w.kind(dir) == 2 {
			return one.dir
		}
	}
	return 0
}

func (w *words) used() api.Quota {
	var q api.Quota
	for _, one := range w.inodes {
		if one.Kind > 0 {
			q.Inodes++
			q.Bytes += len(one.Data)
		}
	}
	return q
}

// place answers the errors of a place but the last ones.
func (w *words) place(dir int, name string) api.Errno {
	switch {
	case w.kind(dir) == 0:
		return 5
	case w.kind(dir) != 2:
		return 8
	case len(name) > 56:
		return 3
	case len(name) == 0, name == ".", name == "..":
		return 2
	}
	for _, c := range []byte(name) {
		if c == 0 || c == '/' {
			return 2
		}
	}
	return 0
}

func (w *words) make(dir int, name string, kind, mode int, data string) (int, api.Errno) {
	used := w.used()
	e := w.place(dir, name)
	switch {
	case e != 0:
		return 0, e
	case kind < 1, kind > 3, mode < 0, mode > 511, kind == 2 && data != "":
		return 0, 2
	case kind == 3 && (len(data) < 1 || len(data) > 255 || strings.IndexByte(data, 0) >= 0):
		return 0, 2
	case w.find(dir, name) != 0:
		return 0, 6
	case used.Inodes+1 > w.quota.Inodes, used.Bytes+len(data) > w.quota.Bytes:
		return 0, 10
	}
	w.inodes = append(w.inodes, api.Inode{Kind: kind, Mode: mode, Data: data})
	w.entries = append(w.entries, entry{dir, name, len(w.inodes) - 1})
	return len(w.inodes) - 1, 0
}

func (w *words) link(dir int, name string, ino int) api.Errno {
	e := w.place(dir, name)
	switch {
	case e != 0:
		return e
	case w.kind(ino) == 0:
		return 5
	case w.kind(ino) == 2:
		return 7
	case w.kind(ino) == 3:
		return 2
	case w.find(dir, name) != 0:
		return 6
	}
	w.entries = append(w.entries, entry{dir, name, ino})
	return 0
}

func (w *words) unlink(dir int, name string) api.Errno {
	ino := w.find(dir, name)
	switch {
	case w.kind(dir) == 0:
		return 5
	case w.kind(dir) != 2:
		return 8
	case ino == 0:
		return 5
	case len(w.names(ino)) > 0:
		return 20
	}
	w.entries = slices.DeleteFunc(w.entries, func(one entry) bool { return one == entry{dir, name, ino} })
	if w.links(ino) == 0 {
		w.inodes[ino] = api.Inode{}
	}
	return 0
}

func (w *words) move(from int, name string, to int, as string) api.Errno {
	ino, e := w.find(from, name), w.place(to, as)
	switch {
	case w.kind(from) == 0:
		return 5
	case w.kind(from) != 2:
		return 8
	case e != 0:
		return e
	case ino == 0:
		return 5
	case from == to && name == as:
		return 0
	case w.find(to, as) != 0:
		return 6
	}
	for dir := to; dir != 1; dir = w.up(dir) {
		if dir == ino {
			return 2
		}
	}
	for i, one := range w.entries {
		if one.dir == from && one.name == name {
			w.entries[i] = entry{to, as, ino}
		}
	}
	return 0
}

func (w *words) write(ino int, data string) api.Errno {
	switch {
	case w.kind(ino) == 0:
		return 5
	case w.kind(ino) == 2:
		return 7
	case w.kind(ino) == 3:
		return 2
	case w.used().Bytes-len(w.inodes[ino].Data)+len(data) > w.quota.Bytes:
		return 10
	}
	w.inodes[ino].Data = data
	return 0
}

func (w *words) chmod(ino, mode int) api.Errno {
	switch {
	case mode < 0, mode > 511:
		return 2
	case w.kind(ino) == 0:
		return 5
	}
	w.inodes[ino].Mode = mode
	return 0
}

// source is numbers that hang on the one it begins with alone.
type source uint64

// below answers one below n.
func (s *source) below(n int) int {
	*s = *s*6364136223846793005 + 1442695040888963407
	return int(uint64(*s) >> 33 % uint64(n))
}

// name answers one, of which few may not be.
func (s *source) name() string {
	if s.below(12) == 0 {
		return []string{"", ".", "..", "a/b", "c\x00", row(56), row(57)}[s.below(7)]
	}
	return []string{"a", "b", "B", "c"}[s.below(4)]
}

// mode answers one, of which few may not be.
func (s *source) mode() int {
	return s.below(520) - 4
}

// data answers some bytes, of which few are many.
func (s *source) data() string {
	switch s.below(12) {
	case 0:
		return row(255 + s.below(2))
	case 1:
		return "a\x00"
	}
	return row(s.below(9))
}

// act does the same call with both, and fails the test unless they answer the same.
func act(t *testing.T, s *source, x *inode.Table, w *words) {
	t.Helper()
	ino := func() int { return s.below(len(w.inodes)+2) - 1 }
	kind, mode, data := 1+s.below(3)*s.below(5)/3, s.mode(), s.data()
	if kind == api.KindDir && s.below(6) > 0 {
		data = ""
	}
	a, b, name, as := ino(), ino(), s.name(), s.name()
	var got, want api.Errno
	var call string
	switch s.below(11) {
	case 0, 1, 2, 3:
		n, e := x.Make(a, name, kind, mode, data)
		m, f := w.make(a, name, kind, mode, data)
		if n != m {
			t.Errorf("Make: %d, not %d", n, m)
		}
		call, got, want = "Make", e, f
	case 4:
		call, got, want = "Link", x.Link(a, name, b), w.link(a, name, b)
	case 5, 6:
		call, got, want = "Unlink", x.Unlink(a, name), w.unlink(a, name)
	case 7, 8:
		call, got, want = "Move", x.Move(a, name, b, as), w.move(a, name, b, as)
	case 9:
		call, got, want = "Write", x.Write(a, data), w.write(a, data)
	case 10:
		call, got, want = "Chmod", x.Chmod(a, mode), w.chmod(a, mode)
	}
	if got != want {
		t.Errorf("%s(%d, %q, %d, %q; %d, %d, %q): %v, not %v", call, a, name, b, as, kind, mode, data, got, want)
	}
}

// areAlike fails the test unless both tell the same.
func areAlike(t *testing.T, x *inode.Table, w *words) {
	t.Helper()
	isUsed(t, x, w.used().Inodes, w.used().Bytes)
	for ino := -1; ino <= len(w.inodes); ino++ {
		isUp(t, x, ino, w.up(ino))
		hasNames(t, x, ino, w.names(ino)...)
		for _, name := range []string{"a", "b", "B", "c", "", ".", ".."} {
			isFound(t, x, ino, name, w.find(ino, name))
		}
		if w.kind(ino) == 0 {
			isGone(t, x, ino)
			continue
		}
		want := w.inodes[ino]
		want.Links = w.links(ino)
		isNode(t, x, ino, want)
	}
}

// P7.7: isWhole fails the test unless all that the table has, and nothing else, is reached from the root, as it must be.
func isWhole(t *testing.T, x *inode.Table) {
	t.Helper()
	ways := map[int]int{1: 1}
	dirs := []int{1}
	for len(dirs) > 0 {
		dir := dirs[0]
		dirs = dirs[1:]
		for _, name := range x.Names(dir) {
			ino, ok := x.Find(dir, name)
			if ways[ino]++; !ok || ino == 0 {
				t.Errorf("%q in %d is none", name, dir)
			}
			if one, _ := x.Node(ino); one.Kind == api.KindDir && ways[ino] == 1 {
				dirs = append(dirs, ino)
				isUp(t, x, ino, dir)
			}
		}
	}
	bytes := 0
	for ino, links := range ways {
		one, ok := x.Node(ino)
		if !ok || one.Links != links || one.Kind != api.KindFile && links != 1 {
			t.Errorf("%d is reached on %d ways: %+v, %v", ino, links, one, ok)
		}
		bytes += len(one.Data)
	}
	isUsed(t, x, len(ways), bytes)
	for dir := range ways {
		at := dir
		for range ways {
			if x.Up(at) != 0 {
				at = x.Up(at)
			}
		}
		if one, _ := x.Node(dir); one.Kind == api.KindDir && at != 1 {
			t.Errorf("from %d, %d is above all", dir, at)
		}
	}
}

func TestAsTheWordsSay(t *testing.T) {
	from := source(7)
	for range 400 {
		q := api.Quota{Inodes: 1 + from.below(14), Bytes: from.below(30) * from.below(30)}
		x, w := table(t, q.Inodes, q.Bytes), newWords(q)
		for range 60 {
			act(t, &from, x, w)
			areAlike(t, x, w)
			isWhole(t, x)
			if t.Failed() {
				return
			}
		}
		if x.Quota() != q {
			t.Fatalf("%+v, not %+v", x.Quota(), q)
		}
	}
}
