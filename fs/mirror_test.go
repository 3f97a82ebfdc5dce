package fs_test

import (
	"maps"
	"slices"
	"strings"
	"testing"

	"whisk/api"
	"whisk/fs"
	"whisk/tree"
)

// The chapter's words once more, said plainly: paths in a map, and a list of names that are still to be gone, ahead of which a link's are put.

// thing lies at a path, or, of files, at several.
type thing struct {
	kind, mode int
	data       string
}

// words is a file system by the chapter's words.
type words struct {
	quota  api.Quota
	things map[string]*thing // by their real paths; the root's is empty
}

func newWords(q api.Quota) *words {
	return &words{q, map[string]*thing{"": {kind: 2, mode: 493}}}
}

// up answers the path without its last name; of the root the root.
func up(path string) string {
	return path[:max(0, strings.LastIndexByte(path, '/'))]
}

// counts tells whether one of these names counts for something.
func counts(names []string) bool {
	return slices.ContainsFunc(names, func(name string) bool { return name != "" && name != "." })
}

func (w *words) kind(path string) int {
	if one := w.things[path]; one != nil {
		return one.kind
	}
	return 0
}

// from answers where a path begins.
func (w *words) from(cwd, path string) (string, api.Errno) {
	if path == "" {
		return "", 5
	}
	if path[0] == '/' {
		return "", 0
	}
	if cwd == "" || cwd[0] != '/' {
		return "", 5
	}
	at, _, e := w.gone(cwd, cwd, true)
	switch {
	case e != 0:
		return "", e
	case w.kind(at) == 0:
		return "", 5
	case w.kind(at) != 2:
		return "", 8
	}
	return at, 0
}

// gone answers the real path to which a path leads, and whether that has a last name.
func (w *words) gone(cwd, path string, follow bool) (at string, named bool, e api.Errno) {
	at, e = w.from(cwd, path)
	switch {
	case e != 0:
		return "", false, e
	case len(path) > 255:
		return "", false, 3
	case strings.IndexByte(path, 0) >= 0:
		return "", false, 2
	}
	hops := 0
	for names := strings.Split(path, "/"); counts(names); {
		name := names[0]
		names = names[1:]
		there := at + "/" + name
		more := counts(names)
		switch {
		case !counts([]string{name}):
		case w.kind(at) != 2:
			return "", false, 8
		case name == "..":
			at, named = up(at), false
		case len(name) > 56:
			return "", false, 3
		case w.kind(there) == 0 && more:
			return "", false, 5
		case w.kind(there) == 3 && (more || follow):
			if hops++; hops > 8 {
				return "", false, 9
			}
			target := w.things[there].data
			names, named = append(strings.Split(target, "/"), names...), false
			if target[0] == '/' {
				at = ""
			}
		default:
			at, named = there, true
		}
	}
	return at, named, 0
}

func (w *words) links(one *thing) int {
	links := 0
	for _, other := range w.things {
		if other == one {
			links++
		}
	}
	return links
}

func (w *words) used() api.Quota {
	var q api.Quota
	seen := map[*thing]bool{}
	for _, one := range w.things {
		if !seen[one] {
			seen[one] = true
			q.Inodes++
			q.Bytes += len(one.data)
		}
	}
	return q
}

// full answers the error, if so many more are too many.
func (w *words) full(inodes, bytes int) api.Errno {
	if q := w.used(); q.Inodes+inodes > w.quota.Inodes || q.Bytes+bytes > w.quota.Bytes {
		return 10
	}
	return 0
}

// below answers the paths of what lies in a directory, however deep, rising.
func (w *words) below(path string) []string {
	var l []string
	for other := range w.things {
		if strings.HasPrefix(other, path+"/") {
			l = append(l, other)
		}
	}
	slices.Sort(l)
	return l
}

func (w *words) real(cwd, path string) (string, api.Errno) {
	at, _, e := w.gone(cwd, path, true)
	switch {
	case e != 0:
		return "", e
	case w.kind(at) == 0:
		return "", 5
	case at == "":
		return "/", 0
	}
	return at, 0
}

func (w *words) stat(cwd, path string, follow bool) (api.Inode, api.Errno) {
	at, _, e := w.gone(cwd, path, follow)
	switch {
	case e != 0:
		return api.Inode{}, e
	case w.kind(at) == 0:
		return api.Inode{}, 5
	}
	one := w.things[at]
	return api.Inode{Kind: one.kind, Mode: one.mode, Data: one.data, Links: w.links(one)}, 0
}

func (w *words) read(cwd, path string) (string, api.Errno) {
	at, _, e := w.gone(cwd, path, true)
	switch {
	case e != 0:
		return "", e
	case w.kind(at) == 0:
		return "", 5
	case w.kind(at) == 2:
		return "", 7
	}
	return w.things[at].data, 0
}

func (w *words) list(cwd, path string) ([]string, api.Errno) {
	at, _, e := w.gone(cwd, path, true)
	switch {
	case e != 0:
		return nil, e
	case w.kind(at) == 0:
		return nil, 5
	case w.kind(at) != 2:
		return nil, 8
	}
	var l []string
	for _, one := range w.below(at) {
		if name := one[len(at)+1:]; !strings.Contains(name, "/") {
			l = append(l, name)
		}
	}
	slices.Sort(l)
	return l, 0
}

func (w *words) write(cwd, path, data string, more bool) api.Errno {
	at, _, e := w.gone(cwd, path, true)
	if e != 0 {
		return e
	}
	if w.kind(at) == 2 {
		return 7
	}
	if w.kind(at) == 0 {
		if e = w.full(1, len(data)); e == 0 {
			w.things[at] = &thing{1, 420, data}
		}
		return e
	}
	one := w.things[at]
	if more {
		data = one.data + data
	}
	if e = w.full(0, len(data)-len(one.data)); e == 0 {
		one.data = data
	}
	return e
}

func (w *words) chmod(cwd, path string, mode int) api.Errno {
	if mode < 0 || mode > 511 {
		return 2
	}
	at, _, e := w.gone(cwd, path, true)
	if e == 0 && w.kind(at) == 0 {
		e = 5
	}
	if e == 0 {
		w.things[at].mode = mode
	}
	return e
}

// laid lays things at paths at which nothing lies, if there is room for all, and none of the directories is too deep.
func (w *words) laid(l map[string]*thing) api.Errno {
	bytes := 0
	for path, one := range l {
		if one.kind == 2 && strings.Count(path, "/")+1 > 12 {
			return 3
		}
		bytes += len(one.data)
	}
	if e := w.full(len(l), bytes); e != 0 {
		return e
	}
	maps.Copy(w.things, l)
	return 0
}

func (w *words) mkdir(cwd, path string) api.Errno {
	at, _, e := w.gone(cwd, path, false)
	if e == 0 && w.kind(at) != 0 {
		e = 6
	}
	if e == 0 {
		e = w.laid(map[string]*thing{at: {2, 493, ""}})
	}
	return e
}

func (w *words) symlink(cwd, target, path string) api.Errno {
	if len(target) < 1 || len(target) > 255 || strings.IndexByte(target, 0) >= 0 {
		return 2
	}
	at, _, e := w.gone(cwd, path, false)
	if e == 0 && w.kind(at) != 0 {
		e = 6
	}
	if e == 0 {
		e = w.laid(map[string]*thing{at: {3, 511, target}})
	}
	return e
}

// both answers the real paths of two.
func (w *words) both(cwd, from, to string) (a, b string, named bool, e api.Errno) {
	a, one, e := w.gone(cwd, from, false)
	if e != 0 {
		return "", "", false, e
	}
	b, other, e := w.gone(cwd, to, false)
	return a, b, one && other, e
}

func (w *words) hard(cwd, from, to string) api.Errno {
	a, b, _, e := w.both(cwd, from, to)
	switch {
	case e != 0:
		return e
	case w.kind(a) == 0:
		return 5
	case w.kind(a) == 2:
		return 7
	case w.kind(a) == 3:
		return 2
	case w.kind(b) != 0:
		return 6
	}
	w.things[b] = w.things[a]
	return 0
}

func (w *words) remove(cwd, path string) api.Errno {
	at, named, e := w.gone(cwd, path, false)
	switch {
	case e != 0:
		return e
	case w.kind(at) == 0:
		return 5
	case !named:
		return 2
	case len(w.below(at)) > 0:
		return 20
	}
	delete(w.things, at)
	return 0
}

func (w *words) rename(cwd, from, to string) api.Errno {
	a, b, named, e := w.both(cwd, from, to)
	switch {
	case e != 0:
		return e
	case !named:
		return 2
	case w.kind(a) == 0:
		return 5
	case w.things[a] == w.things[b]:
		return 0
	case w.kind(b) == 2 && w.kind(a) != 2:
		return 7
	case w.kind(a) == 2 && w.kind(b) != 2 && w.kind(b) != 0:
		return 8
	case len(w.below(b)) > 0:
		return 20
	case strings.HasPrefix(b, a+"/"):
		return 2
	}
	moved := append(w.below(a), a)
	for _, path := range moved {
		if w.kind(path) == 2 && strings.Count(b+path[len(a):], "/")+1 > 12 {
			return 3
		}
	}
	for _, path := range moved {
		w.things[b+path[len(a):]] = w.things[path]
		delete(w.things, path)
	}
	return 0
}

func (w *words) lay(path string, n api.Node) api.Errno {
	if e := tree.Check(n); e != 0 {
		return e
	}
	at, _, e := w.gone("/", path, false)
	switch {
	case e != 0:
		return e
	case w.kind(at) != 0:
		return 6
	}
	l := map[string]*thing{}
	for _, below := range append([]string{""}, tree.Each(n)...) {
		one, _ := tree.Find(n, below)
		mode := []int{1: 420, 2: 493, 3: 511}[one.Kind]
		if one.Exec {
			mode = 493
		}
		l[strings.TrimSuffix(at+"/"+below, "/")] = &thing{one.Kind, mode, one.Data}
	}
	return w.laid(l)
}

// source is numbers that hang on the one it begins with alone.
type source uint64

// below answers one below n.
func (s *source) below(n int) int {
	*s = *s*6364136223846793005 + 1442695040888963407
	return int(uint64(*s) >> 33 % uint64(n))
}

// name answers one, of which few are odd.
func (s *source) name() string {
	if s.below(25) == 0 {
		return []string{row(56), row(57), "c\x00", "...", ""}[s.below(5)]
	}
	return []string{"a", "b", "c", "d", "..", "a", "b", "."}[s.below(8)]
}

// path answers one that leads somewhere, or maybe not.
func (s *source) path(w *words) string {
	switch s.below(40) {
	case 0:
		return []string{"", "/", ".", "..", "//", row(256), "/\x00"}[s.below(7)]
	case 1:
		return strings.Repeat("/", 253+s.below(3)) + "a/"
	}
	path := s.name()
	if s.below(3) > 0 {
		path = s.known(w)
	}
	for range s.below(3) {
		path += "/" + s.name()
	}
	return path
}

// known answers the path of something that is there, from the root, or without its first names.
func (s *source) known(w *words) string {
	l := slices.Sorted(maps.Keys(w.things))
	path := l[s.below(len(l))]
	if s.below(3) > 0 {
		return path + "/"
	}
	names := strings.Split(path, "/")
	return strings.Join(names[s.below(len(names)):], "/")
}

// tree answers one, of which few may not be.
func (s *source) tree(levels int) api.Node {
	switch s.below(12) {
	case 0:
		return link("", row(s.below(3)))
	case 1:
		return tool("", row(s.below(30)))
	case 2, 3:
		return file("", row(s.below(30)))
	}
	n := folder("")
	for _, name := range []string{"a", "b", "c"} {
		if levels > 0 && s.below(2) == 0 {
			kid := s.tree(levels - 1)
			kid.Name = name
			n.Kids = append(n.Kids, kid)
		}
	}
	return n
}

// act does the same call with both, and fails the test unless they answer the same.
func act(t *testing.T, s *source, f *fs.Fs, w *words) {
	t.Helper()
	cwd, a, b := "/", s.path(w), s.path(w)
	if s.below(2) == 0 {
		cwd = s.path(w)
	}
	var call string
	var got, want api.Errno
	switch s.below(14) {
	case 0, 1:
		data, more := row(s.below(20)), s.below(2) == 0
		call, got, want = "Write", f.Write(cwd, a, data, more), w.write(cwd, a, data, more)
	case 2, 3, 4:
		call, got, want = "Mkdir", f.Mkdir(cwd, a), w.mkdir(cwd, a)
	case 5:
		call, got, want = "Remove", f.Remove(cwd, a), w.remove(cwd, a)
	case 6, 7:
		call, got, want = "Rename", f.Rename(cwd, a, b), w.rename(cwd, a, b)
	case 8, 9, 10:
		call, got, want = "Symlink", f.Symlink(cwd, b, a), w.symlink(cwd, b, a)
	case 11:
		call, got, want = "Hard", f.Hard(cwd, a, b), w.hard(cwd, a, b)
	case 12:
		mode := s.below(520) - 4
		call, got, want = "Chmod", f.Chmod(cwd, a, mode), w.chmod(cwd, a, mode)
	case 13:
		n := s.tree(1 + s.below(6))
		call, got, want = "Lay", f.Lay(a, n), w.lay(a, n)
	}
	if got != want {
		t.Errorf("%s %q %q %q: %v, not %v", call, cwd, a, b, got, want)
	}
}

// ask asks both the same, and fails the test unless they answer the same.
func ask(t *testing.T, cwd, path string, f *fs.Fs, w *words) {
	t.Helper()
	real, e := w.real(cwd, path)
	isReal(t, f, cwd, path, real, e)
	data, e := w.read(cwd, path)
	isRead(t, f, cwd, path, data, e)
	l, e := w.list(cwd, path)
	hasNames(t, f, cwd, path, e, l...)
	for _, follow := range []bool{false, true} {
		one, e := w.stat(cwd, path, follow)
		isStat(t, f, cwd, path, follow, one, e)
	}
}

// P8.7: isWhole fails the test unless what is used is what the entries have that are reached, and the root is above all.
func isWhole(t *testing.T, f *fs.Fs) {
	t.Helper()
	entries, bytes := map[int]int{}, map[int]int{} // by how many links an inode has
	for dirs := []string{"/"}; len(dirs) > 0; dirs = dirs[1:] {
		dir := dirs[0]
		isReal(t, f, dir, strings.Repeat("../", strings.Count(dir, "/")), "/", api.OK)
		names, e := f.List(dir, ".")
		must(t, e)
		for _, name := range names {
			one, e := f.Stat(dir, name, false)
			must(t, e)
			entries[one.Links]++
			bytes[one.Links] += len(one.Data)
			if one.Kind == api.KindDir {
				dirs = append(dirs, dir+name+"/")
			}
		}
	}
	inodes, all := 1, 0
	for links := range entries {
		inodes += entries[links] / links
		all += bytes[links] / links
	}
	isUsed(t, f, inodes, all)
}

func TestAsTheWordsSay(t *testing.T) {
	from := source(8)
	for range 300 {
		q := api.Quota{Inodes: 1 + from.below(60), Bytes: from.below(40) * from.below(40)}
		f, w := system(t, q.Inodes, q.Bytes), newWords(q)
		for range 80 {
			act(t, &from, f, w)
			ask(t, from.path(w), from.path(w), f, w)
			ask(t, "/", from.path(w), f, w)
			isUsed(t, f, w.used().Inodes, w.used().Bytes)
			if t.Failed() {
				return
			}
		}
		for path := range w.things {
			ask(t, "", path, f, w)
			ask(t, "/", "/"+path, f, w)
		}
		isWhole(t, f)
		if t.Failed() {
			return
		}
	}
}
