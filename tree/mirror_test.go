package tree_test

import (
	"slices"
	"strings"
	"testing"

	"whisk/api"
	"whisk/tree"
)

// The chapter's words once more, said plainly, for nodes without Kids that hold themselves.

// below answers all levels of n, from it on, as far as they are directories'.
func below(n api.Node) [][]api.Node {
	levels := [][]api.Node{{n}}
	for {
		var next []api.Node
		for _, one := range levels[len(levels)-1] {
			if one.Kind == 2 {
				next = append(next, one.Kids...)
			}
		}
		if len(next) == 0 {
			return levels
		}
		levels = append(levels, next)
	}
}

func wordDeep(n api.Node) int {
	return min(14, len(below(n)))
}

// wordMay tells whether a node may be, by the errors it has.
func wordMay(n api.Node) bool {
	faults := 0
	fault := func(is bool) {
		if is {
			faults++
		}
	}
	fault(n.Kind < 1 || n.Kind > 3)
	fault(n.Kind != 1 && n.Exec)
	fault(n.Kind != 2 && len(n.Kids) > 0)
	fault(n.Kind == 2 && len(n.Data) > 0)
	fault(n.Kind == 3 && (len(n.Data) < 1 || len(n.Data) > 255 || strings.IndexByte(n.Data, 0) >= 0))
	if n.Kind == 2 {
		for i, kid := range n.Kids {
			fault(!wordMay(kid))
			fault(len(kid.Name) < 1 || len(kid.Name) > 56)
			fault(kid.Name == "." || kid.Name == "..")
			fault(strings.ContainsRune(kid.Name, '/') || strings.ContainsRune(kid.Name, 0))
			fault(i > 0 && slices.Compare([]byte(n.Kids[i-1].Name), []byte(kid.Name)) != -1)
		}
	}
	return faults == 0
}

func wordSize(n api.Node) (inodes, bytes int) {
	if wordDeep(n) > 12 {
		return 0, 0
	}
	inodes, bytes = 1, len(n.Data)
	for _, kid := range n.Kids {
		i, b := wordSize(kid)
		inodes, bytes = inodes+i, bytes+b
	}
	return inodes, bytes
}

func wordCheck(n api.Node) api.Errno {
	inodes, bytes := wordSize(n)
	switch {
	case wordDeep(n) > 12:
		return 3
	case n.Name != "", !wordMay(n):
		return 2
	case inodes > 2000, bytes > 100000:
		return 3
	}
	return 0
}

func wordSame(a, b api.Node) bool {
	if wordDeep(a) > 12 || wordDeep(b) > 12 || len(a.Kids) != len(b.Kids) {
		return false
	}
	for i := range a.Kids {
		if !wordSame(a.Kids[i], b.Kids[i]) {
			return false
		}
	}
	return a.Name == b.Name && a.Kind == b.Kind && a.Exec == b.Exec && a.Data == b.Data
}

// wordWays answers the names by which each node that n has is reached, in order.
func wordWays(n api.Node) [][]string {
	if n.Kind != 2 || wordDeep(n) > 12 {
		return nil
	}
	var l [][]string
	for _, kid := range n.Kids {
		l = append(l, []string{kid.Name})
		for _, way := range wordWays(kid) {
			l = append(l, append([]string{kid.Name}, way...))
		}
	}
	return l
}

func wordEach(n api.Node) []string {
	var l []string
	for _, way := range wordWays(n) {
		l = append(l, strings.Join(way, "/"))
	}
	return l
}

func wordFind(n api.Node, path string) (api.Node, bool) {
	if path == "" {
		return n, true
	}
	name, left, more := strings.Cut(path, "/")
	if name == "" || n.Kind != 2 {
		return api.Node{}, false
	}
	for _, kid := range n.Kids {
		switch {
		case kid.Name != name:
		case !more:
			return kid, true
		case left == "":
			return api.Node{}, false
		default:
			return wordFind(kid, left)
		}
	}
	return api.Node{}, false
}

// source is numbers that hang on the one it begins with alone.
type source uint64

// below answers one below n.
func (s *source) below(n int) int {
	*s = *s*6364136223846793005 + 1442695040888963407
	return int(uint64(*s) >> 33 % uint64(n))
}

// among answers one of these.
func (s *source) among(l ...string) string {
	return l[s.below(len(l))]
}

// tree answers one that may be, at most so deep.
func (s *source) tree(name string, deep int) api.Node {
	switch s.below(4) {
	case 0:
		return api.Node{Name: name, Kind: api.KindFile, Exec: s.below(2) > 0, Data: row(s.below(9))}
	case 1:
		return link(name, s.among("a", "../a", "/", row(255)))
	}
	n := dir(name)
	names := []string{" ", "-", "...", "A", "a", "a ", "a!", "aa", "b", row(56), "\x80", "\xff"}
	for _, kid := range names {
		if deep > 1 && s.below(5) == 0 {
			n.Kids = append(n.Kids, s.tree(kid, deep-1))
		}
	}
	return n
}

// spoil answers n, other in some place, so that it may be no longer.
func (s *source) spoil(n api.Node) api.Node {
	n = copied(n)
	if len(n.Kids) > 0 && s.below(4) > 0 {
		i := s.below(len(n.Kids))
		n.Kids[i] = s.spoil(n.Kids[i])
		return n
	}
	switch s.below(9) {
	case 0:
		n.Name = s.among("", "a", ".", "..", "a/b", "b\x00", row(56), row(57))
	case 1:
		n.Kind = s.below(7) - 1
	case 2:
		n.Exec = !n.Exec
	case 3:
		n.Data = s.among("", "a", "\x00", row(255), row(256), row(100001))
	case 4:
		n.Kids = append(n.Kids, s.tree(s.among("", "a", "b", "z"), 3))
	case 5:
		n.Kids = append([]api.Node{s.tree(s.among("", "a", "b", "z"), 3)}, n.Kids...)
	case 6:
		slices.Reverse(n.Kids)
	case 7:
		n.Kids = append(n.Kids, chain(s.below(16)+1))
	case 8:
		n.Kids = append(n.Kids, copied(n)) // a copy, since Go 1.27.3 appends an n here that holds itself
	}
	return n
}

// isAsTheWordsSay fails the test unless all calls answer so.
func isAsTheWordsSay(t *testing.T, n api.Node, more ...string) {
	t.Helper()
	isChecked(t, n, wordCheck(n))
	inodes, bytes := wordSize(n)
	isSized(t, n, inodes, bytes)
	isDeep(t, n, wordDeep(n))
	isEach(t, n, wordEach(n)...)
	for _, path := range append(wordEach(n), more...) {
		if want, ok := wordFind(n, path); ok {
			isFound(t, n, path, want)
		} else {
			isMissing(t, n, path)
		}
	}
}

func TestAsTheWordsSay(t *testing.T) {
	from := source(6)
	for range 4000 {
		n := from.tree("", 5)
		for range from.below(14) * from.below(2) {
			n.Name = "d"
			n = dir("", n, file("f", ""))
		}
		other := n
		for range from.below(4) {
			other = from.spoil(other)
		}
		isAsTheWordsSay(t, n, "", "/", "a", "a/", "a/b", "d/f", "d/d/d")
		isAsTheWordsSay(t, other, "", "/", "a", "a/", "a/b", "d/f", "d/d/d")
		isSame(t, n, copied(n), wordSame(n, n))
		isSame(t, other, copied(other), wordSame(other, other))
		isSame(t, n, other, wordSame(n, other))
		if t.Failed() {
			return
		}
	}
}

// P6.5

// isWhole fails the test unless each path of a tree that may be is found, each another one, as many as Size says, and rising.
func isWhole(t *testing.T, n api.Node) {
	t.Helper()
	isChecked(t, n, api.OK)
	l := tree.Each(n)
	if inodes, _ := tree.Size(n); len(l) != inodes-1 {
		t.Errorf("%s: %d paths, %d nodes", show(n), len(l), inodes)
	}
	bytes := len(n.Data)
	for i, path := range l {
		one, ok := tree.Find(n, path)
		if names := strings.Split(path, "/"); !ok || one.Name != names[len(names)-1] {
			t.Errorf("%s: %q is %s, %v", show(n), path, show(one), ok)
		}
		bytes += len(one.Data)
		if i > 0 && slices.Compare(strings.Split(l[i-1], "/"), strings.Split(path, "/")) >= 0 {
			t.Errorf("%s: %q, then %q", show(n), l[i-1], path)
		}
	}
	if _, want := tree.Size(n); bytes != want {
		t.Errorf("%s: what the paths reach has %d bytes, not %d", show(n), bytes, want)
	}
}

func TestPathsOfTrees(t *testing.T) {
	for _, n := range []api.Node{example(), file("", ""), link("", "a"), dir(""), dir("", many(1999)...), chain(12), chain(11, many(1989)...)} {
		isWhole(t, n)
	}
	from := source(65)
	for range 3000 {
		isWhole(t, from.tree("", 2+from.below(8)))
	}
}

// Each path of a tree reaches a node of its own: one that is changed there alone is found there, and on the way to it, alone.
func TestPathsReachOthers(t *testing.T) {
	from := source(650)
	for range 300 {
		n := from.tree("", 5)
		l := tree.Each(n)
		for _, path := range l {
			m := marked(n, strings.Split(path, "/"))
			for _, other := range l {
				a, _ := tree.Find(n, other)
				b, _ := tree.Find(m, other)
				ahead := path == other || strings.HasPrefix(path, other+"/")
				if tree.Same(a, b) == ahead {
					t.Fatalf("%s: %q, marked at %q: %v", show(n), other, path, !ahead)
				}
			}
		}
	}
}

// marked answers n, with the node that these names reach marked.
func marked(n api.Node, names []string) api.Node {
	if len(names) == 0 {
		n.Data += "\x00mark"
		return n
	}
	n.Kids = slices.Clone(n.Kids)
	for i, kid := range n.Kids {
		if kid.Name == names[0] {
			n.Kids[i] = marked(kid, names[1:])
		}
	}
	return n
}
