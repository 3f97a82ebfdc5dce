package nar_test

import (
	"slices"
	"testing"

	"whisk/api"
	"whisk/nar"
	"whisk/tree"
)

// The chapter's words once more, said plainly.

// wordNum answers the bytes of n.
func wordNum(n int) string {
	s := string([]byte{byte(n % 128)})
	for n /= 128; n > 0; n /= 128 {
		s = string([]byte{byte(n%128 + 128)}) + s
	}
	return s
}

func wordText(s string) string {
	return wordNum(len(s)) + s
}

// wordNode answers the bytes of n.
func wordNode(n api.Node) string {
	s := wordNum(n.Kind)
	switch {
	case n.Kind == 1 && n.Exec:
		return s + wordNum(1) + wordText(n.Data)
	case n.Kind == 1:
		return s + wordNum(0) + wordText(n.Data)
	case n.Kind == 3:
		return s + wordText(n.Data)
	}
	s += wordNum(len(n.Kids))
	for _, kid := range n.Kids {
		s += wordText(kid.Name) + wordNode(kid)
	}
	return s
}

// cutNum answers the number that s begins with, and what is behind it; below 0: none, or one that says more than bytes can be.
func cutNum(s string) (int, string) {
	for size := 1; size <= min(4, len(s)); size++ {
		if s[size-1] >= 128 {
			continue
		}
		n := 0
		for i := range size {
			n = n*128 + int(s[i])%128
		}
		if wordNum(n) == s[:size] {
			return n, s[size:]
		}
		return -1, ""
	}
	return -1, ""
}

func cutText(s string) (string, string, bool) {
	size, s := cutNum(s)
	if size < 0 || size > len(s) {
		return "", "", false
	}
	return s[:size], s[size:], true
}

// cutNode answers the node whose bytes s begins with, and what is behind them.
func cutNode(s string) (n api.Node, behind string, ok bool) {
	n.Kind, s = cutNum(s)
	switch n.Kind {
	case 1:
		exec, behind := cutNum(s)
		if exec < 0 || exec > 1 {
			return n, "", false
		}
		n.Exec = exec == 1
		n.Data, s, ok = cutText(behind)
		return n, s, ok
	case 3:
		n.Data, s, ok = cutText(s)
		return n, s, ok
	case 2:
		kids, s := cutNum(s)
		for range kids {
			var kid api.Node
			var name string
			if name, s, ok = cutText(s); !ok {
				return n, "", false
			}
			if kid, s, ok = cutNode(s); !ok {
				return n, "", false
			}
			kid.Name = name
			n.Kids = append(n.Kids, kid)
		}
		return n, s, kids >= 0
	}
	return n, "", false
}

// wordTree answers the tree that may be whose bytes s is.
func wordTree(s string) (api.Node, bool) {
	name, s, ok := cutText(s)
	if !ok || name != "whisk-tree" || len(wordText(name)+s) > 60000 {
		return api.Node{}, false
	}
	n, s, ok := cutNode(s)
	return n, ok && s == "" && tree.Check(n) == api.OK
}

// source is numbers that hang on the one it begins with alone.
type source uint64

// below answers one below n.
func (s *source) below(n int) int {
	*s = *s*6364136223846793005 + 1442695040888963407
	return int(uint64(*s) >> 33 % uint64(n))
}

// among answers one of these.
func (s *source) among(l ...string) string {
	return l[s.below(len(l))]
}

// tree answers one that may be, at most so deep.
func (s *source) tree(name string, deep int) api.Node {
	switch s.below(4) {
	case 0:
		n := file(name, s.among("", "x", "\x00", "\x80\x01", head, row(127), row(128), row(300)))
		if s.below(200) == 0 {
			n.Data = row(16380 + s.below(30000))
		}
		n.Exec = s.below(2) > 0
		return n
	case 1:
		return link(name, s.among("a", "../a", "/", "\x01\x00", "\x80")[:1]+row(s.below(255)))
	}
	n := dir(name)
	for _, kid := range []string{"\x01", " ", "-", "...", "A", "a", "a ", "aa", "b", row(56), "\x80", "\xff"} {
		if deep > 1 && s.below(4) == 0 {
			n.Kids = append(n.Kids, s.tree(kid, deep-1))
		}
	}
	return n
}

// spoil answers these bytes, other in some places.
func (s *source) spoil(bytes string) string {
	l := []byte(bytes)
	for range 1 + s.below(2) {
		at := s.below(len(l))
		if s.below(2) > 0 { // where numbers are likely to stand
			at = min(at, len(head)+s.below(30), len(l)-1)
		}
		b := byte(s.below(256))
		switch s.below(7) {
		case 0:
			l[at] = b
		case 1:
			l[at]++
		case 2:
			l[at]--
		case 3:
			l[at] ^= 1 << (b % 8)
		case 4:
			l = slices.Insert(l, at, b)
		case 5:
			l = slices.Delete(l, at, at+1)
		case 6:
			l[at] = byte(s.below(5))
		}
	}
	return string(l)
}

// P9.3

// A tree comes back from its bytes.
func TestTreesComeBack(t *testing.T) {
	from := source(1)
	for range 1500 {
		n := from.tree("", 1+from.below(12))
		s := wordText("whisk-tree") + wordNode(n)
		if tree.Check(n) != api.OK || len(s) > 60000 {
			isNotLaid(t, n, api.ErrLong)
			isNotTaken(t, s)
			continue
		}
		isLaid(t, n, s)
		isTaken(t, s, n)
		m, _ := nar.Decode(s)
		if !tree.Same(m, n) {
			t.Errorf("%s: another tree came back", show(n))
		}
		isLaid(t, m, s)
	}
}

// Whatever is taken, laid again, is the same; and just what the words say is taken.
func TestBytesComeBack(t *testing.T) {
	from, taken, refused := source(2), 0, 0
	for range 40000 {
		n := from.tree("", 1+from.below(5))
		s := from.spoil(wordText("whisk-tree") + wordNode(n))
		want, ok := wordTree(s)
		if !ok {
			isNotTaken(t, s)
			refused++
			continue
		}
		isTaken(t, s, want)
		isLaid(t, want, s)
		taken++
	}
	if taken < 5000 || refused < 5000 {
		t.Errorf("%d taken, %d refused: the bytes tell too little", taken, refused)
	}
}

// Two trees have the same bytes just if they are the same.
func TestOtherTreesOtherBytes(t *testing.T) {
	var l []api.Node
	for _, data := range []string{"", "a", "b", "ab", "\x00"} {
		l = append(l, file("", data), run("", data))
	}
	for _, data := range []string{"a", "b", "ab"} {
		l = append(l, link("", data))
	}
	l = append(l, dir(""))
	in := func(names ...string) {
		for i, a := range l[:14] { // those without Kids
			for j, b := range l[:14] {
				a.Name, b.Name = names[0], names[len(names)-1]
				n := dir("a", a, b)
				if len(names) == 1 {
					n.Kids = n.Kids[:1]
				}
				if len(names) == 2 || i == j {
					l = append(l, dir("", n.Kids...), dir("", n))
				}
			}
		}
	}
	in("a")
	in("b")
	in("ab")
	in("a", "b")
	in("a", "ab")
	of := map[string]api.Node{}
	for _, n := range l {
		s, e := nar.Encode(n)
		if e != api.OK {
			t.Fatalf("%s: %v", show(n), e)
		}
		if m, there := of[s]; there != tree.Same(m, n) {
			t.Errorf("%s and %s: the same bytes", show(m), show(n))
		}
		of[s] = n
	}
	if want := 14 + 2*(3*14+2*14*14); len(of) != want {
		t.Errorf("%d bytes, not %d", len(of), want)
	}
}

// short are the bytes of which those of TestAllShortBytes are.
const short = "\x00\x01\x02\x03a.\x80\x81"

// Of all rows of up to six bytes behind the head just those are taken that the words say.
func TestAllShortBytes(t *testing.T) {
	taken := 0
	var try func(s string, more int)
	try = func(s string, more int) {
		n, e := nar.Decode(s)
		want, ok := wordTree(s)
		switch {
		case !ok && (e != api.ErrForm || !isZero(n)), ok && (e != api.OK || !alike(n, want)):
			t.Errorf("Decode(%x) = %s, %v", s, show(n), e)
		case ok:
			isLaid(t, n, s)
			taken++
		}
		if more == 0 {
			return
		}
		for i := range len(short) {
			try(s+short[i:i+1], more-1)
		}
	}
	try(head, 6)
	// Files of up to three bytes, of two kinds; links of one to three, none of them a nought; a directory without Kids, and those with one, whose name is no point and no nought.
	if want := 2*(1+8+64+512) + (7 + 49 + 343) + 1 + 6; taken != want {
		t.Errorf("%d taken, not %d", taken, want)
	}
}
