package tree_test

import (
	"slices"
	"strings"
	"testing"

	"whisk/api"
	"whisk/tree"
)

// R1

// most levels in one another are promised something.
const most = 1 << 16

// held answers a node of this kind, named x, that holds itself in these places among its Kids, and a file f in the others.
func held(kind int, places ...bool) api.Node {
	n := api.Node{Name: "x", Kind: kind, Kids: make([]api.Node, len(places))}
	for i, holds := range places {
		n.Kids[i] = file("f", "")
		if holds {
			n.Kids[i] = n
		}
	}
	return n
}

// A directory that holds itself is deeper than any.
func TestDirectoriesWithoutEnd(t *testing.T) {
	for _, n := range []api.Node{
		held(api.KindDir, true),
		held(api.KindDir, slices.Repeat([]bool{true}, 300)...),
		held(api.KindDir, false, true, false, true, true),
		dir("x", file("f", ""), held(api.KindDir, false, true)),
	} {
		isChecked(t, n, api.ErrLong)
		isSized(t, n, 0, 0)
		isDeep(t, n, 14)
		isSame(t, n, n, false)
		isSame(t, n, example(), false)
		isEach(t, n)
		isMissing(t, n, "y")
		isMissing(t, n, strings.Repeat("x/", 1000)+"y")
		for _, path := range []string{"", "x", "x/x", strings.Repeat("x/", 1000) + "x"} {
			if got, ok := tree.Find(n, path); !ok || got.Name != "x" || got.Kind != api.KindDir || len(got.Kids) == 0 {
				t.Errorf("Find(.., %.20q) = %q, %v", path, got.Name, ok)
			}
		}
		// In what is no directory it counts for nothing.
		in := api.Node{Kind: api.KindFile, Data: "ab", Kids: []api.Node{file("a", "c"), n, file("z", "d")}}
		isChecked(t, in, api.ErrArg)
		isSized(t, in, 3, 4)
		isDeep(t, in, 1)
		isSame(t, in, in, false)
		isEach(t, in)
		isSized(t, dir("", in), 4, 4)
		isEach(t, dir("", in), "")
	}
}

// What is no directory has no depth, though it holds itself; the calls end all the same.
func TestOthersWithoutEnd(t *testing.T) {
	turn := api.Node{Name: "x", Kind: api.KindFile, Kids: []api.Node{dir("x", api.Node{})}}
	turn.Kids[0].Kids[0] = turn // a file in a directory in the file
	for _, n := range []api.Node{
		held(api.KindFile, true),
		held(api.KindLink, slices.Repeat([]bool{true}, 300)...),
		held(0, false, true, false, true, true),
		turn,
	} {
		isChecked(t, n, api.ErrArg)
		isChecked(t, dir("", n), api.ErrArg)
		isSized(t, n, 0, 0)
		isSized(t, dir("", n), 0, 0)
		isDeep(t, n, 1)
		isDeep(t, dir("", n), 2)
		isSame(t, n, n, false)
		isSame(t, n, example(), false)
		isEach(t, n)
		isEach(t, dir("", n), "x")
		isMissing(t, n, "x")
		isMissing(t, dir("", n), "x/x")
		for path, name := range map[string]string{"": "n", "x": "x"} {
			if got, ok := tree.Find(dir("n", n), path); !ok || got.Name != name {
				t.Errorf("Find(.., %q) = %q, %v", path, got.Name, ok)
			}
		}
	}
}

// So many levels as are promised something are gone through, each once.
func TestManyLevels(t *testing.T) {
	n := filesIn(most-1, file("f", "abc"))
	isSized(t, n, most, 3)
	isDeep(t, n, 1)
	isChecked(t, n, api.ErrArg)
	isSame(t, n, n, true)
	isSame(t, n, filesIn(most-1, file("f", "abd")), false)
	isEach(t, n)
	isFound(t, n, "", n)

	n = chain(most)
	isSized(t, n, 0, 0)
	isDeep(t, n, 14)
	isChecked(t, n, api.ErrLong)
	isSame(t, n, n, false)
	isEach(t, n)
	isFound(t, n, "", n)
	isFound(t, n, strings.Repeat("d/", most-2)+"d", dir("d"))
}

// R5

// change writes over all that n has.
func change(n api.Node) {
	for i := range n.Kids {
		change(n.Kids[i])
		n.Kids[i] = api.Node{Name: "changed", Kids: []api.Node{{}}}
	}
}

// What is handed in stays as it is, and what is found is new, however deep.
func TestNothingIsShared(t *testing.T) {
	for _, make := range []func() api.Node{
		example,
		func() api.Node { return chain(12, file("f", "g")) },
		func() api.Node { return chain(50, file("f", "g"), dir("g", link("h", "i"))) },
		func() api.Node { return dir("", filesIn(20, file("f", "g"))) },
		func() api.Node { return chain(most, file("f", "g")).Kids[0] }, // as many levels as are promised something
	} {
		n := make()
		tree.Check(n)
		tree.Size(n)
		tree.Deep(n)
		tree.Same(n, make())
		paths := tree.Each(n)
		for _, path := range append(paths, "", "d", "d/d", "d/d/d") {
			found, ok := tree.Find(n, path)
			if !ok {
				continue
			}
			want := copied(found)
			change(found)
			if !alike(n, make()) {
				t.Fatalf("%s: changed through what was found at %q", show(n), path)
			}
			m := make()
			found, _ = tree.Find(m, path)
			change(m)
			if !alike(found, want) {
				t.Fatalf("%s: what was found at %q is changed through it", show(n), path)
			}
		}
		for i := range paths {
			paths[i] = ""
		}
		if !alike(n, make()) {
			t.Errorf("%s: changed", show(n))
		}
	}
}

// No two lists of what is found are one, though two of what is asked are.
func TestListsOfTheirOwn(t *testing.T) {
	kids := []api.Node{file("f", "")}
	found, _ := tree.Find(dir("", dir("a", kids...), dir("b", kids...)), "")
	found.Kids[0].Kids[0].Name = "changed"
	found.Kids[0].Kids = append(found.Kids[0].Kids, file("g", ""))
	isFound(t, found, "b", dir("b", file("f", "")))
	if kids[0].Name != "f" {
		t.Error("changed through what was found")
	}
}
