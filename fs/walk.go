package fs

import (
	"iter"
	"slices"
	"strings"

	"whisk/api"
)

const (
	stroke = "/" // between a path's names
	here   = "."
	above  = ".."
	nought = "\x00"
)

// step is one of a way: a name, and which inode it leads to.
type step struct {
	name string
	ino  int // 0: nothing lies there
}

// place is where a path ends.
type place struct {
	api.Inode        // of what lies there; without a Kind: nothing does
	way       []step // from the root on, through directories alone, to what lies there
	named     bool   // by its path it is a directory and a name, not a directory itself
}

// walk is a path that is being gone.
type walk struct {
	*Fs
	way   []step // to where one stands
	named bool
	hops  int // links that were followed
}

// at goes a path, and hands what lies at its end to do.
func (f *Fs) at(cwd, path string, follow bool, do func(p place) api.Errno) api.Errno {
	if f.isNone() {
		return api.ErrNil
	}
	w := walk{Fs: f, way: []step{{ino: f.Root()}}}
	e := w.begin(cwd, path)
	if e == api.OK {
		e = w.along(path)
	}
	if e == api.OK && follow {
		e = w.follow()
	}
	if e != api.OK {
		return e
	}
	return do(place{w.stands(), w.way, w.named})
}

// atBoth goes two paths, and hands what lies at their ends to do. No last name is followed.
func (f *Fs) atBoth(cwd, from, to string, do func(a, b place) api.Errno) api.Errno {
	return f.at(cwd, from, false, func(a place) api.Errno {
		return f.at(cwd, to, false, func(b place) api.Errno {
			return do(a, b)
		})
	})
}

// begin goes, from the root, to where the path begins.
func (w *walk) begin(cwd, path string) api.Errno {
	switch {
	case path == "":
		return api.ErrNone
	case strings.HasPrefix(path, stroke):
		return api.OK
	case !strings.HasPrefix(cwd, stroke):
		return api.ErrNone
	}
	if e := w.along(cwd); e != api.OK {
		return e
	}
	if e := w.enter(); e != api.OK {
		return e
	}
	w.hops = 0
	return api.OK
}

// along goes a path, from the directory at which one stands, to where it lies.
func (w *walk) along(path string) api.Errno {
	switch {
	case len(path) > api.MaxPath:
		return api.ErrLong
	case strings.Contains(path, nought):
		return api.ErrArg
	}
	if strings.HasPrefix(path, stroke) {
		w.way = w.way[:1]
	}
	w.named = false
	for name := range steps(path) {
		if e := w.take(name); e != api.OK {
			return e
		}
	}
	return api.OK
}

// steps tells the names of a path that count for something.
func steps(path string) iter.Seq[string] {
	return func(yield func(name string) bool) {
		for more := true; more; {
			var name string
			name, path, more = strings.Cut(path, stroke)
			if name != "" && name != here && !yield(name) {
				return
			}
		}
	}
}

// take goes a step. What it leads to is looked at by the next one: if there is none, it was the last name, at which nothing need lie.
func (w *walk) take(name string) api.Errno {
	if e := w.enter(); e != api.OK {
		return e
	}
	if name == above {
		w.way = w.way[:max(1, len(w.way)-1)]
		w.named = false
		return api.OK
	}
	if len(name) > api.MaxName {
		return api.ErrLong
	}
	ino, _ := w.Find(last(w.way).ino, name)
	w.way = append(w.way, step{name, ino})
	w.named = true
	return api.OK
}

// enter makes sure that one stands at a directory, and follows a link to it.
func (w *walk) enter() api.Errno {
	if e := w.follow(); e != api.OK {
		return e
	}
	switch w.stands().Kind {
	case 0:
		return api.ErrNone
	case api.KindDir:
		return api.OK
	}
	return api.ErrNotDir
}

// follow goes on, as long as one stands at a link.
func (w *walk) follow() api.Errno {
	for w.stands().Kind == api.KindLink {
		if w.hops == api.MaxHops {
			return api.ErrLoop
		}
		w.hops++
		target := w.stands().Data
		w.way = w.way[:len(w.way)-1] // to the directory in which the link lies
		if e := w.along(target); e != api.OK {
			return e
		}
	}
	return api.OK
}

// stands answers what is told of what one stands at; without a Kind: nothing lies there.
func (w *walk) stands() api.Inode {
	one, _ := w.Node(last(w.way).ino)
	return one
}

// last answers the last step of a way.
func last(way []step) step {
	return way[len(way)-1]
}

func (p place) isThere() bool {
	return p.Kind != 0
}

func (p place) isDir() bool {
	return p.Kind == api.KindDir
}

// ino answers which inode lies there; 0: none.
func (p place) ino() int {
	return last(p.way).ino
}

// name answers the last name of what is named.
func (p place) name() string {
	return last(p.way).name
}

// dir answers the directory in which that lies.
func (p place) dir() int {
	return last(p.way[:len(p.way)-1]).ino
}

// liesIn tells whether it lies in this inode, or deeper in it.
func (p place) liesIn(ino int) bool {
	return slices.ContainsFunc(p.way[:len(p.way)-1], func(s step) bool { return s.ino == ino })
}

// isTooDeep tells whether one of so many directories in one another would lie too deep, if they were laid there.
func (p place) isTooDeep(levels int) bool {
	return len(p.way)-1+levels > api.MaxDeep
}

// path answers the path from the root.
func (p place) path() string {
	if len(p.way) == 1 {
		return stroke
	}
	var path strings.Builder
	for _, s := range p.way[1:] {
		path.WriteString(stroke + s.name)
	}
	return path.String()
}
