package inode

import (
	"strings"

	"whisk/api"
)

const (
	stroke = "/"
	nought = "\x00"
)

// need is what must hold ahead of a change: it answers the error, if it does not. One that asks about an inode is asked only behind those that make sure of it.
type need func() api.Errno

// first answers the error of the first need that does not hold.
func first(needs ...need) api.Errno {
	for _, holds := range needs {
		if e := holds(); e != api.OK {
			return e
		}
	}
	return api.OK
}

// unless answers this error, if a thing does not hold.
func unless(holds bool, e api.Errno) api.Errno {
	if holds {
		return api.OK
	}
	return e
}

// isTable is met by each table that New made.
func (t *Table) isTable() api.Errno {
	return unless(!t.isNone(), api.ErrNil)
}

// has: there is such an inode.
func (t *Table) has(ino int) need {
	return func() api.Errno {
		_, ok := t.at(ino)
		return unless(ok, api.ErrNone)
	}
}

// isDir: there is such an inode, and it is a directory.
func (t *Table) isDir(ino int) need {
	return func() api.Errno {
		isDir := func() api.Errno {
			_, ok := t.dir(ino)
			return unless(ok, api.ErrNotDir)
		}
		return first(t.has(ino), isDir)
	}
}

// isFile: there is such an inode, and it is a file.
func (t *Table) isFile(ino int) need {
	return func() api.Errno {
		isKind := func() api.Errno {
			switch t.inodes[ino].Kind {
			case api.KindDir:
				return api.ErrDir
			case api.KindLink:
				return api.ErrArg
			}
			return api.OK
		}
		return first(t.has(ino), isKind)
	}
}

// place: something may lie in this directory, under this name, if it is free.
func (t *Table) place(dir int, name string) need {
	return func() api.Errno {
		isShort := func() api.Errno { return unless(len(name) <= api.MaxName, api.ErrLong) }
		isName := func() api.Errno { return unless(nameMayBe(name), api.ErrArg) }
		return first(t.isDir(dir), isShort, isName)
	}
}

// isFree: the directory does not have this name.
func (t *Table) isFree(dir int, name string) need {
	return func() api.Errno {
		_, there := t.Find(dir, name)
		return unless(!there, api.ErrThere)
	}
}

// hasEntry: the directory has this name.
func (t *Table) hasEntry(dir int, name string) need {
	return func() api.Errno {
		_, there := t.Find(dir, name)
		return unless(there, api.ErrNone)
	}
}

// isNotInUse: the entry does not name a directory that has entries.
func (t *Table) isNotInUse(dir int, name string) need {
	return func() api.Errno {
		ino, _ := t.Find(dir, name)
		return unless(len(t.inodes[ino].entries) == 0, api.ErrInUse)
	}
}

// isNotAbove: the entry names neither the directory to, nor one in which that lies.
func (t *Table) isNotAbove(to, dir int, name string) need {
	return func() api.Errno {
		ino, _ := t.Find(dir, name)
		at := to
		for at != ino && at != root {
			at = t.inodes[at].up
		}
		return unless(at != ino, api.ErrArg)
	}
}

// hasRoom: with so many more, no more is used than the quota.
func (t *Table) hasRoom(inodes, bytes int) need {
	return func() api.Errno {
		fits := inodes <= t.quota.Inodes-len(t.inodes) && bytes <= t.quota.Bytes-t.bytes
		return unless(fits, api.ErrFull)
	}
}

// isMode: it is a mode.
func isMode(mode int) need {
	return func() api.Errno { return unless(0 <= mode && mode <= maxMode, api.ErrArg) }
}

// isInode: there may be an inode like that.
func isInode(kind, mode int, data string) need {
	return func() api.Errno {
		isKind := func() api.Errno { return unless(dataMayBe(kind, data), api.ErrArg) }
		return first(isMode(mode), isKind)
	}
}

// nameMayBe tells whether an entry may have this name; it is not too long.
func nameMayBe(name string) bool {
	return name != "" && name != "." && name != ".." && !strings.ContainsAny(name, stroke+nought)
}

// dataMayBe tells whether this is a kind, and may have this data.
func dataMayBe(kind int, data string) bool {
	switch kind {
	case api.KindFile:
		return true
	case api.KindDir:
		return data == ""
	case api.KindLink:
		return data != "" && len(data) <= api.MaxPath && !strings.Contains(data, nought)
	}
	return false
}
