package localtree

import (
	"aquifer/api"
	"aquifer/content"
	"aquifer/inode"
	"aquifer/path"
	"aquifer/table"
)

// check tells an error, or OK.
type check func() api.Errno

// told tells the first error of a chain of checks: behind one that tells an error none is made.
func told(checks ...check) api.Errno {
	for _, c := range checks {
		if e := c(); e != api.OK {
			return e
		}
	}
	return api.OK
}

// unless tells an error, unless something is right.
func unless(right bool, e api.Errno) check {
	return func() api.Errno {
		if right {
			return api.OK
		}
		return e
	}
}

// isOpen tells whether the transaction can be asked. Its other errors are told where something is asked of it.
func isOpen(t *table.Txn) check {
	return func() api.Errno {
		_, _, e := t.Get(api.TbNode, nil)
		return unless(e != api.ErrNil && e != api.ErrDown, e)()
	}
}

// spot is a path, and what is there, as far as a check has looked for it.
type spot struct {
	t    *table.Txn
	p    string
	node api.Inode // of Kind 0, where nothing is
}

// isPath tells the own errors of a path, whatever its kind.
func (x *spot) isPath() check {
	return func() api.Errno {
		_, e := path.Kind(x.p)
		return e
	}
}

// isDir tells the own errors of what must be a directory's path.
func (x *spot) isDir() check {
	return x.isOf(api.PaDir, api.ErrFile)
}

// isFile tells the own errors of what must be a file's path.
func (x *spot) isFile() check {
	return x.isOf(api.PaFile, api.ErrDir)
}

func (x *spot) isOf(kind int, otherwise api.Errno) check {
	return func() api.Errno {
		is, e := path.Kind(x.p)
		if e != api.OK {
			return e
		}
		return unless(is == kind, otherwise)()
	}
}

// isLookedFor looks for what is at the path.
func (x *spot) isLookedFor() check {
	return func() (e api.Errno) {
		x.node, e = nodeAt(x.t, x.p)
		return e
	}
}

// isThere looks for what must be at the path.
func (x *spot) isThere() check {
	return func() api.Errno {
		return told(x.isLookedFor(), func() api.Errno { return unless(x.node.Kind != 0, api.ErrNone)() })
	}
}

// isFree looks for what must not be at the path.
func (x *spot) isFree() check {
	return func() api.Errno {
		return told(x.isLookedFor(), func() api.Errno { return unless(x.node.Kind == 0, api.ErrExist)() })
	}
}

// hasParent tells whether the directory is there that the path lies in.
func (x *spot) hasParent() check {
	up, _ := path.Parent(x.p)
	above := spot{t: x.t, p: up}
	return above.isThere()
}

// isBare tells whether nothing lies below what was found.
func (x *spot) isBare() check {
	return func() api.Errno {
		items, e := itemsAt(x.t, x.p)
		if e != api.OK {
			return e
		}
		return unless(len(items) <= 1, api.ErrBusy)()
	}
}

// isHydrated tells whether the file that was found has its bytes here.
func (x *spot) isHydrated() check {
	return func() api.Errno { return unless(!inode.Hollow(x.node), api.ErrHollow)() }
}

// isHollow tells whether the file that was found is a placeholder.
func (x *spot) isHollow() check {
	return func() api.Errno { return unless(inode.Hollow(x.node), api.ErrState)() }
}

// mayBeHollow tells whether the file that was found may be made a placeholder: without a version its bytes would be nowhere.
func (x *spot) mayBeHollow() check {
	return func() api.Errno { return unless(!inode.Hollow(x.node) && x.node.Version != 0, api.ErrState)() }
}

// bytes tells the bytes of the file that was found.
func (x *spot) bytes() (string, api.Errno) {
	return content.All(x.t, x.node.Content, x.node.Size)
}

// mayMove tells whether one path may become the other one, as far as the paths alone tell it. The root may not: each path is the root, or lies below it.
func mayMove(from, to string) bool {
	a, _ := path.Kind(from)
	b, _ := path.Kind(to)
	return a == b && to != from && !path.Below(from, to)
}

// isStamp tells whether n may be a version, or a time.
func isStamp(n, least int) bool {
	return n >= least && n <= api.MaxTime
}
