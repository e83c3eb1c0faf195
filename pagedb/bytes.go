package pagedb

import (
	"strings"

	"aquifer/api"
	"aquifer/page"
)

// numberSize is how many bytes a number has, the lowest first.
const numberSize = 4

// maxRoot is the greatest number that a root may be.
const maxRoot = 1<<31 - 1

// frameExtra is how many bytes the log needs for a record beside its own.
const frameExtra = 8

// entrySize is how many bytes a page has in a record: its number, and it.
const entrySize = numberSize + api.PageSize

// What page 0 has: its kind, and how its body begins.
const (
	ownKind = 1
	ownMark = "AQDB"
)

// ownSize is how many bytes the body of page 0 has: behind the mark there stand the high mark, how many pages are free, the last one of them, and the roots.
const ownSize = len(ownMark) + (3+api.MaxRoots)*numberSize

// state is what page 0 tells.
type state struct {
	high  int // the first page that was never allocated
	free  int // how many pages are free
	last  int // the page that came free last; 0: none is free
	roots [api.MaxRoots]int
}

// sound tells whether a database of so many pages may be so.
func (s state) sound(count int) bool {
	for _, n := range s.roots {
		if n > maxRoot {
			return false
		}
	}
	return s.high <= count && s.free < s.high && s.last < s.high && (s.free == 0) == (s.last == 0)
}

// sheet tells what page 0 has in that state.
func (s state) sheet() sheet {
	body := ownMark + numberText(s.high) + numberText(s.free) + numberText(s.last)
	for _, n := range s.roots {
		body += numberText(n)
	}
	return sheet{ownKind, body}
}

// readState tells the state of which a sheet is, if it is that of page 0 in a database of so many pages.
func readState(has sheet, count int) (state, bool) {
	if has.kind != ownKind || len(has.body) != ownSize || !strings.HasPrefix(has.body, ownMark) {
		return state{}, false
	}
	var numbers [3 + api.MaxRoots]int
	for i := range numbers {
		numbers[i] = number(has.body[len(ownMark)+i*numberSize:])
	}
	s := state{high: numbers[0], free: numbers[1], last: numbers[2]}
	copy(s.roots[:], numbers[3:])
	return s, s.sound(count)
}

// freeSheet tells what a free page has: the number of the one that came free ahead of it (0: none).
func freeSheet(ahead int) sheet {
	return sheet{api.KdFree, numberText(ahead)}
}

// readFree tells that number, if the sheet is a free page's.
func readFree(has sheet) (ahead int, isFree bool) {
	if has.kind != api.KdFree || len(has.body) != numberSize {
		return 0, false
	}
	return number(has.body), true
}

// recordSize tells how many bytes a record of so many pages has.
func recordSize(pages int) int {
	return numberSize + entrySize*pages
}

// recordText tells the record of pages, in the order of their numbers. It begins with the log's size: whoever opens the disk with another one must not take these pages to the places that they would have then.
func recordText(log int, pages map[int]sheet) string {
	var b strings.Builder
	b.WriteString(numberText(log))
	for _, id := range rising(pages) {
		b.WriteString(numberText(id))
		b.WriteString(sealed(id, pages[id]))
	}
	return b.String()
}

// readRecord tells the pages of a record, if it is one of a database of so many pages behind a log of that size.
func readRecord(rec string, log, count int) (map[int]sheet, bool) {
	if len(rec)%entrySize != numberSize || number(rec) != log {
		return nil, false
	}
	pages := map[int]sheet{}
	for rest := rec[numberSize:]; rest != ""; rest = rest[entrySize:] {
		id := number(rest)
		kind, body, e := page.Open(id, rest[numberSize:entrySize])
		if id >= count || e != api.OK {
			return nil, false
		}
		pages[id] = sheet{kind, body}
	}
	return pages, true
}

// sealed tells a page's bytes. What a page of the database has is never refused.
func sealed(id int, has sheet) string {
	s, _ := page.Seal(id, has.kind, has.body)
	return s
}

// isRoot tells whether there is such a root.
func isRoot(i int) bool {
	return i >= 0 && i < api.MaxRoots
}

// numberText tells a number's bytes.
func numberText(n int) string {
	var b [numberSize]byte
	for i := range b {
		b[i] = byte(n >> (8 * i))
	}
	return string(b[:])
}

// number tells the number with whose bytes a text begins.
func number(s string) int {
	n := 0
	for i := range numberSize {
		n |= int(s[i]) << (8 * i)
	}
	return n
}
