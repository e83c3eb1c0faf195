package inode

import (
	"aquifer/api"
	"aquifer/field"
)

// The tags of a record's fields.
const (
	tagKind = 1 + iota
	tagSize
	tagSum
	tagContent
	tagVersion
	tagOpened
)

// record is the fields of an inode, or of what is archived.
type record []api.Field

// putNum puts a number into the record: one that is 0 has no field.
func (r *record) putNum(tag, n int) {
	if n != 0 {
		*r = field.Put(*r, api.Field{Tag: tag, Kind: api.FdNum, N: n})
	}
}

// putSum puts a digest into the record, whatever its bytes are.
func (r *record) putSum(sum [32]byte) {
	*r = field.Put(*r, api.Field{Tag: tagSum, Kind: api.FdText, S: string(sum[:])})
}

// num tells the number of that tag, 0 if it has none.
func (r record) num(tag int) int {
	n, _ := field.Num(r, tag)
	return n
}

// sum tells the digest, as far as the record has one: of a text of another length what fits.
func (r record) sum() [32]byte {
	var sum [32]byte
	s, _ := field.Text(r, tagSum)
	copy(sum[:], s)
	return sum
}
