package btree

import (
	"slices"
	"strings"

	"aquifer/api"
)

const (
	idSize   = 4 // bytes of a page's number
	partSize = api.MaxBody - idSize
)

// link is a page of a chain.
type link struct {
	id, next int
	text     string
}

// Value tells a cell's value.
func (x *Tree) Value(c api.Cell) (string, api.Errno) {
	if e := x.ready(); e != api.OK {
		return "", e
	}
	if c.Over == 0 {
		return strings.Clone(c.Val), api.OK
	}
	links, e := x.chain(c)
	if e != api.OK {
		return "", e
	}
	var b strings.Builder
	for _, l := range links {
		b.WriteString(l.text)
	}
	return b.String(), api.OK
}

// chain tells the pages in which a cell's value lies.
func (x *Tree) chain(c api.Cell) ([]link, api.Errno) {
	var links []link
	rest := c.Len
	for id := c.Over; id != 0; {
		l, e := x.link(id)
		rest -= len(l.text)
		switch {
		case e != api.OK:
			return nil, e
		case rest < 0 || slices.ContainsFunc(links, func(l link) bool { return l.id == id }):
			return nil, api.ErrForm
		}
		links = append(links, l)
		id = l.next
	}
	if rest != 0 {
		return nil, api.ErrForm
	}
	return links, api.OK
}

// link tells a page of a chain.
func (x *Tree) link(id int) (link, api.Errno) {
	body, e := x.body(id, api.KdOver)
	if e != api.OK {
		return link{}, e
	}
	if len(body) < idSize {
		return link{}, api.ErrForm
	}
	next := 0
	for i := range idSize {
		next |= int(body[i]) << (8 * i)
	}
	return link{id, next, body[idSize:]}, api.OK
}

// bytes tells a page's body, with the lowest byte of the next one's number first.
func (l link) bytes() string {
	b := make([]byte, 0, idSize+len(l.text))
	for i := range idSize {
		b = append(b, byte(l.next>>(8*i)))
	}
	return string(append(b, l.text...))
}

// parts cuts a value into the texts of a chain's pages.
func parts(val string) []string {
	var all []string
	for len(val) > partSize {
		all = append(all, val[:partSize])
		val = val[partSize:]
	}
	return append(all, val)
}
