package cache

import (
	"signet/api"
)

// entry is a reference that is not none, and the block that it says.
type entry struct {
	ref          api.Ref
	block        api.Block
	older, newer *entry // those that were used next ahead of it and next behind it
}

// entries is entries by their references, and in the order in which they were used.
type entries struct {
	all            map[api.Ref]*entry
	oldest, newest *entry
}

// none is no entries.
func none() entries {
	return entries{all: map[api.Ref]*entry{}}
}

// use is the block of a reference's entry, if there is one, which is used by that.
func (l *entries) use(r api.Ref) (api.Block, bool) {
	e, is := l.all[r]
	if !is {
		return api.Block{}, false
	}
	l.unlink(e)
	l.link(e)
	return e.block, true
}

// put puts an entry in, in the place of the one with that reference, if it is there.
func (l *entries) put(r api.Ref, b api.Block) {
	l.drop(r)
	e := &entry{ref: r, block: b}
	l.all[r] = e
	l.link(e)
}

// drop takes a reference's entry out, if it is there.
func (l *entries) drop(r api.Ref) {
	if e, is := l.all[r]; is {
		l.unlink(e)
		delete(l.all, r)
	}
}

// trim takes out the oldest entries that are more than there is room for.
func (l *entries) trim(room int) {
	for len(l.all) > room {
		l.drop(l.oldest.ref)
	}
}

// link makes an entry that is in no order yet the newest.
func (l *entries) link(e *entry) {
	e.older, e.newer = l.newest, nil
	if l.newest == nil {
		l.oldest = e
	} else {
		l.newest.newer = e
	}
	l.newest = e
}

// unlink takes an entry out of the order. It keeps its own way on, so that one who goes through all may take it out meanwhile.
func (l *entries) unlink(e *entry) {
	if e.older == nil {
		l.oldest = e.newer
	} else {
		e.older.newer = e.newer
	}
	if e.newer == nil {
		l.newest = e.older
	} else {
		e.newer.older = e.older
	}
}

// Has tells whether there is an entry with a reference.
func (c *Cache) Has(r api.Ref) bool {
	if c == nil {
		return false
	}
	_, is := c.kept.all[r]
	return is
}

// Forget takes out all entries of a block's number.
func (c *Cache) Forget(at uint32) int {
	if c == nil {
		return 0
	}
	many := 0
	for e := c.kept.oldest; e != nil; e = e.newer {
		if e.ref.At == at {
			c.kept.drop(e.ref)
			many++
		}
	}
	return many
}

// Clear takes all entries out.
func (c *Cache) Clear() {
	if c != nil {
		c.kept = none()
	}
}

// Entries is the references of all entries, the oldest one's first.
func (c *Cache) Entries() []api.Ref {
	if c == nil {
		return nil
	}
	l := make([]api.Ref, 0, len(c.kept.all))
	for e := c.kept.oldest; e != nil; e = e.newer {
		l = append(l, e.ref)
	}
	return l
}

// Shrink makes room for so many entries.
func (c *Cache) Shrink(room int) api.Errno {
	if c == nil || !mayBeRoom(room) {
		return api.ErrArg
	}
	c.room = room
	c.kept.trim(room)
	return api.OK
}

// Room is for how many entries there is room.
func (c *Cache) Room() int {
	if c == nil {
		return 0
	}
	return c.room
}
