package commit_test

import "testing"

// scene is a system with something committed, and something that is not yet.
type scene struct {
	name        string
	blocks      int
	where       layout
	first, then func(k *system)
}

// set is a scene's system.
func (c scene) set(t *testing.T, cached int) *system {
	t.Helper()
	k := made(t, c.blocks, cached, c.where)
	if c.first != nil {
		c.first(k)
		k.commit()
	}
	c.then(k)
	return k
}

// some is inodes of all kinds: in a table with nodes, with leaves beneath nodes, with holes, without bytes.
func some(k *system) {
	k.make(file, 3)
	k.make(dir, 1)
	k.make(file, 3)
	k.fill(2, 1)
	k.fill(3, 6)
	k.size(4, 5000)
	k.set(4, 9, full(7))
	k.size(5, 128)
	k.set(5, 0, full(5))
	k.fill(8, 2)
}

// more changes something of all these.
func more(k *system) {
	k.set(3, 5, full(55))
	k.size(4, 2305)
	k.links(2, 4)
	k.drop(6)
	k.touch(1)
	k.size(8, 600)
	k.make(file, 2)
	k.fill(9, 3)
}

// scenes is systems of all kinds.
func scenes() []scene {
	return []scene{
		{"a stamp on the least disk", 16, scattered, nil, func(k *system) { k.touch(1) }},
		{"a first file", 16, atTheEnd, nil, func(k *system) { k.make(file, 1); k.fill(2, 1) }},
		{"a leaf written over", 16, scattered, func(k *system) { k.make(file, 1); k.fill(2, 1) }, func(k *system) { k.set(2, 0, full(9)) }},
		{"a leaf of several", 32, scattered, func(k *system) { k.make(file, 1); k.fill(2, 6) }, func(k *system) { k.set(2, 4, full(9)) }},
		{"something of all", 64, scattered, some, more},
		{"something of all, elsewhere", 96, atTheEnd, some, more},
		{"a table that is lower", 64, scattered, some, func(k *system) { k.drop(5, 6, 7, 8); k.touch(1) }},
		{"all but the root is gone", 64, atTheEnd, some, func(k *system) { k.drop(2, 3, 4, 5, 6, 7, 8); k.touch(1) }},
		{"a map of one leaf, full", 1024, atTheEnd, some, more},
		{"a map of two leaves", 1025, atTheEnd, some, more},
		{"a map of four leaves", 4096, atTheEnd, some, more},
		{"a map of five leaves", 4097, atTheEnd, some, more},
		{"a map of eight leaves", 8192, scattered, some, more},
		{"a map of eight leaves, elsewhere", 8192, atTheEnd, some, func(k *system) { k.set(2, 0, full(9)) }},
	}
}
