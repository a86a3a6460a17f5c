package commit_test

import (
	"crypto/sha256"
	"encoding/binary"
	"fmt"
	"maps"
	"slices"

	"signet/api"
)

// thing is an inode with its bytes.
type thing struct {
	kind, links int
	stamp       uint64
	text        string
}

// form is the inodes in use by their numbers, without a disk.
type form map[int]thing

// fresh is the root directory alone.
func fresh() form {
	return form{1: {kind: api.KindDir, links: 1, stamp: 1}}
}

// brief is a form, short enough to be told.
func (f form) brief() string {
	s := ""
	for _, n := range slices.Sorted(maps.Keys(f)) {
		x := f[n]
		s += fmt.Sprintf("%d: kind %d, links %d, stamp %d, %d bytes (%x); ", n, x.kind, x.links, x.stamp, len(x.text), sha256.Sum256([]byte(x.text)))
	}
	return s
}

// at is a position: an inode's number, or 0 for the table, a level and a place.
type at struct{ number, level, place int }

// content is what stands at a position, all beneath it with it.
type content [32]byte

// positions is what stands at all positions at which there is something.
func (f form) positions() map[at]content {
	all := map[at]content{}
	table := make([][]byte, 1024)
	high := 0
	for n, x := range f {
		high = max(high, n)
		var leaves [][]byte
		for from := 0; from < len(x.text); from += 256 {
			leaf := make([]byte, 256)
			copy(leaf, x.text[from:])
			leaves = append(leaves, leaf)
		}
		top := lay(all, n, leaves)
		four := &table[(n-1)/4]
		if *four == nil {
			*four = make([]byte, 256)
		}
		row := (*four)[64*((n-1)%4):]
		binary.LittleEndian.PutUint32(row, uint32(x.kind<<16|x.links))
		binary.LittleEndian.PutUint32(row[4:], uint32(len(x.text)))
		binary.LittleEndian.PutUint64(row[8:], x.stamp)
		copy(row[16:48], top[:])
	}
	lay(all, 0, table[:(high+3)/4])
	return all
}

// lay tells the positions of a tree with such leaves, of which those without a byte that is not zero are none, and what stands at its root.
func lay(all map[at]content, number int, leaves [][]byte) content {
	var level []content
	for place, leaf := range leaves {
		var c content
		if slices.ContainsFunc(leaf, func(b byte) bool { return b != 0 }) {
			c = sha256.Sum256(leaf)
			all[at{number, 0, place}] = c
		}
		level = append(level, c)
	}
	for height := 1; len(level) > 1; height++ {
		var above []content
		for place := 0; 4*place < len(level); place++ {
			var four [4]content
			copy(four[:], level[4*place:])
			var c content
			if four != ([4]content{}) {
				c = sha256.Sum256(slices.Concat(four[0][:], four[1][:], four[2][:], four[3][:]))
				all[at{number, height, place}] = c
			}
			above = append(above, c)
		}
		level = above
	}
	if len(level) == 0 {
		return content{}
	}
	return level[0]
}

// news is how many positions of a form are new beside a committed one.
func news(was, now form) int {
	old, many := was.positions(), 0
	for p, c := range now.positions() {
		if old[p] != c {
			many++
		}
	}
	return many
}

// newOf is New of a state with these forms.
func newOf(was, now form, blocks int) int {
	many := news(was, now)
	if many == 0 {
		return 0
	}
	return many + mapBlocks(blocks) + 1
}

// usedOf is how many blocks a form uses when it is committed.
func usedOf(f form, blocks int) int {
	return len(f.positions()) + mapBlocks(blocks) + 1
}
