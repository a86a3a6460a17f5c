package name

import (
	"strings"

	"signet/api"
	"signet/block"
	"signet/word"
)

// Where the parts of an entry stand in its bytes. They are counted off by twos: the number alone takes two of them.
const (
	numberAt = 2 * iota
	_
	lengthAt
	zerosAt
	nameAt
)

const (
	perLeaf    = api.BlockBytes / api.EntryBytes
	maxEntries = api.MaxFile / api.EntryBytes // entries of the greatest directory
)

// Encode is an entry in bytes.
func Encode(x api.Link) (string, api.Errno) {
	if x.Inode < 1 || x.Inode > api.MaxInodes {
		return "", api.ErrArg
	}
	if err := Check(x.Name); err != api.OK {
		return "", err
	}
	number, length := word.Bytes32(uint32(x.Inode)), word.Bytes16(uint16(len(x.Name)))
	var b [api.EntryBytes]byte
	copy(b[numberAt:lengthAt], number[:])
	copy(b[lengthAt:zerosAt], length[:])
	copy(b[nameAt:], x.Name)
	return string(b[:]), api.OK
}

// Decode is the entry that stands in a text.
func Decode(s string, at int) (api.Link, bool, api.Errno) {
	// Added to at, the bytes of an entry could go beyond the greatest int; taken off the length, they can't.
	if at < 0 || at > len(s)-api.EntryBytes {
		return api.Link{}, false, api.ErrEntry
	}
	s = s[at : at+api.EntryBytes]
	if strings.Trim(s, "\x00") == "" {
		return api.Link{}, false, api.OK
	}
	x := parts(s)
	// Each entry has one form in bytes, so what Encode does not make of these parts is none.
	if back, err := Encode(x); err != api.OK || back != s {
		return api.Link{}, false, api.ErrEntry
	}
	return x, true, api.OK
}

// parts is what the bytes of an entry say, whether it may be or not.
func parts(s string) api.Link {
	number, _ := word.Take32(s, numberAt)
	length, _ := word.Take16(s, lengthAt)
	end := min(nameAt+int(length), len(s))
	return api.Link{Inode: int(number), Name: strings.Clone(s[nameAt:end])}
}

// Leaf is entries' leaf.
func Leaf(l ...api.Link) (api.Block, api.Errno) {
	if len(l) > perLeaf {
		return api.Block{}, api.ErrArg
	}
	var b api.Block
	for place, x := range l {
		s, err := Encode(x)
		if err != api.OK {
			return api.Block{}, err
		}
		b, _ = block.Lay(b, place*api.EntryBytes, s)
	}
	return b, api.OK
}

// FromLeaf is a leaf's entries.
func FromLeaf(b api.Block, n int) ([]api.Link, api.Errno) {
	if n < 0 || n > perLeaf {
		return nil, api.ErrArg
	}
	var l []api.Link
	s := block.Text(b)
	for place := range perLeaf {
		x, there, err := Decode(s, place*api.EntryBytes)
		if err != api.OK || there != (place < n) {
			return nil, api.ErrEntry
		}
		if there {
			l = append(l, x)
		}
	}
	return l, api.OK
}

// Leaves is how many leaves entries need.
func Leaves(n int) (int, api.Errno) {
	if n < 0 || n > maxEntries {
		return 0, api.ErrArg
	}
	return (n + perLeaf - 1) / perLeaf, api.OK
}
