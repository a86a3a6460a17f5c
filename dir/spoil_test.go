package dir_test

import (
	"signet/api"
	"signet/dir"
	"signet/inodes"
)

// spoil writes over all that the lists have that are told, their spare room too.
func spoil(x *inodes.Inodes, n int) {
	all, _ := dir.List(x, n)
	page, _, _ := dir.Page(x, n, "", 4)
	more, _, _ := dir.Page(x, n, "", 99)
	begins, _ := dir.Begins(x, n, "n")
	matches, _ := dir.Matches(x, n, "n*")
	for _, l := range [][]api.Link{all, page, more, begins, matches} {
		l = l[:cap(l)]
		for i := range l {
			l[i] = api.Link{Inode: 999, Name: "spoiled"}
		}
	}
	names, _ := dir.Names(x, n, 3)
	names = names[:cap(names)]
	for i := range names {
		names[i] = "spoiled"
	}
}
