package proof_test

import (
	"slices"
	"strings"
	"testing"

	"signet/api"
	"signet/dir"
	"signet/find"
	"signet/name"
	"signet/proof"
)

// 25.5

func TestListOfEveryDirectory(t *testing.T) {
	t.Parallel()
	b, s := world(t)
	for _, p := range everyPath(b) {
		i, err := find.Lookup(b.s.Inodes(), p)
		b.ok(err)
		a := b.follows(s, p, 0, 0)
		if i.Kind != api.KindDir {
			if len(a.links) != 0 || a.list != "" || a.listErr != api.ErrDir {
				t.Errorf("List of the file %s = %v, a text of %d, %d; want ErrDir", p, a.links, len(a.list), a.listErr)
			}
			continue
		}
		want, err := dir.List(b.s.Inodes(), i.Number)
		b.ok(err)
		if !slices.Equal(a.links, want) || a.listErr != api.OK {
			t.Errorf("List of %s = %v, %d; want %v", p, a.links, a.listErr, want)
		}
	}
}

func TestListWrittenOut(t *testing.T) {
	b := building(t, 100)
	b.file("/b", 1, map[int]string{0: "x"})
	b.dir("/c", "/a")
	b.file("/c/f", 3, nil)
	s := b.commit()
	for p, want := range map[string][]api.Link{
		"/":   {{Inode: 4, Name: "a"}, {Inode: 2, Name: "b"}, {Inode: 3, Name: "c"}},
		"/a":  {},
		"/c/": {{Inode: 5, Name: "f"}},
	} {
		if a := b.follows(s, p, 0, 0); !slices.Equal(a.links, want) || a.listErr != api.OK {
			t.Errorf("List of %s = %v, %d; want %v", p, a.links, a.listErr, want)
		}
	}
	// Of /: the root block, the root directory by a table of two levels, its one leaf of entries.
	list := b.follows(s, "/", 0, 0).list
	if len(list) != 4*256 || list[:8] != "signet01" || list[256:260] != "node" || list[3*256:3*256+9] != "\x02\x00\x00\x00\x01\x00\x00\x00b" {
		t.Errorf("the proof of the list of / has %d bytes", len(list))
	}
	// Of /c: that, with the place 1 ahead of the entries, then /c's inode, and its entries.
	more := b.follows(s, "/c", 0, 0).list
	if len(more) != 7*256+4 || more[:3*256] != list[:3*256] || more[3*256:3*256+4] != "\x01\x00\x00\x00" || more[3*256+4:4*256+4] != list[3*256:] || more[4*256+4:6*256+4] != list[256:3*256] || more[6*256+4:6*256+13] != "\x05\x00\x00\x00\x01\x00\x00\x00f" {
		t.Errorf("the proof of the list of /c has %d bytes", len(more))
	}
}

// The leaves of 0, 1, 4, 5 and many entries.
func TestHowLongProofsOfListsAre(t *testing.T) {
	b, s := world(t)
	inode, entryOfRoot := 3, 2
	for p, want := range map[string]int{
		"/":       256 * (1 + inode + 4*2),
		"/none":   256*(1+2*inode+entryOfRoot) + 4,
		"/d":      256*(1+2*inode+entryOfRoot+1) + 4,
		"/four":   256*(1+2*inode+entryOfRoot+1) + 4,
		"/five":   256*(1+2*inode+entryOfRoot+2*2) + 4,
		"/many":   256*(1+2*inode+entryOfRoot+18*4) + 4,
		depth(31): 256*(1+32*inode+entryOfRoot+30+1) + 4*31,
	} {
		if a := b.follows(s, p, 0, 0); len(a.list) != want || a.listErr != api.OK {
			t.Errorf("the proof of the list of %s has %d bytes, %d; want %d", p, len(a.list), a.listErr, want)
		}
	}
}

// Entries stand dense, in the order in which they came, with the last one where one was taken away; the list is by their names.
func TestListsAreSorted(t *testing.T) {
	b := building(t, 300)
	b.file("/f", 0, nil)
	names := []string{"z", "y", "x", "A", "é", "b0", "b", "ba", "B", "~", "-", "0", "00", "a" + strings.Repeat("a", 55)}
	for i, s := range names {
		b.ok(dir.Add(b.s.Inodes(), 1, api.Link{Inode: 2, Name: s}, b.s.Stamp()))
		b.check(b.commit(), i+2)
	}
	for i, s := range names {
		_, err := dir.Remove(b.s.Inodes(), 1, s, b.s.Stamp())
		b.ok(err)
		b.check(b.commit(), len(names)-i)
	}
}

// check asks that the root directory's list has so many entries, sorted.
func (b build) check(s api.Slot, many int) {
	b.t.Helper()
	a := b.follows(s, "/", 0, 0)
	if len(a.links) != many || a.listErr != api.OK || !slices.Equal(a.links, name.Sorted(a.links)) {
		b.t.Errorf("List = %v, %d; want %d entries", a.links, a.listErr, many)
	}
}

func TestListOfWhatIsMissing(t *testing.T) {
	b, s := world(t)
	for p, want := range map[string]api.Errno{
		"/x": api.ErrMissing, "/none/x": api.ErrMissing, "/one": api.ErrDir, "/one/": api.ErrDir, "/one/x": api.ErrDir, "/empty": api.ErrDir, "/d/f": api.ErrDir, depth(32): api.ErrDir, "": api.ErrPath, "x": api.ErrPath, depth(33): api.ErrDeep,
	} {
		if l, text, err := proof.List(b.s.Cache(), s, p); len(l) != 0 || text != "" || err != want {
			t.Errorf("List of %q = %v, a text of %d, %d; want %d", p, l, len(text), err, want)
		}
		b.follows(s, p, 0, 0)
	}
}

// What is handed out is new memory, spare room too.
func TestListsShareNothing(t *testing.T) {
	b, s := world(t)
	for _, p := range []string{"/", "/four", "/five", "/many"} {
		want := b.follows(s, p, 0, 0)
		c := b.cache(api.MaxCache)
		one, _, err := proof.List(c, s, p)
		b.ok(err)
		other, _, err := proof.List(c, s, p)
		b.ok(err)
		spare := one[:cap(one)]
		for i := range spare {
			spare[i] = api.Link{Inode: 9, Name: "spoilt"}
		}
		if !slices.Equal(other, want.links) {
			t.Errorf("two lists of %s share memory", p)
		}
		b.same(p, b.ask(c, s, p, 0, 0), want)
	}
}
