package verify_test

import (
	"slices"
	"strings"
	"testing"

	"signet/api"
	"signet/name"
	"signet/verify"
)

// 26.5: the entries of directories.

func TestLists(t *testing.T) {
	t.Parallel()
	b, s := world(t)
	for p, many := range map[string]int{"/none": 0, "/single": 1, "/d": 1, "/four": 4, "/five": 5, "/many": 70, "/": 15, depth(31): 1, "/none/": 0, "//five/.": 5, "/d/../four": 4} {
		links, text := b.list(p)
		got, err := verify.List(nil, s, p, text)
		if !slices.Equal(got, links) || len(got) != many || err != api.OK {
			t.Errorf("List of %s = %v, %d", p, got, err)
		}
		if !slices.Equal(got, name.Sorted(got)) {
			t.Errorf("List of %s is not sorted", p)
		}
		for _, l := range got {
			if l.Inode < 2 || !strings.Contains(text, l.Name) {
				t.Errorf("List of %s has %+v", p, l)
			}
		}
		question{s, p, 0, "", text}.asked(t)
		for _, bad := range []string{"", text[:len(text)-1], text + "\x00", text + text[:256], text + text, text[:256]} {
			question{s, p, 0, "", bad}.asked(t)
			if got, err := verify.List(nil, s, p, bad); len(got) != 0 || err != api.ErrProof {
				t.Errorf("List of %s by a text of %d for %d = %v, %d", p, len(bad), len(text), got, err)
			}
		}
		if got, err := verify.List(nil, s, p, turned(text, 8*len(text)-3)); len(got) != 0 || err != api.ErrTampered {
			t.Errorf("List of %s with a bit turned over = %v, %d", p, got, err)
		}
	}
}

// Each leaf of a list must be there: a list of all but one is none.
func TestListsWithoutALeaf(t *testing.T) {
	b, s := world(t)
	_, text := b.list("/many")
	met := meantList(s, "/many", text)
	if len(met.blocks) < 20 {
		t.Fatalf("%d blocks", len(met.blocks))
	}
	for _, at := range met.blocks {
		bad := text[:at] + text[at+256:]
		if got, err := verify.List(nil, s, "/many", bad); len(got) != 0 || err != api.ErrTampered && err != api.ErrProof {
			t.Errorf("List without the block at %d = %d entries, %d", at, len(got), err)
		}
		question{s, "/many", 0, "", bad}.asked(t)
		twice := text[:at+256] + text[at:]
		if got, err := verify.List(nil, s, "/many", twice); len(got) != 0 || err != api.ErrTampered && err != api.ErrProof {
			t.Errorf("List with the block at %d twice = %d entries, %d", at, len(got), err)
		}
		question{s, "/many", 0, "", text[:at]}.asked(t)
	}
}

// A proof of a file in a directory, and one of the directory as far as that, are none of its list; but an empty one's list ends there.
func TestListsOfOtherProofs(t *testing.T) {
	b, s := world(t)
	for _, p := range []string{"/single", "/four", "/five", "/many"} {
		text := b.proof(p+numbered(0), 0, 0)
		met := meantCheck(s, p+numbered(0), 0, "", text)
		for _, text := range []string{text, text[:met.places[1]], text[:met.places[1]+4]} {
			if got, err := verify.List(nil, s, p, text); len(got) != 0 || err == api.OK {
				t.Errorf("List of %s by a text of %d = %v, %d", p, len(text), got, err)
			}
			question{s, p, 0, "", text}.asked(t)
		}
	}
	_, none := b.list("/none")
	met := meantCheck(s, "/none/x", 0, "", none+"\x00\x00\x00\x00")
	if len(met.places) != 2 || met.places[1] != len(none) {
		t.Errorf("a list of an empty directory goes on at %v", met.places)
	}
}

func TestListsOfFiles(t *testing.T) {
	b, s := world(t)
	for _, p := range []string{"/empty", "/one", "/long", "/d/f"} {
		text := b.proof(p, 0, 0)
		for _, p := range []string{p, p + "/", p + "/.", p + "/x", p + "/x/"} {
			for _, more := range []string{"", "x", text, "\x00\x00\x00\x00"} {
				if got, err := verify.List(nil, s, p, text+more); len(got) != 0 || err != api.ErrDir {
					t.Errorf("List of %s = %v, %d", p, got, err)
				}
				if err := verify.CheckList(nil, s, p, nil, text+more); err != api.ErrDir {
					t.Errorf("CheckList of %s = %d", p, err)
				}
				if err := verify.CheckList(nil, s, p, []api.Link{{Inode: 1, Name: "x"}}, text+more); err != api.ErrDir {
					t.Errorf("CheckList of %s = %d", p, err)
				}
				question{s, p, 0, "", text + more}.asked(t)
			}
		}
		if got, err := verify.List(nil, s, p, text[:len(text)-1]); len(got) != 0 || err != api.ErrProof {
			t.Errorf("List of %s by a short text = %v, %d", p, got, err)
		}
	}
}

func TestListsOfWrongPaths(t *testing.T) {
	b, s := small(t)
	links, text := b.list("/d")
	for p, want := range map[string]api.Errno{"": api.ErrPath, "d": api.ErrPath, "/\x00": api.ErrName, "/" + strings.Repeat("x", 57): api.ErrName, depth(33): api.ErrDeep, "/" + strings.Repeat("/", 1024): api.ErrLong} {
		for _, s := range []api.Slot{s, {}, {Counter: 9, Root: s.Root}} {
			for _, text := range []string{text, ""} {
				if got, err := verify.List(nil, s, p, text); len(got) != 0 || err != want {
					t.Errorf("List of %q = %v, %d; want %d", p, got, err, want)
				}
				for _, l := range [][]api.Link{nil, links} {
					if err := verify.CheckList(nil, s, p, l, text); err != want {
						t.Errorf("CheckList of %q = %d; want %d", p, err, want)
					}
				}
				question{s, p, 0, "", text}.asked(t)
			}
		}
	}
}

// Just the entries, in their order.
func TestCheckList(t *testing.T) {
	t.Parallel()
	b, s := world(t)
	for _, p := range []string{"/none", "/single", "/four", "/five", "/many", "/"} {
		right, text := b.list(p)
		claim := func(what string, l []api.Link, want api.Errno) {
			t.Helper()
			was := slices.Clone(l)
			if err := verify.CheckList(nil, s, p, l, text); err != want {
				t.Errorf("CheckList of %s, %s = %d; want %d", p, what, err, want)
			}
			if !slices.Equal(l, was) {
				t.Errorf("CheckList of %s, %s changed the entries", p, what)
			}
		}
		claim("right", right, api.OK)
		for i := range right {
			claim("one fewer", slices.Delete(slices.Clone(right), i, i+1), api.ErrClaim)
			claim("one twice", slices.Insert(slices.Clone(right), i, right[i]), api.ErrClaim)
			l := slices.Clone(right)
			l[i].Inode++
			claim("another inode", l, api.ErrClaim)
			l[i] = api.Link{Inode: right[i].Inode, Name: right[i].Name + "x"}
			claim("another name", l, api.ErrClaim)
			l[i] = api.Link{Inode: right[i].Inode, Name: strings.ToUpper(right[i].Name)}
			claim("another name", l, api.ErrClaim)
			l[i] = api.Link{}
			claim("none", l, api.ErrClaim)
			if i > 0 {
				l := slices.Clone(right)
				l[i-1], l[i] = l[i], l[i-1]
				claim("two changed about", l, api.ErrClaim)
				claim("the first ones", right[:i], api.ErrClaim)
				claim("the last ones", right[i:], api.ErrClaim)
			}
		}
		for i := range len(right) + 1 {
			claim("one more", slices.Insert(slices.Clone(right), i, api.Link{Inode: 2, Name: "m"}), api.ErrClaim)
			claim("a none more", slices.Insert(slices.Clone(right), i, api.Link{}), api.ErrClaim)
		}
		if len(right) > 1 {
			l := slices.Clone(right)
			slices.Reverse(l)
			claim("backwards", l, api.ErrClaim)
		}
		if len(right) > 0 {
			claim("nothing", nil, api.ErrClaim)
			claim("an empty list", []api.Link{}, api.ErrClaim)
		} else {
			claim("nothing", nil, api.OK)
			claim("an empty list", []api.Link{}, api.OK)
		}
	}
}

// What stands behind the list's end has no part, and stays.
func TestTheRoomBehindAListStays(t *testing.T) {
	b, s := world(t)
	links, text := b.list("/five")
	room := append(slices.Clone(links), api.Link{Inode: 77, Name: "behind"}, api.Link{Inode: 78, Name: "further"})
	if err := verify.CheckList(nil, s, "/five", room[:5], text); err != api.OK {
		t.Errorf("CheckList = %d", err)
	}
	if err := verify.CheckList(nil, s, "/five", room[:6], text); err != api.ErrClaim {
		t.Errorf("CheckList of one more = %d", err)
	}
	if !slices.Equal(room[:5], links) || room[5].Name != "behind" || room[6].Name != "further" {
		t.Errorf("the list is changed: %v", room)
	}
}

// Two answers of List share nothing.
func TestListsAreNewMemory(t *testing.T) {
	b, s := world(t)
	for _, p := range []string{"/single", "/four", "/five", "/many"} {
		links, text := b.list(p)
		one, _ := verify.List(b.l, s, p, text)
		two, _ := verify.List(b.l, s, p, text)
		one = one[:cap(one)]
		for i := range one {
			one[i] = api.Link{Inode: 9, Name: "spoilt"}
		}
		three, err := verify.List(b.l, s, p, text)
		if !slices.Equal(two, links) || !slices.Equal(three, links) || err != api.OK {
			t.Errorf("List of %s = %v, %d behind a change of another answer", p, three, err)
		}
		if slices.Contains(two[:cap(two)], api.Link{Inode: 9, Name: "spoilt"}) {
			t.Error("two answers share the room behind their ends")
		}
	}
}

// A directory may have two entries of one name, in a tree that no commit makes: they stand by their inodes, and each of them may be gone to.
func TestEntriesOfOneName(t *testing.T) {
	m := making(t)
	l := []api.Link{{Inode: 3, Name: "x"}, {Inode: 2, Name: "x"}, {Inode: 4, Name: "a"}, {Inode: 2, Name: "x"}, {Inode: 2, Name: "b"}}
	root := dirOf(5, 1, m.knot(1, m.lay(m.entries(l[:4]...)), m.lay(m.entries(l[4]))))
	s := m.under(4, 0, m.lay(m.four(root, fileOf(1, 0, api.Ref{}), fileOf(3, 0, api.Ref{}), fileOf(4, 0, api.Ref{}))))
	want := []api.Link{l[2], l[4], l[1], l[3], l[0]}
	text := m.list(s, "/")
	if got, err := verify.List(nil, s, "/", text); !slices.Equal(got, want) || err != api.OK {
		t.Errorf("List = %v, %d; want %v", got, err, want)
	}
	if err := verify.CheckList(nil, s, "/", want, text); err != api.OK {
		t.Errorf("CheckList = %d", err)
	}
	if err := verify.CheckList(nil, s, "/", l, text); err != api.ErrClaim {
		t.Errorf("CheckList in the order of the leaves = %d", err)
	}
	if err := verify.CheckMissing(nil, s, "/x", text); err != api.ErrClaim {
		t.Errorf("CheckMissing = %d", err)
	}
	text = m.proof(s, "/x", 0, 0)
	at := meantCheck(s, "/x", 0, "", text).places[0]
	for place, size := range map[uint32]int{0: 3, 1: 1, 3: 1} {
		if n, err := verify.Size(nil, s, "/x", placed(text, at, place)); n != size || err != api.OK {
			t.Errorf("Size by the place %d = %d, %d; want %d", place, n, err, size)
		}
	}
	question{s, "/x", 0, "", placed(text, at, 2)}.is(t, "another name's place", api.ErrProof)
}
