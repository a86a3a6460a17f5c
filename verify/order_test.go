package verify_test

import (
	"math"
	"strings"
	"testing"

	"signet/api"
	"signet/verify"
)

// Where two errors may be met, that one is told which comes first in the chapter.

func TestThePathComesFirst(t *testing.T) {
	b, right := small(t)
	text := b.proof("/d/f", 1, 3)
	for _, s := range []api.Slot{right, {}, {Counter: 9, Root: right.Root}, {Counter: right.Counter, Root: api.Ref{At: 1}}} {
		for _, text := range []string{text, "", text[:100], turned(text, 0), text + "x"} {
			for _, off := range []int{0, -1, 6, math.MinInt, math.MaxInt} {
				question{s, "d/f", off, "ell", text}.is(t, "no path", api.ErrPath)
				question{s, "/d/\x00", off, "ell", text}.is(t, "no name", api.ErrName)
				if off < 0 {
					question{s, "/d/f/", off, "ell", text}.is(t, "below 0", api.ErrArg)
				}
			}
		}
	}
}

// What is wrong behind the root has no part where the root is wrong.
func TestTheRootComesAheadOfWhatHangsBeneath(t *testing.T) {
	b, s := small(t)
	text := b.proof("/d/f", 1, 3)
	for _, p := range []string{"/d/f", "/d/f/", "/x", "/d/f/x", "/"} {
		for _, off := range []int{0, 1, 600} {
			q := question{api.Slot{Counter: s.Counter}, p, off, "xxx", text + "x"}
			q.is(t, "none", api.ErrProof)
			q = question{s, p, off, "xxx", turned(text, 7) + "x"}
			q.is(t, "another root", api.ErrTampered)
			q = question{api.Slot{Counter: s.Counter + 1, Root: s.Root}, p, off, "xxx", turned(text, 3000)}
			q.is(t, "another counter", api.ErrProof)
			q.text = turned(text, 7)
			q.is(t, "another root and counter", api.ErrTampered)
		}
	}
}

// A block that is short is not digested; one that is wrong is not looked at.
func TestShortComesAheadOfWrong(t *testing.T) {
	b, s := small(t)
	text := b.proof("/d/f", 1, 3)
	for _, at := range meantCheck(s, "/d/f", 1, "ell", text).blocks {
		for _, many := range []int{0, 1, 255} {
			question{s, "/d/f", 1, "ell", text[:at] + strings.Repeat("x", many)}.is(t, "short", api.ErrProof)
		}
		for _, wrong := range []string{strings.Repeat("x", 256), strings.Repeat("\x00", 256), strings.Repeat("x", 999)} {
			question{s, "/d/f", 1, "ell", text[:at] + wrong}.is(t, "wrong", api.ErrTampered)
		}
	}
}

// Wrong digests come ahead of what the block says, of the name and of the inode there.
func TestTheDigestComesAheadOfTheName(t *testing.T) {
	b, s := small(t)
	text := b.proof("/d/f", 1, 3)
	met := meantCheck(s, "/d/f", 1, "ell", text)
	for i, at := range met.blocks {
		bad := turned(text, 8*at+1)
		question{s, "/d/f", 1, "elk", bad}.is(t, "a block turned", api.ErrTampered)
		if i > 1 {
			// The first name is told of in the block 2, the second one in the block 4.
			question{s, "/e/f", 1, "ell", bad}.is(t, "another first name", map[bool]api.Errno{true: api.ErrTampered, false: api.ErrProof}[i == 2])
		}
		if i > 3 {
			question{s, "/d/g", 1, "ell", bad}.is(t, "another second name", map[bool]api.Errno{true: api.ErrTampered, false: api.ErrProof}[i == 4])
		}
		if i < 6 {
			question{s, "/d/f/", 900, "ell", bad}.is(t, "as a directory, and past the size", api.ErrTampered)
		}
	}
}

// An inode that is no directory comes ahead of the place of an entry.
func TestNoDirectoryComesAheadOfThePlace(t *testing.T) {
	b, s := small(t)
	text := b.proof("/d/f", 0, 0)
	for _, more := range []string{"", "x", "\x00\x00\x00", "\x00\x00\x00\x00", "\xff\xff\xff\xff", strings.Repeat("x", 400)} {
		question{s, "/d/f/x", 0, "", text + more}.is(t, "behind a file", api.ErrDir)
		question{s, "/d/f/x/", 900, "xxx", text + more}.is(t, "behind a file", api.ErrDir)
	}
}

// A place that may not be comes ahead of going.
func TestThePlaceComesAheadOfTheEntries(t *testing.T) {
	b, s := small(t)
	text := b.proof("/d/f", 1, 3)
	for _, at := range meantCheck(s, "/d/f", 1, "ell", text).places {
		for _, more := range []string{"", "x", strings.Repeat("x", 256), text[at+4:]} {
			question{s, "/d/f", 1, "ell", text[:at] + "\x01\x00\x00\x00" + more}.is(t, "a place behind", api.ErrProof)
			question{s, "/d/f", 1, "ell", text[:at] + "\xff\xff\xff\xff" + more}.is(t, "a place far behind", api.ErrProof)
		}
	}
}

// Behind the last name: a directory that is asked for, a directory that is there, the range, the bytes, and what is left.
func TestBehindTheLastName(t *testing.T) {
	b, s := world(t)
	text := b.proof("/long", 250, 300)
	short := b.proof("/long", 0, 0)
	right := full(1300)[250:550]
	wrong := turned(right, 0)
	for _, text := range []string{text, text + "x", short, short + "x", turned(text, 8*len(text)-1), text[:len(text)-1]} {
		for _, off := range []int{250, 1200, math.MaxInt} {
			for _, bytes := range []string{right, wrong, "", strings.Repeat("x", 2000)} {
				question{s, "/long/", off, bytes, text}.is(t, "as a directory", api.ErrDir)
				if off > 250 && (bytes != "" || off > 1300) {
					question{s, "/long", off, bytes, text}.is(t, "past the size", api.ErrRange)
				}
			}
		}
	}
	question{s, "/long", 250, wrong, text + "x"}.is(t, "other bytes, and something left", api.ErrClaim)
	question{s, "/long", 250, right, text + "x"}.is(t, "something left", api.ErrProof)
	question{s, "/long", 250, right, turned(text, 8*len(text)-1) + "x"}.is(t, "a leaf turned, and something left", api.ErrTampered)
	_, dir := b.list("/five")
	question{s, "/five", math.MaxInt, "xxx", dir + "x"}.is(t, "a directory", api.ErrArg)
	question{s, "/five/", math.MaxInt, "xxx", dir + "x"}.is(t, "a directory", api.ErrArg)
}

// Leaves are gone to one by one: bytes that are others in the first come ahead of what is wrong with the second.
func TestLeafByLeaf(t *testing.T) {
	b, s := world(t)
	text := b.proof("/long", 250, 300)
	met := meantCheck(s, "/long", 250, full(1300)[250:550], text)
	right := full(1300)[250:550]
	// The last blocks are the ways to the leaves 0, 1 and 2; each has as many blocks.
	height := (len(met.blocks) - len(meantCheck(s, "/long", 0, "", b.proof("/long", 0, 0)).blocks)) / 3
	leaf := func(i int) int { return met.blocks[len(met.blocks)-1-height*(2-i)] }
	first, second, third := turned(right, 3), turned(right, 8*6), turned(right, 8*262)
	for what, x := range map[string]struct {
		bytes, text string
		want        api.Errno
	}{
		"right":                                {right, text, api.OK},
		"the first leaf turned":                {first, turned(text, 8*leaf(0)), api.ErrTampered},
		"first bytes, the second leaf turned":  {first, turned(text, 8*leaf(1)), api.ErrClaim},
		"second bytes, the first leaf turned":  {second, turned(text, 8*leaf(0)+9), api.ErrTampered},
		"second bytes, the second leaf turned": {second, turned(text, 8*leaf(1)+9), api.ErrTampered},
		"second bytes, the third leaf turned":  {second, turned(text, 8*leaf(2)+9), api.ErrClaim},
		"third bytes, the third leaf turned":   {third, turned(text, 8*leaf(2)+9), api.ErrTampered},
		"third bytes, the second leaf turned":  {third, turned(text, 8*leaf(1)+9), api.ErrTampered},
		"first bytes, cut behind the first":    {first, text[:leaf(0)+256], api.ErrClaim},
		"right bytes, cut behind the first":    {right, text[:leaf(0)+256], api.ErrProof},
		"second bytes, cut behind the first":   {second, text[:leaf(0)+256], api.ErrProof},
		"second bytes, cut behind the second":  {second, text[:leaf(1)+256], api.ErrClaim},
		"third bytes, cut behind the second":   {third, text[:leaf(1)+256], api.ErrProof},
		"third bytes, something left":          {third, text + "x", api.ErrClaim},
	} {
		question{s, "/long", 250, x.bytes, x.text}.is(t, what, x.want)
	}
}

// Of lists: the path, the root, a file, the leaves, what is left, and then other entries.
func TestOrdersOfLists(t *testing.T) {
	b, s := world(t)
	links, text := b.list("/five")
	other := []api.Link{{Inode: 1, Name: "x"}}
	for what, x := range map[string]struct {
		s       api.Slot
		p, text string
		want    api.Errno
	}{
		"no path":                        {api.Slot{}, "five", "", api.ErrPath},
		"none":                           {api.Slot{}, "/five", "", api.ErrProof},
		"a file, and something left":     {s, "/one", b.proof("/one", 0, 0) + "x", api.ErrDir},
		"behind a file":                  {s, "/one/x", b.proof("/one", 0, 0) + "x", api.ErrDir},
		"a leaf turned, something left":  {s, "/five", turned(text, 8*len(text)-1) + "x", api.ErrTampered},
		"a block fewer":                  {s, "/five", text[:len(text)-256], api.ErrProof},
		"something left":                 {s, "/five", text + "x", api.ErrProof},
		"right, but for the entries":     {s, "/five", text, api.ErrClaim},
		"another counter, a block fewer": {api.Slot{Counter: 1, Root: s.Root}, "/five", text[:len(text)-256], api.ErrProof},
	} {
		for _, l := range [][]api.Link{nil, other, links[:4], append(other, links...)} {
			if err := verify.CheckList(nil, x.s, x.p, l, x.text); err != x.want {
				t.Errorf("CheckList, %s = %d; want %d", what, err, x.want)
			}
		}
		if x.want != api.ErrClaim {
			if err := verify.CheckList(nil, x.s, x.p, links, x.text); err != x.want {
				t.Errorf("CheckList of the right entries, %s = %d; want %d", what, err, x.want)
			}
		}
		p := x.p + numbered(1)
		if err := verify.CheckMissing(nil, x.s, p, x.text); err != x.want {
			t.Errorf("CheckMissing of %s, %s = %d; want %d", p, what, err, x.want)
		}
	}
}
