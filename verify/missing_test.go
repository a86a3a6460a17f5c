package verify_test

import (
	"math"
	"slices"
	"strings"
	"testing"

	"signet/api"
	"signet/digest"
	"signet/verify"
)

// 26.6, 26.7: paths at which there is nothing.

// missing asks CheckMissing.
func missing(t *testing.T, s api.Slot, p, text string, want api.Errno) {
	t.Helper()
	question{s, p, 0, "", text}.asked(t)
	for _, l := range []*digest.Log{nil, digest.NewLog()} {
		if err := verify.CheckMissing(l, s, p, text); err != want {
			t.Errorf("CheckMissing of %q by a text of %d = %d; want %d", p, len(text), err, want)
		}
	}
}

func TestMissing(t *testing.T) {
	t.Parallel()
	b, s := world(t)
	for _, dir := range []string{"/none", "/single", "/four", "/five", "/many", "", "/d"} {
		links, text := b.list(dir + "/")
		for _, l := range links {
			missing(t, s, dir+"/"+l.Name, text, api.ErrClaim)
			missing(t, s, dir+"/"+l.Name+"/", text, api.ErrClaim)
			missing(t, s, dir+"/x/../"+l.Name+"/.", text, api.ErrClaim)
			for _, other := range []string{l.Name + "x", "x" + l.Name, strings.ToUpper(l.Name), l.Name + l.Name} {
				want := api.OK
				if slices.ContainsFunc(links, func(x api.Link) bool { return x.Name == other }) {
					want = api.ErrClaim
				}
				missing(t, s, dir+"/"+other, text, want)
			}
		}
		for _, p := range []string{"/no", "/no/", "//no/.", "/no/x/..", "/" + strings.Repeat("z", 56)} {
			missing(t, s, dir+p, text, api.OK)
			missing(t, s, dir+p, text+"x", api.ErrProof)
			missing(t, s, dir+p, text[:len(text)-1], api.ErrProof)
			missing(t, s, dir+p, "", api.ErrProof)
			missing(t, s, dir+p, turned(text, 3000), api.ErrTampered)
			missing(t, api.Slot{}, dir+p, text, api.ErrProof)
			missing(t, api.Slot{Counter: s.Counter + 1, Root: s.Root}, dir+p, text, api.ErrProof)
		}
	}
}

// A path with no last name is none here, whatever the slot and the text.
func TestMissingWithoutALastName(t *testing.T) {
	b, s := world(t)
	_, text := b.list("/")
	for _, s := range []api.Slot{s, {}, {Counter: math.MaxUint64, Root: s.Root}} {
		for _, text := range []string{text, "", text + "x"} {
			for _, p := range []string{"/", "//", "/.", "/..", "/d/..", "/d/f/../..", "/../", "", "d", "x/d"} {
				missing(t, s, p, text, api.ErrPath)
			}
			missing(t, s, "/\x00", text, api.ErrName)
			missing(t, s, "/d/\x00", text, api.ErrName)
			missing(t, s, depth(33), text, api.ErrDeep)
			missing(t, s, "/"+strings.Repeat("/", 1024), text, api.ErrLong)
		}
	}
}

// A path whose directory is missing has no proof, though nothing is there.
func TestMissingInNoDirectory(t *testing.T) {
	b, s := world(t)
	var texts []string
	for _, p := range []string{"/", "/none", "/five", "/d", depth(3)} {
		_, text := b.list(p)
		texts = append(texts, text)
	}
	for _, text := range append(texts, "", b.proof("/one", 0, 1), b.proof("/d/f", 0, 0)) {
		for _, p := range []string{"/no/x", "/no/no/x", "/d/no/x"} {
			missing(t, s, p, text, verify.CheckList(nil, s, p[:strings.LastIndexByte(p, '/')], nil, text))
			if err := verify.CheckMissing(nil, s, p, text); err == api.OK || err == api.ErrClaim {
				t.Errorf("CheckMissing of %s = %d", p, err)
			}
		}
	}
	// A file has no entries.
	for _, p := range []string{"/one", "/d/f", "/empty"} {
		for _, text := range []string{b.proof(p, 0, 0), b.proof(p, 0, 0) + "x"} {
			missing(t, s, p+"/x", text, api.ErrDir)
			missing(t, s, p+"/x/y", text, api.ErrDir)
		}
	}
}

// The deepest path that may be has its directory above it.
func TestTheDeepestMissing(t *testing.T) {
	b, s := world(t)
	links, text := b.list(depth(31))
	if len(links) != 1 || links[0].Name != "n" {
		t.Fatalf("List = %v", links)
	}
	missing(t, s, depth(32), text, api.ErrClaim)
	missing(t, s, depth(31)+"/m", text, api.OK)
	missing(t, s, depth(31)+"/m/", text, api.OK)
	// The directory above has its leaf where this text has a place.
	missing(t, s, depth(31), text, api.ErrTampered)
	missing(t, s, depth(30)+"/m", text, api.ErrTampered)
}

// The list of one directory tells nothing of another one.
func TestMissingByAnotherList(t *testing.T) {
	b, s := world(t)
	dirs := []string{"/none", "/single", "/four", "/five", "/d"}
	for _, p := range dirs {
		_, text := b.list(p)
		for _, other := range append(dirs, "") {
			err := verify.CheckMissing(nil, s, other+"/no", text)
			if (other == p) != (err == api.OK) {
				t.Errorf("CheckMissing of %s/no by the list of %s = %d", other, p, err)
			}
			question{s, other + "/no", 0, "", text}.asked(t)
		}
	}
}

// What is missing beneath one slot may be there beneath another one.
func TestMissingBefore(t *testing.T) {
	b, first := small(t)
	_, before := b.list("/d")
	b.dir("/d/x")
	second := b.commit()
	_, behind := b.list("/d")
	missing(t, first, "/d/x", before, api.OK)
	missing(t, second, "/d/x", behind, api.ErrClaim)
	missing(t, second, "/d/x", before, api.ErrTampered)
	missing(t, first, "/d/x", behind, api.ErrTampered)
}
