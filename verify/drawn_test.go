package verify_test

import (
	"maps"
	"math/rand/v2"
	"slices"
	"strings"
	"testing"

	"signet/api"
	"signet/branch"
	"signet/file"
	"signet/find"
	"signet/inodes"
	"signet/mount"
	"signet/proof"
	"signet/verify"
)

// 26.1 to 26.7, T6: systems that are changed and committed in drawn orders, whose proofs are made, spoilt at drawn places, and checked against all slots.

// names is all paths of a system and what is there, without a disk: of a file its bytes, of a directory the text of a slash.
type names map[string]string

// of is the paths of files, or those of directories, rising.
func (f names) of(dirs bool) (l []string) {
	for _, p := range slices.Sorted(maps.Keys(f)) {
		if (f[p] == "/") == dirs {
			l = append(l, p)
		}
	}
	return l
}

// beneath is the names in a directory, rising.
func (f names) beneath(dir string) (l []string) {
	above := strings.TrimSuffix(dir, "/") + "/"
	for _, p := range slices.Sorted(maps.Keys(f)) {
		if s, in := strings.CutPrefix(p, above); in && s != "" && !strings.Contains(s, "/") {
			l = append(l, s)
		}
	}
	return l
}

// draw changes something at random, in the names and in inodes.
func (f names) draw(r *rand.Rand, x *inodes.Inodes, stamp uint64) api.Errno {
	files, dirs := f.of(false), f.of(true)
	p := strings.TrimSuffix(dirs[r.IntN(len(dirs))], "/") + "/" + string(rune('a'+r.IntN(9)))
	_, there := f[p]
	switch pick := r.IntN(10); {
	case pick < 2 && !there:
		f[p] = "/"
		_, err := branch.Mkdir(x, p, stamp)
		return err
	case pick < 6 && !there:
		f[p] = ""
		_, err := branch.Create(x, p, stamp)
		return err
	case pick == 6 && len(files) > 0:
		from := files[r.IntN(len(files))]
		delete(f, from)
		_, err := branch.Unlink(x, from, stamp, nil)
		return err
	case pick == 7 && len(files) > 0 && !there:
		from := files[r.IntN(len(files))]
		f[p] = f[from]
		delete(f, from)
		_, err := branch.Rename(x, from, p, stamp, nil)
		return err
	case len(files) > 0:
		return f.write(r, x, files[r.IntN(len(files))], stamp)
	}
	return api.OK
}

// write writes something into a file, often behind a hole.
func (f names) write(r *rand.Rand, x *inodes.Inodes, p string, stamp uint64) api.Errno {
	at, text := r.IntN(2500), strings.Repeat(string(rune('A'+r.IntN(26))), 1+r.IntN(400))
	old := f[p]
	if len(old) < at+len(text) {
		old += strings.Repeat("\x00", at+len(text)-len(old))
	}
	f[p] = old[:at] + text + old[at+len(text):]
	i, err := find.Lookup(x, p)
	if err != api.OK {
		return err
	}
	_, err = file.Write(x, i.Number, at, text, stamp)
	return err
}

// kept is a text that was made, and what it is a proof of: bytes of a file, or a directory's entries.
type kept struct {
	s     api.Slot
	p     string
	off   int
	bytes string
	links []api.Link
	list  bool
	text  string
}

// run is a build, what was committed there without a disk, and the proofs that were made.
type run struct {
	build
	rand  *rand.Rand
	now   names
	was   map[api.Slot]names
	slots []api.Slot
	made  []kept

	commits, spoilt, oks, refused, missing int
}

// drawnRun is a run on a formatted disk.
func drawnRun(t *testing.T, r *rand.Rand, blocks int) *run {
	b := building(t, blocks)
	k := &run{build: b, rand: r, now: names{"/": "/"}, was: map[api.Slot]names{}}
	k.committed()
	return k
}

// committed keeps what there is behind a commit, and makes proofs of some of it.
func (k *run) committed() {
	k.t.Helper()
	s := k.s.Slot()
	k.slots = append(k.slots, s)
	k.was[s] = maps.Clone(k.now)
	for range 6 {
		k.prove(s)
	}
	for _, p := range k.now.of(true) {
		links, text := k.list(p)
		k.made = append(k.made, kept{s: s, p: p, links: links, list: true, text: text})
	}
}

// prove makes a proof of some bytes.
func (k *run) prove(s api.Slot) {
	k.t.Helper()
	files := k.now.of(false)
	if len(files) == 0 {
		return
	}
	p := files[k.rand.IntN(len(files))]
	all := k.now[p]
	off := k.rand.IntN(len(all) + 1)
	n := k.rand.IntN(len(all) - off + 1)
	if k.rand.IntN(3) == 0 {
		n = min(n, 20)
	}
	bytes, text, err := proof.Make(k.s.Cache(), s, p, off, n)
	if err != api.OK || bytes != all[off:off+n] {
		k.t.Fatalf("Make of %s = %d", p, err)
	}
	k.made = append(k.made, kept{s: s, p: p, off: off, bytes: bytes, text: text})
}

// step changes the system, and commits it, or mounts it again where it has no room.
func (k *run) step() {
	k.t.Helper()
	for range 1 + k.rand.IntN(6) {
		k.ok(k.now.draw(k.rand, k.s.Inodes(), k.s.Stamp()))
	}
	fresh, err := k.s.New()
	k.ok(err)
	if fresh == 0 || k.s.Fits() != api.OK {
		k.s, err = mount.Mount(k.d, k.r, k.l, 30)
		k.ok(err)
		k.now = maps.Clone(k.was[k.s.Slot()])
		return
	}
	k.commits++
	k.ok(k.s.Commit())
	k.committed()
}

// right asks that a text is a proof of what it was made of, against its own slot alone.
func (k *run) right(x kept) {
	k.t.Helper()
	q := question{x.s, x.p, x.off, x.bytes, x.text}
	q.asked(k.t)
	for _, s := range k.slots {
		want := api.ErrTampered
		if s == x.s {
			want = api.OK
		}
		var err api.Errno
		if x.list {
			err = verify.CheckList(nil, s, x.p, x.links, x.text)
		} else {
			err = verify.Check(nil, s, x.p, x.off, x.bytes, x.text)
		}
		if err != want {
			k.t.Fatalf("against the slot %d the proof of %s of the slot %d is %d; want %d", s.Counter, x.p, x.s.Counter, err, want)
		}
	}
	if n := len(x.bytes); n > 0 {
		q.bytes = turned(x.bytes, k.rand.IntN(8*n))
		q.is(k.t, "other bytes", api.ErrClaim)
	}
}

// spoil is a text that is spoilt at a drawn place.
func (k *run) spoil(text string) string {
	r := k.rand
	other := k.made[r.IntN(len(k.made))].text
	at, from := r.IntN(len(text)), r.IntN(len(other))
	if r.IntN(2) == 0 {
		at -= at % 256
	}
	many := min(1+r.IntN(300), len(other)-from, len(text)-at)
	switch r.IntN(9) {
	case 0, 1:
		return turned(text, r.IntN(8*len(text)))
	case 2:
		return text[:at]
	case 3:
		return spliced(text, at, other[from:from+many])
	case 4:
		return text[:at] + other[from:from+many] + text[at:]
	case 5:
		return text[:at] + text[at+many:]
	case 6:
		return text[:at] + other[min(at, len(other)):]
	case 7:
		return text + text[len(text)-min(256, len(text)):]
	}
	return other
}

// claim asks a text, of something drawn, which is OK only if it is so beneath its slot.
func (k *run) claim(s api.Slot, x kept, text string) {
	k.t.Helper()
	r := k.rand
	was := k.was[s]
	all := slices.Sorted(maps.Keys(was))
	p := x.p
	switch r.IntN(4) {
	case 0:
		p = all[r.IntN(len(all))]
	case 1:
		p = strings.TrimSuffix(p, "/") + "/" + string(rune('a'+r.IntN(9)))
	}
	q := question{s, p, x.off, x.bytes, text}
	switch r.IntN(4) {
	case 0:
		q.off = r.IntN(3000)
	case 1:
		q.bytes = q.bytes[:r.IntN(len(q.bytes)+1)]
	}
	there, is := was[p]
	if q.asked(k.t) == api.OK {
		k.oks++
		if !is || there == "/" || q.off+len(q.bytes) > len(there) || there[q.off:q.off+len(q.bytes)] != q.bytes {
			k.t.Fatalf("Check of %s, %d bytes from %d on, is OK, and they are not there", p, len(q.bytes), q.off)
		}
	} else {
		k.refused++
	}
	if links, err := verify.List(nil, s, p, text); err == api.OK {
		var l []string
		for _, x := range links {
			l = append(l, x.Name)
		}
		if there != "/" || !slices.Equal(l, was.beneath(p)) {
			k.t.Fatalf("List of %s = %v", p, links)
		}
	}
	if verify.CheckMissing(nil, s, p, text) == api.OK {
		k.missing++
		if is {
			k.t.Fatalf("%s is there, and proved to be missing", p)
		}
	}
}

// each goes over drawn proofs, right and spoilt.
func (k *run) each(many int) {
	k.t.Helper()
	for range many {
		x := k.made[k.rand.IntN(len(k.made))]
		k.right(x)
		s := x.s
		if k.rand.IntN(4) == 0 {
			s = k.slots[k.rand.IntN(len(k.slots))]
		}
		k.claim(s, x, x.text)
		text := x.text
		for range 1 + k.rand.IntN(2) {
			if text != "" {
				text = k.spoil(text)
			}
		}
		k.spoilt++
		k.claim(s, x, text)
	}
}

func TestDrawn(t *testing.T) {
	t.Parallel()
	var all run
	for seed := range uint64(8) {
		k := drawnRun(t, rand.New(rand.NewPCG(seed, 26)), []int{60, 90, 200, 1025}[seed%4])
		for range 12 {
			k.step()
			k.each(12)
		}
		if _, _, both := k.l.Collision(); both {
			t.Fatal("the log has a collision")
		}
		all.commits += k.commits
		all.spoilt += k.spoilt
		all.oks += k.oks
		all.refused += k.refused
		all.missing += k.missing
	}
	t.Logf("%d commits, %d spoilt: %d are OK, %d refused, %d missing", all.commits, all.spoilt, all.oks, all.refused, all.missing)
	if all.commits < 50 || all.spoilt < 1000 || min(all.oks, all.missing) < 60 || all.refused < 1000 {
		t.Error("some of all that may be drawn is too seldom")
	}
}
