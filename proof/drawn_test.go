package proof_test

import (
	"maps"
	"math/rand/v2"
	"slices"
	"strings"
	"testing"

	"signet/api"
	"signet/branch"
	"signet/file"
	"signet/find"
	"signet/inodes"
)

// 25.1 to 25.5, T1, T3, T6: systems that are changed and committed in drawn orders, asked against every slot that was written.

// names is all paths of a system and what is there, without a disk: of a file its bytes, of a directory the text of a slash.
type names map[string]string

// sorted is the paths, rising.
func (f names) sorted() []string { return slices.Sorted(maps.Keys(f)) }

// of is the paths of files, or those of directories.
func (f names) of(dirs bool) (l []string) {
	for _, p := range f.sorted() {
		if (f[p] == "/") == dirs {
			l = append(l, p)
		}
	}
	return l
}

// beneath is the names in a directory, rising.
func (f names) beneath(dir string) (l []string) {
	above := strings.TrimSuffix(dir, "/") + "/"
	for _, p := range f.sorted() {
		if s, in := strings.CutPrefix(p, above); in && s != "" && !strings.Contains(s, "/") {
			l = append(l, s)
		}
	}
	return l
}

// draw changes something at random, in the names and in inodes.
func (f names) draw(r *rand.Rand, x *inodes.Inodes, stamp uint64) api.Errno {
	files, dirs := f.of(false), f.of(true)
	above := dirs[r.IntN(len(dirs))]
	p := strings.TrimSuffix(above, "/") + "/" + string(rune('a'+r.IntN(9)))
	_, there := f[p]
	switch pick := r.IntN(10); {
	case pick < 2 && !there:
		f[p] = "/"
		_, err := branch.Mkdir(x, p, stamp)
		return err
	case pick < 6 && !there:
		f[p] = ""
		_, err := branch.Create(x, p, stamp)
		return err
	case pick == 6 && len(files) > 0:
		from := files[r.IntN(len(files))]
		delete(f, from)
		_, err := branch.Unlink(x, from, stamp, nil)
		return err
	case pick == 7 && len(files) > 0 && !there:
		from := files[r.IntN(len(files))]
		f[p] = f[from]
		delete(f, from)
		_, err := branch.Rename(x, from, p, stamp, nil)
		return err
	case len(files) > 0:
		return f.write(r, x, files[r.IntN(len(files))], stamp)
	}
	return api.OK
}

// write writes something into a file, often behind a hole.
func (f names) write(r *rand.Rand, x *inodes.Inodes, p string, stamp uint64) api.Errno {
	at, text := r.IntN(2500), strings.Repeat(string(rune('A'+r.IntN(26))), 1+r.IntN(400))
	old := f[p]
	if len(old) < at+len(text) {
		old += strings.Repeat("\x00", at+len(text)-len(old))
	}
	f[p] = old[:at] + text + old[at+len(text):]
	i, err := find.Lookup(x, p)
	if err != api.OK {
		return err
	}
	_, err = file.Write(x, i.Number, at, text, stamp)
	return err
}

// pick is a path that may be there or not, and a range that may be.
func (f names) pick(r *rand.Rand) asked {
	all := f.sorted()
	p := all[r.IntN(len(all))]
	size := len(f[p])
	off := r.IntN(size + 1)
	x := asked{p, off, r.IntN(size - off + 1)}
	switch r.IntN(12) {
	case 0:
		x.n = size - off + 1
	case 1:
		x.off, x.n = 0, size
	case 2:
		x.p = strings.TrimSuffix(p, "/") + "/"
	case 3:
		x.p = strings.TrimSuffix(p, "/") + "/" + string(rune('a'+r.IntN(9)))
	case 4:
		x.off = -1
	}
	return x
}

// run is a build and all that was committed there, without a disk.
type run struct {
	build
	rand   *rand.Rand
	now    names
	was    []names       // beneath each slot, by its counter
	images [][]api.Block // behind each commit, the first one behind the format

	asked, right, refused, cuts, commits int
}

// drawnRun is a run on a formatted disk.
func drawnRun(t *testing.T, r *rand.Rand, blocks int) *run {
	b := building(t, blocks)
	fresh := names{"/": "/"}
	return &run{build: b, rand: r, now: maps.Clone(fresh), was: []names{nil, fresh}, images: [][]api.Block{b.d.Image()}}
}

// step changes the system, and commits it or does not, with a cut or without.
func (k *run) step() {
	k.t.Helper()
	for range 1 + k.rand.IntN(6) {
		k.ok(k.now.draw(k.rand, k.s.Inodes(), k.s.Stamp()))
	}
	fresh, err := k.s.New()
	k.ok(err)
	if fresh == 0 || k.s.Fits() != api.OK {
		k.again()
		return
	}
	k.eachSlot("changed, and not committed")
	if k.rand.IntN(4) == 0 {
		k.cut(fresh)
		return
	}
	k.ok(k.s.Commit())
	k.committed()
}

// committed keeps what there is behind a commit.
func (k *run) committed() {
	k.commits++
	k.was = append(k.was, maps.Clone(k.now))
	k.images = append(k.images, k.d.Image())
}

// again mounts the system again: what was not committed is lost.
func (k *run) again() {
	k.s = k.mount([]int{0, 3, 30, api.MaxCache}[k.rand.IntN(4)])
	k.now = maps.Clone(k.was[len(k.was)-1])
}

// cut commits with a cut at one of its events.
func (k *run) cut(fresh int) {
	k.t.Helper()
	k.cuts++
	event, after := k.rand.IntN(fresh+1), k.rand.IntN(2) == 0
	k.d.Cut(api.Cut{Event: k.d.Events() + event, After: after})
	if err := k.s.Commit(); err != api.ErrCut {
		k.t.Fatalf("Commit with a cut = %d", err)
	}
	k.same("without power", k.ask(k.cache(9), k.slot(), "/", 0, 0), fails(api.ErrCut))
	k.d.Revive()
	if event == fresh && after {
		k.committed()
	} else {
		// Free blocks may be other ones now.
		k.images[len(k.images)-1] = k.d.Image()
	}
	k.again()
}

// slots is all that were written, and the zero one.
func (k *run) slots() []api.Slot { return append(k.r.Written(), api.Slot{}) }

// eachSlot asks something against each slot: with a new cache all must be as the formats say, with that of the state it must be right or refused.
func (k *run) eachSlot(what string) {
	k.t.Helper()
	for _, s := range k.slots() {
		was := k.was[max(1, s.Counter)]
		x := was.pick(k.rand)
		k.asked++
		got := k.ask(k.cache([]int{0, 1, 5, api.MaxCache}[k.rand.IntN(4)]), s, x.p, x.off, x.n)
		k.same(what, got, k.told(s, x))
		if s != (api.Slot{}) {
			k.rightOrRefused(what, s, x, got)
			k.rightOrRefused(what+", by the state's cache", s, x, k.ask(k.s.Cache(), s, x.p, x.off, x.n))
		}
	}
}

// rightOrRefused asks that an answer is what was committed, or ErrTampered, which it may not be of the last slot on a quiet disk.
func (k *run) rightOrRefused(what string, s api.Slot, x asked, got answers) {
	k.t.Helper()
	if !k.tampered(what, got, k.meant(s, x, got)) {
		k.right++
		k.holds(s, x.p, x.off, got)
		return
	}
	if k.refused++; s == k.slot() && slices.Equal(k.d.Image(), k.images[len(k.images)-1]) {
		k.t.Fatalf("%s: of the last slot %s is ErrTampered", what, x.p)
	}
}

// meant is what must be answered by the names that were committed, with the numbers and the proofs of an answer, which the names don't have.
func (k *run) meant(s api.Slot, x asked, got answers) answers {
	was := k.was[s.Counter]
	bare := strings.TrimSuffix(x.p, "/")
	if bare == "" {
		bare = "/"
	}
	text, there := was[bare]
	above := bare[:max(1, strings.LastIndexByte(bare, '/'))]
	switch {
	case !there && was[above] != "/":
		return fails(api.ErrDir)
	case !there:
		return fails(api.ErrMissing)
	case text == "/":
		return k.meantDir(was, bare, got)
	case bare != x.p:
		return fails(api.ErrDir)
	}
	want := answers{number: got.number, inode: got.inode, size: len(text), listErr: api.ErrDir, text: got.text}
	want.inode.Kind, want.inode.Size = api.KindFile, len(text)
	if x.off < 0 || x.n > len(text)-x.off {
		want.makeErr, want.text = api.ErrRange, ""
		return want
	}
	want.bytes = text[x.off : x.off+x.n]
	return want
}

// meantDir is what must be answered of a directory.
func (k *run) meantDir(was names, p string, got answers) answers {
	in := was.beneath(p)
	want := answers{number: got.number, inode: got.inode, size: 64 * len(in), makeErr: api.ErrArg, list: got.list}
	want.inode.Kind, want.inode.Size = api.KindDir, 64*len(in)
	for i, s := range in {
		l := api.Link{Name: s}
		if i < len(got.links) {
			l.Inode = got.links[i].Inode
		}
		want.links = append(want.links, l)
	}
	return want
}

// spoil writes blocks over, or lays an older image over all of them, asks each slot, and lays all back.
func (k *run) spoil() {
	k.t.Helper()
	right := k.d.Image()
	image := slices.Clone(right)
	old := k.images[k.rand.IntN(len(k.images))]
	switch k.rand.IntN(4) {
	case 0:
		image = slices.Clone(old)
	case 1:
		for at := range image {
			if k.rand.IntN(8) == 0 {
				image[at] = old[at]
			}
		}
	case 2:
		for range 1 + k.rand.IntN(6) {
			image[1+k.rand.IntN(len(image)-1)] = right[k.rand.IntN(len(right))]
		}
	default:
		for range 1 + k.rand.IntN(6) {
			at := k.rand.IntN(len(image))
			image[at][k.rand.IntN(256)] ^= byte(1 << k.rand.IntN(8))
		}
	}
	k.ok(k.d.Load(image))
	k.eachSlot("spoilt")
	k.ok(k.d.Load(right))
}

// older lays each older image over the disk: against its own slot all that was committed then is there.
func (k *run) older() {
	k.t.Helper()
	right := k.d.Image()
	for i, s := range k.r.Written() {
		k.ok(k.d.Load(k.images[i]))
		for _, p := range append(k.was[s.Counter].sorted(), "/q", "/a/") {
			x := asked{p, 0, len(k.was[s.Counter][p])}
			got := k.ask(k.cache(50), s, x.p, x.off, x.n)
			k.same("an older image", got, k.told(s, x))
			if k.same("an older image", got, k.meant(s, x, got)); got.inodeErr == api.ErrTampered {
				k.t.Fatalf("on its own image %s of the slot %d is refused", p, s.Counter)
			}
			k.holds(s, p, 0, got)
		}
	}
	k.ok(k.d.Load(right))
}

func TestDrawn(t *testing.T) {
	t.Parallel()
	var all run
	for seed := range uint64(8) {
		k := drawnRun(t, rand.New(rand.NewPCG(seed, 25)), []int{60, 90, 200, 1025}[seed%4])
		for range 20 {
			k.step()
			k.eachSlot("quiet")
			k.spoil()
		}
		k.older()
		if _, _, both := k.l.Collision(); both {
			t.Fatal("the log has a collision")
		}
		all.commits += k.commits
		all.cuts += k.cuts
		all.asked += k.asked
		all.right += k.right
		all.refused += k.refused
	}
	t.Logf("%d commits, %d cuts, %d asked: %d right, %d refused", all.commits, all.cuts, all.asked, all.right, all.refused)
	if all.commits < 50 || all.cuts < 10 || min(all.right, all.refused) < 500 {
		t.Error("some of all that may be drawn is too seldom")
	}
}
