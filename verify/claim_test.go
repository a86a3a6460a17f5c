package verify_test

import (
	"math/rand/v2"
	"slices"
	"strings"
	"testing"

	"signet/api"
	"signet/proof"
	"signet/verify"
)

// 26.4, 26.7: what is made is OK, for just what it was made of.

// Of a proof no other bytes of that length are OK, whatever range and text they are.
func TestOtherBytes(t *testing.T) {
	t.Parallel()
	b, s := world(t)
	for _, x := range ranges {
		bytes, text := b.bytes(x.p, x.off, x.n), b.proof(x.p, x.off, x.n)
		q := question{s, x.p, x.off, bytes, text}
		at := []int{0, 1, x.n / 2, x.n - 2, x.n - 1}
		for edge := 256 - x.off%256; edge < x.n; edge += 256 {
			at = append(at, edge-1, edge)
		}
		for _, i := range at {
			for bit := range 8 {
				if i < 0 || i >= x.n {
					continue
				}
				q.bytes = turned(bytes, 8*i+bit)
				if err := q.asksCheck(t); err != api.ErrClaim {
					t.Fatalf("Check of %s with the byte %d another one = %d", x.p, i, err)
				}
			}
		}
		others := []string{full(x.n), strings.Repeat("\x00", x.n), strings.Repeat("\xff", x.n), strings.ToUpper(bytes)}
		if x.n > 0 {
			others = append(others, bytes[1:]+bytes[:1], bytes[x.n-1:]+bytes[:x.n-1])
		}
		for _, other := range others {
			want := api.ErrClaim
			if other == bytes {
				want = api.OK
			}
			if q.bytes = other; len(other) == x.n {
				if err := q.asksCheck(t); err != want {
					t.Fatalf("Check of %s with other bytes = %d; want %d", x.p, err, want)
				}
			}
		}
	}
}

// Of fewer bytes, and of other ranges, the text is one only if it is that range's.
func TestOtherRanges(t *testing.T) {
	t.Parallel()
	b, s := world(t)
	all := full(1300)
	r := rand.New(rand.NewPCG(26, 1))
	oks := 0
	for range 600 {
		off, from := r.IntN(1300), r.IntN(1300)
		if r.IntN(2) == 0 {
			from = off
		}
		n, many := r.IntN(1301-off), r.IntN(1301-from)
		if r.IntN(3) == 0 {
			n, many = min(n, 90), min(many, 90)
		}
		text := b.proof("/long", off, n)
		err := question{s, "/long", from, all[from : from+many], text}.asksCheck(t)
		if same := text == b.proof("/long", from, many); same != (err == api.OK) {
			t.Fatalf("the proof of %d bytes from %d on, for %d from %d on: %d", n, off, many, from, err)
		}
		if err == api.OK {
			oks++
		}
	}
	if oks < 50 {
		t.Errorf("%d are OK", oks)
	}
}

// Each bit of a proof turned over, one by one: it is one of no bytes any more.
func TestEachBitTurnedOver(t *testing.T) {
	t.Parallel()
	b, s := small(t)
	text := b.proof("/d/f", 1, 3)
	met := meantCheck(s, "/d/f", 1, "ell", text)
	for bit := range 8 * len(text) {
		bad := turned(text, bit)
		want := api.ErrTampered
		for _, at := range met.places {
			if bit/8 >= at && bit/8 < at+4 {
				// The directories have one entry each.
				want = api.ErrProof
			}
		}
		for _, bytes := range []string{"ell", "elk", "Ell", "\x00\x00\x00", bad[1545:1548]} {
			if err := verify.Check(nil, s, "/d/f", 1, bytes, bad); err != want {
				t.Fatalf("Check of %q with the bit %d turned over = %d; want %d", bytes, bit, err, want)
			}
		}
	}
}

// The same of a proof with entries of more leaves, over two leaves of a file.
func TestEachBitOfALongProof(t *testing.T) {
	t.Parallel()
	b := building(t, 200)
	b.dir("/five")
	b.file("/long", 700, map[int]string{0: full(700)})
	b.links("/long", "/five", 5)
	s := b.commit()
	p := "/five" + numbered(4)
	text := b.proof(p, 200, 100)
	right, other := full(700)[200:300], turned(full(700)[200:300], 400)
	if err := verify.Check(nil, s, p, 200, right, text); err != api.OK {
		t.Fatalf("Check = %d", err)
	}
	for bit := range 8 * len(text) {
		bad := turned(text, bit)
		if err := verify.Check(nil, s, p, 200, right, bad); err != api.ErrTampered && err != api.ErrProof {
			t.Fatalf("Check with the bit %d turned over = %d", bit, err)
		}
		if err := verify.Check(nil, s, p, 200, other, bad); err == api.OK {
			t.Fatalf("with the bit %d turned over other bytes are OK", bit)
		}
	}
}

// Each bit of the proof of a list turned over.
func TestEachBitOfAList(t *testing.T) {
	t.Parallel()
	b := building(t, 64)
	b.dir("/d", "/d/a", "/d/b", "/d/c", "/d/d", "/d/e")
	s := b.commit()
	links, text := b.list("/d")
	b.ok(verify.CheckList(nil, s, "/d", links, text), verify.CheckMissing(nil, s, "/d/x", text))
	for bit := range 8 * len(text) {
		bad := turned(text, bit)
		for _, err := range []api.Errno{verify.CheckList(nil, s, "/d", links, bad), verify.CheckMissing(nil, s, "/d/x", bad), verify.CheckMissing(nil, s, "/d/a", bad)} {
			if err != api.ErrTampered && err != api.ErrProof {
				t.Fatalf("with the bit %d turned over: %d", bit, err)
			}
		}
	}
}

// Each proof is one against its own slot alone, an older tree's against the newer slot none, and the other way round.
func TestProofsAgainstOtherSlots(t *testing.T) {
	b := building(t, 400)
	b.dir("/d")
	b.file("/f", 700, map[int]string{0: full(700)})
	b.file("/d/same", 5, map[int]string{0: "hello"})
	b.commit()
	var files, sames, lists, bytes []string
	var slots []api.Slot
	for i := range 20 {
		b.write("/f", map[int]string{250: numbered(i)})
		if i%3 == 0 {
			b.dir("/d" + numbered(i))
		}
		slots = append(slots, b.commit())
		_, list := b.list("/d")
		files, sames, lists = append(files, b.proof("/f", 200, 100)), append(sames, b.proof("/d/same", 0, 5)), append(lists, list)
		bytes = append(bytes, b.bytes("/f", 200, 100))
	}
	for i := range slots {
		for k, s := range slots {
			want := api.ErrTampered
			if i == k {
				want = api.OK
			}
			question{s, "/f", 200, bytes[i], files[i]}.is(t, "another slot", want)
			question{s, "/d/same", 0, "hello", sames[i]}.is(t, "another slot", want)
			if _, err := verify.List(nil, s, "/d", lists[i]); err != want {
				t.Errorf("List of the slot %d against the slot %d = %d", i, k, err)
			}
			// The root of the one with what hangs beneath the other.
			if i != k {
				question{s, "/f", 200, bytes[i], files[k][:256] + files[i][256:]}.is(t, "another root", api.ErrTampered)
				mixed := slots[k]
				mixed.Counter = slots[i].Counter
				question{mixed, "/f", 200, bytes[k], files[k]}.is(t, "another counter", api.ErrProof)
				mixed = slots[i]
				mixed.Root.At = slots[k].Root.At
				question{mixed, "/f", 200, bytes[i], files[i]}.is(t, "another number", api.OK)
			}
		}
	}
}

// A proof against an older slot that still stands is one against it.
func TestAnOlderSlotThatStands(t *testing.T) {
	b := building(t, 400)
	b.file("/f", 300, map[int]string{0: full(300)})
	old := b.commit()
	b.write("/f", map[int]string{250: "other"})
	now := b.commit()
	bytes, text, err := proof.Make(b.s.Cache(), old, "/f", 240, 20)
	if bytes != full(300)[240:260] || err != api.OK {
		t.Fatalf("Make against the older slot = %q, %d", bytes, err)
	}
	question{old, "/f", 240, bytes, text}.is(t, "the older slot", api.OK)
	question{now, "/f", 240, bytes, text}.is(t, "the newer slot", api.ErrTampered)
	question{now, "/f", 240, bytes, b.proof("/f", 240, 20)}.is(t, "older bytes", api.ErrClaim)
	question{old, "/f", 240, b.bytes("/f", 240, 20), text}.is(t, "newer bytes", api.ErrClaim)
}

// What is not committed has no part.
func TestWhatIsNotCommitted(t *testing.T) {
	b, s := small(t)
	b.write("/d/f", map[int]string{0: "HELLO"})
	question{s, "/d/f", 0, "hello", b.proof("/d/f", 0, 5)}.is(t, "committed", api.OK)
	question{s, "/d/f", 0, "HELLO", b.proof("/d/f", 0, 5)}.is(t, "not committed", api.ErrClaim)
}

// Proofs that do not hang on the disk: it is written over, and without power.
func TestThereIsNoDisk(t *testing.T) {
	b, s := small(t)
	text := b.proof("/d/f", 0, 5)
	b.ok(b.d.Load(slices.Repeat([]api.Block{junk(1)}, 64)))
	question{s, "/d/f", 0, "hello", text}.is(t, "written over", api.OK)
	b.d.Cut(api.Cut{Event: b.d.Events()})
	b.d.Event()
	question{s, "/d/f", 0, "hello", text}.is(t, "without power", api.OK)
	raw := len(b.d.Log())
	question{s, "/d/f", 0, "hellO", text}.is(t, "without power", api.ErrClaim)
	if len(b.d.Log()) != raw {
		t.Error("the disk was read")
	}
}
